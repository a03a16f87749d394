/-
  Words for worlds: what a call keeps of memory; a slice of integers that came in; the reader of drawn inputs. No program is named here.
-/
import Derived.WalkKit
import Derived.WalkSpells
import Derived.Below
import Derived.Lib.Hide
import Derived.Deep.QuietTactic
import Derived.BigQuiet
import Derived.IntWalk
import Derived.OpenShut
namespace Go.Proofs.Ytigeffgehckbpab
open Go.RowKit
set_option linter.unusedVariables false

/-- A slice of integers that came in: nil, or a row of 'cap' cells that hold the numbers 'zs'. -/
def IsRow (k : IntKind) (w : World) (a : Option Addr) (len cap : Nat) (zs : List Int) : Prop :=
  (a = none ∧ len = 0 ∧ cap = 0 ∧ zs = []) ∨
  ∃ x, a = some x ∧ len ≤ cap ∧ cap ≤ maxLen ∧ zs.length = cap ∧ (∀ i, i < zs.length → w.cell? (x.add i) = some (.int k (zs.getD i 0))) ∧ ∀ n ∈ zs, (Lit.int k n).wf = true

/-- All that was there is as it was, but for block b. -/
structure Kb (b : Nat) (w w' : World) : Prop where
  os : w'.os = w.os
  tape : w'.tape = w.tape
  output : w'.output = w.output
  size : w.heap.size ≤ w'.heap.size
  block : ∀ k, k < w.heap.size → k ≠ b → w'.heap[k]? = w.heap[k]?
theorem Kb.refl (b : Nat) (w : World) : Kb b w w := ⟨rfl, rfl, rfl, Nat.le_refl _, fun _ _ _ => rfl⟩
theorem Kb.trans {b : Nat} {u v w : World} (h : Kb b u v) (k : Kb b v w) : Kb b u w :=
  ⟨k.os.trans h.os, k.tape.trans h.tape, k.output.trans h.output, Nat.le_trans h.size k.size, fun i hi hb => (k.block i (Nat.lt_of_lt_of_le hi h.size) hb).trans (h.block i hi hb)⟩
theorem Kb.of_below {b : Nat} {w w' : World} (h : Below w.heap.size w w') : Kb b w w' := ⟨h.os, h.tape, h.output, h.size, fun k hk _ => h.block k hk⟩
theorem Kb.below {b B : Nat} {w w' : World} (h : Kb b w w') (hB : B ≤ w.heap.size) (hb : B ≤ b) : Below B w w' :=
  ⟨h.os, h.tape, h.output, h.size, fun k hk => h.block k (by omega) (by omega)⟩
theorem Kb.drewN {b : Nat} {u w : World} (h : Kb b u w) (n : Nat) : Kb b u (w.drewN n) := h.trans ⟨rfl, rfl, rfl, Nat.le_refl _, fun _ _ _ => rfl⟩
theorem Kb.drew {b : Nat} {u w : World} (h : Kb b u w) : Kb b u w.drew := h.trans ⟨rfl, rfl, rfl, Nat.le_refl _, fun _ _ _ => rfl⟩
theorem Kb.alloc {b : Nat} {u w : World} (h : Kb b u w) (o : Obj) : Kb b u (w.alloc o) :=
  h.trans ⟨rfl, rfl, rfl, by simp, fun k hk _ => Below.heap_alloc _ _ _ (by omega)⟩
theorem Kb.setCell {b : Nat} {u w : World} (h : Kb b u w) {p : Addr} (hp : p.block = b) (v : Value) : Kb b u (w.setCell p v) :=
  h.trans ⟨rfl, rfl, rfl, by simp [World.setCell], fun k hk hb => Below.heap_setCell _ _ _ _ (by omega)⟩
theorem Kb.cell {b : Nat} {w w' : World} (h : Kb b w w') {p : Addr} (hp : p.block < w.heap.size) (hb : p.block ≠ b) : w'.cell? p = w.cell? p := World.cell?_of_block (w := w) (h.block p.block hp hb)
theorem Kb.frozen {b : Nat} {w w' : World} (h : Kb b w w') {p : Addr} (hp : p.block < w.heap.size) (hb : p.block ≠ b) : w'.frozen? p = w.frozen? p := World.frozen?_of_block (w := w) (h.block p.block hp hb)

/-- Bytes that lie below block B. -/
def Bys (B : Nat) (w : World) (a : Option Addr) (len : Nat) : Prop :=
  0 < len → ∃ bb off, a = some ⟨bb, off, none⟩ ∧ bb < B ∧ ∀ i, i < len → ∃ z : Int, 0 ≤ z ∧ z ≤ 255 ∧ w.cell? ⟨bb, off + i, none⟩ = some (.int .u8 z)
theorem Bys.below {B : Nat} {w w' : World} {a : Option Addr} {len : Nat} (h : Bys B w a len) (hb : Below B w w') : Bys B w' a len := by
  intro hl
  obtain ⟨bb, off, h1, h2, h3⟩ := h hl
  refine ⟨bb, off, h1, h2, fun i hi => ?_⟩
  obtain ⟨z, z1, z2, z3⟩ := h3 i hi
  exact ⟨z, z1, z2, by rw [hb.cell (p := ⟨bb, off + i, none⟩) h2]; exact z3⟩
theorem Bys.cut {B : Nat} {w : World} {a : Option Addr} {len len' : Nat} (h : Bys B w a len) (hl : len' ≤ len) : Bys B w a len' := by
  intro h0
  obtain ⟨bb, off, h1, h2, h3⟩ := h (by omega)
  exact ⟨bb, off, h1, h2, fun i hi => h3 i (by omega)⟩
/-- The reader of drawn inputs lies in block b: its bytes lie below block B, at most 2000 of them; it has read at most q of them. -/
structure Rd (B : Nat) (b : Nat) (q : Nat) (w : World) : Prop where
  above : B ≤ b
  inb : b < w.heap.size
  bytes : ∃ (a : Option Addr) (len cap : Nat), len ≤ 2000 ∧ w.cell? ⟨b, 0, none⟩ = some (.slice a len cap) ∧ Bys B w a len
  place : ∃ p : Nat, p ≤ q ∧ w.cell? ⟨b, 1, none⟩ = some (.int .i64 (p : Int)) ∧ w.frozen? ⟨b, 1, none⟩ = false
theorem Rd.keep {B b q : Nat} {w w' : World} (h : Rd B b q w) (k : Below w.heap.size w w') : Rd B b q w' := by
  obtain ⟨h1, h2, ⟨a, len, cap, g1, g2, g3⟩, ⟨p, p1, p2, p3⟩⟩ := h
  refine ⟨h1, Nat.lt_of_lt_of_le h2 k.size, ⟨a, len, cap, g1, ?_, g3.below (k.mono (by omega))⟩, p, p1, ?_, ?_⟩
  · rw [k.cell (p := ⟨b, 0, none⟩) h2]; exact g2
  · rw [k.cell (p := ⟨b, 1, none⟩) h2]; exact p2
  · rw [k.frozen (p := ⟨b, 1, none⟩) h2]; exact p3
theorem Rd.mono {B b q q' : Nat} {w : World} (h : Rd B b q w) (hq : q ≤ q') : Rd B b q' w := by
  obtain ⟨h1, h2, h3, ⟨p, p1, p2, p3⟩⟩ := h
  exact ⟨h1, h2, h3, p, by omega, p2, p3⟩

theorem Rd.keepB {B b q base : Nat} {w w' : World} (h : Rd B b q w) (k : Below base w w') (hb : b < base) : Rd B b q w' := by
  obtain ⟨h1, h2, ⟨a, len, cap, g1, g2, g3⟩, ⟨p, p1, p2, p3⟩⟩ := h
  refine ⟨h1, Nat.lt_of_lt_of_le h2 k.size, ⟨a, len, cap, g1, ?_, g3.below (k.mono (by omega))⟩, p, p1, ?_, ?_⟩
  · rw [k.cell (p := ⟨b, 0, none⟩) hb]; exact g2
  · rw [k.cell (p := ⟨b, 1, none⟩) hb]; exact p2
  · rw [k.frozen (p := ⟨b, 1, none⟩) hb]; exact p3
theorem Kb.then {b : Nat} {u v w : World} (h : Kb b u v) (k : Below u.heap.size v w) : Kb b u w :=
  ⟨k.os.trans h.os, k.tape.trans h.tape, k.output.trans h.output, Nat.le_trans h.size k.size, fun i hi hb => (k.block i hi).trans (h.block i hi hb)⟩
theorem Kb.setNew {b : Nat} {u w : World} (h : Kb b u w) {p : Addr} (hp : u.heap.size ≤ p.block) (v : Value) : Kb b u (w.setCell p v) :=
  ⟨h.os, h.tape, h.output, by simpa [World.setCell] using h.size, fun k hk hb => by
    have hne : p.block ≠ k := by omega
    rw [← h.block k hk hb]
    simp [World.setCell, Array.getElem?_modify, hne]⟩
theorem xor_nn (x y : Int) (hx : 0 ≤ x) (hx' : x < 4611686018427387904) (hy : 0 ≤ y) (hy' : y < 4611686018427387904) : 0 ≤ bits .xor .i64 x y ∧ bits .xor .i64 x y < 4611686018427387904 := by
  obtain ⟨a, rfl⟩ := Int.eq_ofNat_of_zero_le hx
  obtain ⟨c, rfl⟩ := Int.eq_ofNat_of_zero_le hy
  have hx : a ^^^ c < 2 ^ 62 := Nat.xor_lt_two_pow (by omega) (by omega)
  have h1 : (BitVec.ofInt 64 (a : Int)).toNat = a := by
    rw [BitVec.ofInt_natCast, BitVec.toNat_ofNat]; exact Nat.mod_eq_of_lt (by omega)
  have h2 : (BitVec.ofInt 64 (c : Int)).toNat = c := by
    rw [BitVec.ofInt_natCast, BitVec.toNat_ofNat]; exact Nat.mod_eq_of_lt (by omega)
  have e : bits .xor .i64 (a : Int) (c : Int) = ((a ^^^ c : Nat) : Int) := by
    show IntKind.i64.wrap ((BitVec.ofInt 64 (a : Int) ^^^ BitVec.ofInt 64 (c : Int)).toNat : Int) = _
    rw [BitVec.toNat_xor, h1, h2]
    exact IntWalk.i64_in _ (by omega)
  rw [e]
  omega
/-- A row that has an element: its cells, spelt as the walk spells them. -/
theorem IsRow.at {k : IntKind} {w : World} {a : Option Addr} {len cap : Nat} {zs : List Int} (h : IsRow k w a len cap zs) (hl : 0 < len) :
    ∃ b off, a = some ⟨b, off, none⟩ ∧ len ≤ cap ∧ cap ≤ maxLen ∧ zs.length = cap ∧ (∀ i, i < cap → w.cell? ⟨b, off + i, none⟩ = some (.int k (zs.getD i 0))) ∧ ∀ n ∈ zs, (Lit.int k n).wf = true := by
  rcases h with ⟨_, h, _⟩ | ⟨x, rfl, h1, h2, h3, h4, h5⟩
  · omega
  · obtain ⟨b, off, spot⟩ := x
    have hc := h4 0 (by omega)
    have hspot : spot = none := by simpa [Addr.add] using World.cell?_spot hc
    subst hspot
    refine ⟨b, off, rfl, h1, h2, h3, fun i hi => ?_, h5⟩
    have := h4 i (by omega)
    by_cases h0 : i = 0
    · subst h0; simpa [Addr.add] using this
    · simpa [Addr.add, h0] using this
theorem byte_of {zs : List Int} (h : ∀ n ∈ zs, (Lit.int .u8 n).wf = true) (i : Nat) : 0 ≤ zs.getD i 0 ∧ zs.getD i 0 ≤ 255 := by
  by_cases hi : i < zs.length
  · have := h (zs.getD i 0) (by rw [List.getD_eq_getElem?_getD, List.getElem?_eq_getElem hi]; exact List.getElem_mem hi)
    exact bounds_u8 this
  · rw [List.getD_eq_getElem?_getD, List.getElem?_eq_none (by omega)]; simp
theorem cell_lt {w : World} {p : Addr} {v : Value} (h : w.cell? p = some v) : p.block < w.heap.size := by
  rcases Nat.lt_or_ge p.block w.heap.size with h' | h'
  · exact h'
  · exfalso
    have e : w.heap[p.block]? = none := by simp [h']
    simp [World.cell?, e] at h
theorem Bys.of_row {w : World} {a : Option Addr} {len cap : Nat} {zs : List Int} (h : IsRow .u8 w a len cap zs) : Bys w.heap.size w a len := by
  intro hl
  obtain ⟨b, off, rfl, h1, h2, h3, h4, h5⟩ := h.at hl
  refine ⟨b, off, rfl, cell_lt (h4 0 (by omega)), fun i hi => ?_⟩
  have := byte_of h5 i
  exact ⟨_, this.1, this.2, h4 i (by omega)⟩
theorem cell_other (w : World) {a c : Addr} (v : Value) (h : a ≠ c) : (w.setCell a v).cell? c = w.cell? c := World.cell?_setCell_other w _ _ _ h
theorem cell_same (w : World) {a : Addr} {u : Value} (v : Value) (h : w.cell? a = some u) : (w.setCell a v).cell? a = some v := World.cell?_setCell_same w _ _ h
theorem IsRow.sizes {k : IntKind} {w : World} {a : Option Addr} {len cap : Nat} {zs : List Int} (h : IsRow k w a len cap zs) : len ≤ cap ∧ cap ≤ maxLen := by
  rcases h with ⟨_, h1, h2, _⟩ | ⟨x, _, h1, h2, _⟩
  · subst h1 h2; exact ⟨Nat.le_refl _, Nat.zero_le _⟩
  · exact ⟨h1, h2⟩
theorem beqT {a b : Int} (h : a = b) : (a == b) = true := beq_iff_eq.2 h
theorem beqF {a b : Int} (h : a ≠ b) : (a == b) = false := beq_eq_false_iff_ne.2 h
/-- A call that returned v, and turned nothing that was there. -/
def Bel (v : Value) (w : World) (e : Ending) (w' : World) : Prop := e = .returned v ∧ Below w.heap.size w w'
theorem Bel.below {v : Value} {w : World} {e : Ending} {w' : World} (h : Bel v w e w') : e = .returned v ∧ Below w.heap.size w w' := h
theorem bel_box (w : World) (o : Obj) : Below w.heap.size w (w.alloc o) := (Below.refl _ _).alloc (Nat.le_refl _) o
/-- What a pick of n gives. -/
def Pk (n v : Int) : Prop := 0 ≤ v ∧ (1 ≤ n → v < n) ∧ (n < 1 → v = 0)
end Go.Proofs.Ytigeffgehckbpab
