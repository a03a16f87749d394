/-
  Words for slices of integers in memory: what one reads as (Sl), one that the call itself made and may write (Own), what a piece of text may have turned (Chg). No program is named here.
-/
import Derived.Test.YtigeffgehckbpabBase
import Derived.Laws.OwnMore
import Derived.Deep.AppendLies
import Derived.Deep.Draws
import Derived.Laws.Rows
import Derived.OwnWalk
import Derived.Deep.MidRow
namespace Go.Proofs.Ytigeffgehckbpab
open Go.RowKit
set_option linter.unusedVariables false
set_option linter.unusedSimpArgs false

/-- All that was there is as it was, but for blocks of which p holds. -/
structure Chg (p : Nat → Prop) (w w' : World) : Prop where
  os : w'.os = w.os
  tape : w'.tape = w.tape
  output : w'.output = w.output
  size : w.heap.size ≤ w'.heap.size
  block : ∀ k, k < w.heap.size → ¬ p k → w'.heap[k]? = w.heap[k]?
theorem Chg.refl (p : Nat → Prop) (w : World) : Chg p w w := ⟨rfl, rfl, rfl, Nat.le_refl _, fun _ _ _ => rfl⟩
theorem Chg.trans {p : Nat → Prop} {u v w : World} (h : Chg p u v) (k : Chg p v w) : Chg p u w :=
  ⟨k.os.trans h.os, k.tape.trans h.tape, k.output.trans h.output, Nat.le_trans h.size k.size, fun i hi hb => (k.block i (Nat.lt_of_lt_of_le hi h.size) hb).trans (h.block i hi hb)⟩
theorem Chg.mono {p q : Nat → Prop} {w w' : World} (h : Chg p w w') (hpq : ∀ k, k < w.heap.size → p k → q k) : Chg q w w' :=
  ⟨h.os, h.tape, h.output, h.size, fun k hk hq => h.block k hk fun hp => hq (hpq k hk hp)⟩
theorem Chg.of_below {B : Nat} {w w' : World} (h : Below B w w') : Chg (fun k => B ≤ k) w w' := ⟨h.os, h.tape, h.output, h.size, fun k _ hb => h.block k (by omega)⟩
theorem Chg.below {p : Nat → Prop} {B : Nat} {w w' : World} (h : Chg p w w') (hB : B ≤ w.heap.size) (hp : ∀ k, p k → B ≤ k) : Below B w w' :=
  ⟨h.os, h.tape, h.output, h.size, fun k hk => h.block k (by omega) (fun hq => by have := hp k hq; omega)⟩
theorem Chg.drewN {p : Nat → Prop} {u w : World} (h : Chg p u w) (n : Nat) : Chg p u (w.drewN n) := h.trans ⟨rfl, rfl, rfl, Nat.le_refl _, fun _ _ _ => rfl⟩
theorem Chg.drew {p : Nat → Prop} {u w : World} (h : Chg p u w) : Chg p u w.drew := h.trans ⟨rfl, rfl, rfl, Nat.le_refl _, fun _ _ _ => rfl⟩
theorem Chg.alloc {p : Nat → Prop} {u w : World} (h : Chg p u w) (o : Obj) : Chg p u (w.alloc o) :=
  h.trans ⟨rfl, rfl, rfl, by simp, fun k hk _ => Below.heap_alloc _ _ _ (by omega)⟩
theorem Chg.setCell {p : Nat → Prop} {u w : World} (h : Chg p u w) {q : Addr} (hp : p q.block ∨ u.heap.size ≤ q.block) (v : Value) : Chg p u (w.setCell q v) :=
  ⟨h.os, h.tape, h.output, by simpa [World.setCell] using h.size, fun k hk hb => (Below.heap_setCell _ _ _ _ (by
    rintro rfl
    rcases hp with hp | hp
    · exact hb hp
    · omega)).trans (h.block k hk hb)⟩
theorem Chg.kb {b : Nat} {w w' : World} (h : Kb b w w') : Chg (fun k => k = b) w w' := ⟨h.os, h.tape, h.output, h.size, fun k hk hb => h.block k hk hb⟩
theorem Chg.cell {p : Nat → Prop} {w w' : World} (h : Chg p w w') {q : Addr} (hq : q.block < w.heap.size) (hb : ¬ p q.block) : w'.cell? q = w.cell? q := World.cell?_of_block (w := w) (h.block q.block hq hb)
theorem Chg.frozen {p : Nat → Prop} {w w' : World} (h : Chg p w w') {q : Addr} (hq : q.block < w.heap.size) (hb : ¬ p q.block) : w'.frozen? q = w.frozen? q := World.frozen?_of_block (w := w) (h.block q.block hq hb)
theorem below_drewN {B : Nat} {a w : World} (h : Below B a w) (n : Nat) : Below B a (w.drewN n) := ⟨h.os, h.tape, h.output, h.size, h.block⟩

/-- The slice 'a' of n elements reads as the numbers zs. -/
structure Sl (w : World) (a : Option Addr) (n : Nat) (zs : List Int) : Prop where
  len : zs.length = n
  at_ : 0 < n → ∃ b off, a = some ⟨b, off, none⟩ ∧ ∀ i, i < n → w.cell? ⟨b, off + i, none⟩ = some (.int .i64 (zs.getD i 0))
/-- The slice 'a' of n elements reads as the numbers zs; its cells may be written, and lie in a block from lo on, below hi. -/
structure Own (lo hi : Nat) (w : World) (a : Option Addr) (n cap : Nat) (zs : List Int) : Prop where
  len : zs.length = n
  le : n ≤ cap
  lim : cap ≤ maxLen
  at_ : 0 < n → ∃ b off, a = some ⟨b, off, none⟩ ∧ lo ≤ b ∧ b < hi ∧ b < w.heap.size ∧ ∀ i, i < n → w.cell? ⟨b, off + i, none⟩ = some (.int .i64 (zs.getD i 0)) ∧ w.frozen? ⟨b, off + i, none⟩ = false
theorem Own.sl {lo hi : Nat} {w : World} {a : Option Addr} {n cap : Nat} {zs : List Int} (h : Own lo hi w a n cap zs) : Sl w a n zs :=
  ⟨h.len, fun hn => by obtain ⟨b, off, h1, _, _, _, h2⟩ := h.at_ hn; exact ⟨b, off, h1, fun i hi => (h2 i hi).1⟩⟩
theorem Sl.get {w : World} {a : Option Addr} {n k : Nat} {zs : List Int} (h : Sl w a n zs) (hk : k < n) :
    ∃ b off z, a = some ⟨b, off, none⟩ ∧ w.cell? ⟨b, off + k, none⟩ = some (.int .i64 z) ∧ Hid (z = zs.getD k 0) := by
  obtain ⟨b, off, h1, h2⟩ := h.at_ (by omega)
  exact ⟨b, off, _, h1, h2 k hk, rfl⟩
theorem Own.get {lo hi : Nat} {w : World} {a : Option Addr} {n cap k : Nat} {zs : List Int} (h : Own lo hi w a n cap zs) (hk : k < n) :
    ∃ b off z, a = some ⟨b, off, none⟩ ∧ lo ≤ b ∧ b < hi ∧ w.cell? ⟨b, off + k, none⟩ = some (.int .i64 z) ∧ w.frozen? ⟨b, off + k, none⟩ = false ∧ Hid (z = zs.getD k 0) := by
  obtain ⟨b, off, h1, h3, h4, _, h2⟩ := h.at_ (by omega)
  exact ⟨b, off, _, h1, h3, h4, (h2 k hk).1, (h2 k hk).2, rfl⟩
theorem Sl.nil (w : World) (a : Option Addr) : Sl w a 0 [] := ⟨rfl, fun h => by omega⟩
theorem Own.nil (lo hi : Nat) (w : World) (a : Option Addr) (cap : Nat) (h : cap ≤ maxLen) : Own lo hi w a 0 cap [] := ⟨rfl, Nat.zero_le _, h, fun h => by omega⟩
theorem Sl.keep {p : Nat → Prop} {w w' : World} {a : Option Addr} {n : Nat} {zs : List Int} (h : Sl w a n zs) (k : Chg p w w') (hp : ∀ b off, a = some ⟨b, off, none⟩ → b < w.heap.size → ¬ p b) : Sl w' a n zs :=
  ⟨h.len, fun hn => by
    obtain ⟨b, off, h1, h2⟩ := h.at_ hn
    have hb : b < w.heap.size := cell_lt (h2 0 hn)
    exact ⟨b, off, h1, fun i hi => by rw [k.cell (q := ⟨b, off + i, none⟩) hb (hp b off h1 hb)]; exact h2 i hi⟩⟩
theorem Sl.below {w w' : World} {a : Option Addr} {n : Nat} {zs : List Int} (h : Sl w a n zs) (k : Below w.heap.size w w') : Sl w' a n zs :=
  h.keep (Chg.of_below k) fun b off _ hb => by omega
theorem Sl.drewN {w : World} {a : Option Addr} {n : Nat} {zs : List Int} (h : Sl w a n zs) (m : Nat) : Sl (w.drewN m) a n zs := ⟨h.len, h.at_⟩
theorem Own.keep {p : Nat → Prop} {lo hi : Nat} {w w' : World} {a : Option Addr} {n cap : Nat} {zs : List Int} (h : Own lo hi w a n cap zs) (k : Chg p w w') (hp : ∀ b, lo ≤ b → b < hi → b < w.heap.size → ¬ p b) : Own lo hi w' a n cap zs :=
  ⟨h.len, h.le, h.lim, fun hn => by
    obtain ⟨b, off, h1, h3, h4, hb, h2⟩ := h.at_ hn
    exact ⟨b, off, h1, h3, h4, Nat.lt_of_lt_of_le hb k.size, fun i hi => by
      rw [k.cell (q := ⟨b, off + i, none⟩) hb (hp b h3 h4 hb), k.frozen (q := ⟨b, off + i, none⟩) hb (hp b h3 h4 hb)]; exact h2 i hi⟩⟩
theorem Own.below {lo hi : Nat} {w w' : World} {a : Option Addr} {n cap : Nat} {zs : List Int} (h : Own lo hi w a n cap zs) (k : Below w.heap.size w w') : Own lo hi w' a n cap zs :=
  h.keep (Chg.of_below k) fun b _ _ hb => by omega
theorem Own.more {lo hi lo' hi' : Nat} {w : World} {a : Option Addr} {n cap : Nat} {zs : List Int} (h : Own lo hi w a n cap zs) (h1 : lo' ≤ lo) (h2 : hi ≤ hi') : Own lo' hi' w a n cap zs :=
  ⟨h.len, h.le, h.lim, fun hn => by obtain ⟨b, off, g1, g2, g3, g4, g5⟩ := h.at_ hn; exact ⟨b, off, g1, by omega, by omega, g4, g5⟩⟩
theorem Own.drewN {lo hi : Nat} {w : World} {a : Option Addr} {n cap : Nat} {zs : List Int} (h : Own lo hi w a n cap zs) (m : Nat) : Own lo hi (w.drewN m) a n cap zs := ⟨h.len, h.le, h.lim, h.at_⟩
theorem Own.drew {lo hi : Nat} {w : World} {a : Option Addr} {n cap : Nat} {zs : List Int} (h : Own lo hi w a n cap zs) : Own lo hi w.drew a n cap zs := ⟨h.len, h.le, h.lim, h.at_⟩
theorem Own.lt {lo hi : Nat} {w : World} {a : Option Addr} {n cap : Nat} {zs : List Int} (h : Own lo hi w a n cap zs) : Own lo w.heap.size w a n cap zs :=
  ⟨h.len, h.le, h.lim, fun hn => by obtain ⟨b, off, g1, g2, g3, g4, g5⟩ := h.at_ hn; exact ⟨b, off, g1, g2, g4, g4, g5⟩⟩
/-- A store into it. -/
theorem Own.set {lo hi : Nat} {w : World} {b off n cap k : Nat} {zs : List Int} (h : Own lo hi w (some ⟨b, off, none⟩) n cap zs) (hk : k < n) (z : Int) :
    Own lo hi (w.setCell ⟨b, off + k, none⟩ (.int .i64 z)) (some ⟨b, off, none⟩) n cap (zs.set k z) := by
  refine ⟨by rw [List.length_set]; exact h.len, h.le, h.lim, fun hn => ?_⟩
  obtain ⟨b', off', g1, g2, g3, g4, g5⟩ := h.at_ hn
  have e1 : b' = b := by injection g1 with g1; injection g1 with g1; exact g1.symm
  have e2 : off' = off := by injection g1 with g1; injection g1 with _ g1; exact g1.symm
  subst e1 e2
  refine ⟨b', off', rfl, g2, g3, by simpa [World.setCell] using g4, fun i hi => ⟨?_, by rw [World.frozen?_setCell]; exact (g5 i hi).2⟩⟩
  by_cases e : i = k
  · subst e
    rw [cell_same _ _ (g5 i hi).1]
    have : i < zs.length := by have := h.len; omega
    simp [List.getD_eq_getElem?_getD, List.getElem?_set, this]
  · rw [cell_other _ _ (by simp only [ne_eq, Addr.mk.injEq, not_and]; omega), (g5 i hi).1]
    simp [List.getD_eq_getElem?_getD, List.getElem?_set, Ne.symm e]
theorem Sl.of_row {w : World} {a : Option Addr} {len cap : Nat} {zs : List Int} (h : IsRow .i64 w a len cap zs) : Sl w a len (zs.take len) := by
  have hs := h.sizes
  refine ⟨?_, fun hn => ?_⟩
  · rcases h with ⟨_, h1, _, h2⟩ | ⟨x, _, h1, h2, h3, _⟩
    · subst h1 h2; rfl
    · rw [List.length_take]; omega
  · obtain ⟨b, off, h1, h2, h3, h4, h5, h6⟩ := h.at hn
    refine ⟨b, off, h1, fun i hi => ?_⟩
    rw [h5 i (by omega)]
    simp [List.getD_eq_getElem?_getD, List.getElem?_take, hi]
/-- What 'ownsRow' says, as Own. -/
theorem Own.of_row {base : Nat} {e : TypeId} {w : World} {a : Option Addr} {n cap : Nat} {zs : List Int} (h : w.ownsRow base e 1 (.slice a n cap) n (zs.map (Value.int .i64))) : Own base w.heap.size w a n cap zs := by
  have hl : zs.length = n := by have := h.1; simpa using this
  have h' := h
  rcases h.2 with ⟨h1, h2⟩ | ⟨g, cap', cur, hv, hb, hh, hle, hsz, hx, ht⟩
  · injection h1 with h1 h2 h3
    subst h1 h2 h3
    exact ⟨hl, Nat.le_refl _, by unfold maxLen; omega, fun h => by omega⟩
  · injection hv with h1 h2 h3
    subst h1 h3
    have hlt : g < w.heap.size := by
      rcases Nat.lt_or_ge g w.heap.size with h' | h'
      · exact h'
      · rw [Array.getElem?_eq_none h'] at hh; cases hh
    refine ⟨hl, hle, hsz, fun hn => ⟨g, 0, rfl, hb, hlt, hlt, fun i hi => ⟨?_, h'.frozenAt (0 + i)⟩⟩⟩
    rw [Nat.zero_add, h'.cellAt i (by omega)]
    simp [List.getElem?_eq_getElem (show i < zs.length by omega)]
/-- A slice value that owns a row: its form. -/
theorem row_form {base : Nat} {e : TypeId} {w : World} {v : Value} {n : Nat} {xs : List Value} (h : w.ownsRow base e 1 v n xs) : ∃ a cap, v = .slice a n cap := by
  rcases h.2 with ⟨h1, h2⟩ | ⟨g, cap', cur, hv, _⟩
  · subst h2; exact ⟨none, 0, h1⟩
  · exact ⟨_, _, hv⟩
theorem chg_grown {p : Nat → Prop} {u w w' : World} {row : Option Nat} (h : Chg p u w) (hg : w.grownBy w' row) (hr : ∀ g, row = some g → p g ∨ u.heap.size ≤ g) : Chg p u w' :=
  ⟨hg.os.trans h.os, hg.tape.trans h.tape, hg.output.trans h.output, Nat.le_trans h.size hg.size, fun k hk hp => (hg.block k (Nat.lt_of_lt_of_le hk h.size) (fun e => by
    rcases hr k e.symm with h1 | h1
    · exact hp h1
    · omega)).trans (h.block k hk hp)⟩
theorem Own.get0 {lo hi g : Nat} {w : World} {n cap k : Nat} {zs : List Int} (h : Own lo hi w (some ⟨g, 0, none⟩) n cap zs) (hk : k < n) :
    lo ≤ g ∧ g < hi ∧ ∃ z, w.cell? ⟨g, k, none⟩ = some (.int .i64 z) ∧ w.frozen? ⟨g, k, none⟩ = false ∧ Hid (z = zs.getD k 0) := by
  obtain ⟨b, off, z, h1, h2, h3, h4, h5, h6⟩ := h.get hk
  simp only [Option.some.injEq, Addr.mk.injEq, and_true] at h1
  obtain ⟨rfl, rfl⟩ := h1
  rw [Nat.zero_add] at h4 h5
  exact ⟨h2, h3, z, h4, h5, h6⟩
theorem Own.set0 {lo hi : Nat} {w : World} {g n cap k : Nat} {zs : List Int} (h : Own lo hi w (some ⟨g, 0, none⟩) n cap zs) (hk : k < n) (z : Int) :
    Own lo hi (w.setCell ⟨g, k, none⟩ (.int .i64 z)) (some ⟨g, 0, none⟩) n cap (zs.set k z) := by
  have := h.set hk z
  rwa [Nat.zero_add] at this
theorem own_empty (base : Nat) (e : TypeId) (w : World) (hb : base ≤ w.heap.size) : (w.alloc (.cells #[] e)).ownsRow base e 1 (.slice (some ⟨w.heap.size, 0, none⟩) 0 0) 0 [] :=
  ⟨rfl, .inr ⟨w.heap.size, 0, #[], rfl, hb, heap_alloc_new w _, Nat.le_refl _, by unfold maxLen; omega, rfl, rfl⟩⟩
/-- Type t is a slice of e, and e is Go's int or a type made of it. -/
structure IntTy (P : Program) (t e : TypeId) : Prop where
  sl : P.underlying t = some (.slice e)
  info : (P.info? e).map (fun i => (i.zero, i.size, i.bytes)) = some (some (.int .i64 0), 1, 8)
theorem own_block {w : World} {base : Nat} {e : TypeId} {v : Value} {n : Nat} {xs : List Value} (h : w.ownsRow base e 1 v n xs) : ∀ g, v.ownBlock = some g → base ≤ g := by
  intro g hg
  rcases h.2 with ⟨rfl, _⟩ | ⟨g', cap, cur, rfl, hb, _⟩
  · simp [Value.ownBlock] at hg
  · simp [Value.ownBlock] at hg; omega
/-- 'out = append(out, z)', out the call's own. -/
theorem wpList_push {P : Program} {w : World} {ops : Array Oper} {rest : List Oper} {o : Oper} {a : Act} {Q : Exit → Act → World → Prop} {t e : TypeId} (T : IntTy P t e) (hgd : o.guard = none) (s x : Operand)
    (ho : o.op = .call { callee := .builtin .append, args := #[s, x], argTypes := #[t, t] }) (base : Nat) {v0 : Option Addr} {n cap : Nat} {zs : List Int} {z : Int} {ob : TypeId}
    (hs : a.eval s = .slice v0 n cap) (hx : a.eval x = .slice (some ⟨w.heap.size, 0, none⟩) 1 1)
    (hown : w.ownsRow base e 1 (.slice v0 n cap) n (zs.map (Value.int .i64))) (hn : n ≤ 1048576) (hb : base ≤ w.heap.size)
    (h : ∀ g cap' w', w'.ownsRow base e 1 (.slice (some ⟨g, 0, none⟩) (n + 1) cap') (n + 1) ((zs ++ [z]).map (Value.int .i64)) → Below base w w' → wpList P ops Q rest (a.put o.dst (.slice (some ⟨g, 0, none⟩) (n + 1) cap')) w') :
    wpList P ops Q (o :: rest) a (w.alloc (.cells #[.int .i64 z] ob)) := by
  obtain ⟨i0, hi0, hz0, hz1, hz2⟩ := info_parts T.info
  refine wpList_append_lies _ hgd s x t ho base e i0 _ 1 8 T.sl hi0 hz0 hz1 hz2 rfl (by decide) (.slice v0 n cap) n _ hs (hown.alloc _) ⟨w.heap.size, 0, none⟩ 1 1 [.int .i64 z] hx rfl (cell_one_new _ _ _) ?_ (by omega) (by unfold maxLen; omega) (by omega) (by simp; omega) (w.heap.size + 1) (by simp) ?_
  · intro u hu; simp at hu; subst hu; rfl
  · intro g cap' w' h1 h2 _ _
    refine h g cap' w' (by simpa using h1) ?_
    exact ((Below.refl base w).alloc hb _).grown h2 (by simp; omega) (own_block hown)
/-- Its first m elements. -/
theorem Sl.cut {w : World} {a : Option Addr} {n m : Nat} {zs : List Int} (h : Sl w a n zs) (hm : m ≤ n) : Sl w a m (zs.take m) := by
  refine ⟨by rw [List.length_take, h.len]; omega, fun h0 => ?_⟩
  obtain ⟨b, off, h1, h2⟩ := h.at_ (by omega)
  refine ⟨b, off, h1, fun i hi => ?_⟩
  rw [h2 i (by omega)]
  simp [List.getD_eq_getElem?_getD, List.getElem?_take, hi]
/-- An array of nine that the call has just made. -/
theorem own_nine (lo : Nat) (w : World) (t : TypeId) (hlo : lo ≤ w.heap.size) : Own lo (w.heap.size + 1) (w.alloc (.cells #[.int .i64 0, .int .i64 0, .int .i64 0, .int .i64 0, .int .i64 0, .int .i64 0, .int .i64 0, .int .i64 0, .int .i64 0] t)) (some ⟨w.heap.size, 0, none⟩) 9 9 (List.replicate 9 0) := by
  refine ⟨rfl, Nat.le_refl _, by unfold maxLen; omega, fun _ => ⟨w.heap.size, 0, rfl, hlo, by omega, by simp, fun i hi => ⟨?_, by simp⟩⟩⟩
  rw [Nat.zero_add]
  match i, hi with
  | 0, _ => simp
  | 1, _ => simp
  | 2, _ => simp
  | 3, _ => simp
  | 4, _ => simp
  | 5, _ => simp
  | 6, _ => simp
  | 7, _ => simp
  | 8, _ => simp
/-- A store elsewhere. -/
theorem Own.far {lo hi : Nat} {w : World} {a : Option Addr} {n cap : Nat} {zs : List Int} (h : Own lo hi w a n cap zs) {q : Addr} (hq : q.block < lo ∨ hi ≤ q.block) (v : Value) : Own lo hi (w.setCell q v) a n cap zs :=
  h.keep (p := fun k => k = q.block) (Chg.setCell (p := fun k => k = q.block) (Chg.refl (fun k => k = q.block) w) (q := q) (.inl rfl) v) fun b h1 h2 _ => by omega
theorem Own.alloc {lo hi : Nat} {w : World} {a : Option Addr} {n cap : Nat} {zs : List Int} (h : Own lo hi w a n cap zs) (o : Obj) : Own lo hi (w.alloc o) a n cap zs :=
  h.below ((Below.refl _ _).alloc (Nat.le_refl _) o)
/-- As a range of cells from the block's head on. -/
theorem Own.range {lo hi g : Nat} {w : World} {n cap : Nat} {zs : List Int} (h : Own lo hi w (some ⟨g, 0, none⟩) n cap zs) : w.rangeAt g 0 (zs.map (Value.int .i64)) := by
  intro j v hv
  have hl := h.len
  have hj : j < n := by
    rcases Nat.lt_or_ge j n with h' | h'
    · exact h'
    · rw [List.getElem?_eq_none (by simp; omega)] at hv; cases hv
  obtain ⟨_, _, z, hc, _, hz⟩ := h.get0 hj
  rw [Nat.zero_add, hc, hz.out]
  rw [List.getElem?_map, List.getElem?_eq_getElem (by omega)] at hv
  simp at hv
  rw [← hv, List.getD_eq_getElem?_getD, List.getElem?_eq_getElem (by omega)]; rfl
theorem Own.there {lo hi g : Nat} {w : World} {n cap : Nat} {zs : List Int} (h : Own lo hi w (some ⟨g, 0, none⟩) n cap zs) : w.there g 0 n := by
  intro j hj
  obtain ⟨_, _, z, hc, hf, _⟩ := h.get0 hj
  rw [Nat.zero_add, hc, hf]; exact ⟨rfl, rfl⟩
/-- An array boxed. -/
theorem own_boxed (lo : Nat) (w : World) (t : TypeId) (zs : List Int) (hlo : lo ≤ w.heap.size) (hl : zs.length ≤ maxLen) : Own lo (w.heap.size + 1) (w.alloc (.cells (zs.map (Value.int .i64)).toArray t)) (some ⟨w.heap.size, 0, none⟩) zs.length zs.length zs := by
  refine ⟨rfl, Nat.le_refl _, hl, fun _ => ⟨w.heap.size, 0, rfl, hlo, by omega, by simp, fun i hi => ⟨?_, by simp⟩⟩⟩
  rw [Nat.zero_add]
  simp [List.getElem?_eq_getElem hi]
theorem map_one (zs : List Int) : (zs.map (Value.int .i64)).toArray.all (·.oneCell') = true := all_oneCell_toArray (by intro v hv; simp at hv; obtain ⟨z, _, rfl⟩ := hv; rfl)
/-- A result that lies in a variable of its own. -/
theorem results_mid {P : Program} {fn : Func} {p : Tmp} {ty : TypeId} (h : fn.results = #[.cell p ty]) (tmps : Array Value) (w : World) (g : Nat) (cs : List Value) (d : TypeDesc)
    (hp : tmps.getD p undef = .pointer (some ⟨g, 0, none⟩)) (hc : w.rangeAt g 0 cs) (hu : P.underlying ty = some d) (hd : d.isRow = true) (hi : (P.info? ty).map (·.size) = some cs.length) :
    (results fn tmps).run P w = .ok (.agg cs.toArray) w := by
  have hp' : tmps[p]?.getD undef = .pointer (some ⟨g, 0, none⟩) := by simpa using hp
  simp [results, h, hp', asAddr, run_loadVar_mid w g 0 ty cs d hc hu hd hi]
theorem below_cells {B b : Nat} {a : World} (hb : B ≤ b) : ∀ (vs : List Value) (o : Nat) {w : World}, Below B a w → Below B a (w.setCells b o vs)
  | [], _, _, h => h
  | v :: r, o, _, h => below_cells hb r (o + 1) (h.setCell (p := ⟨b, o, none⟩) hb v)
theorem Sl.of_range {w : World} {g : Nat} {zs : List Int} (h : w.rangeAt g 0 (zs.map (Value.int .i64))) : Sl w (some ⟨g, 0, none⟩) zs.length zs := by
  refine ⟨rfl, fun _ => ⟨g, 0, rfl, fun i hi => ?_⟩⟩
  apply h
  simp [List.getElem?_eq_getElem hi]
theorem sl_one (w : World) (t : TypeId) (x : Int) : Sl (w.alloc (.cells #[.int .i64 x] t)) (some ⟨w.heap.size, 0, none⟩) 1 [x] := by
  refine ⟨rfl, fun _ => ⟨w.heap.size, 0, rfl, fun i hi => ?_⟩⟩
  match i, hi with
  | 0, _ => simp
theorem sl_two (w : World) (t : TypeId) (x y : Int) : Sl (w.alloc (.cells #[.int .i64 x, .int .i64 y] t)) (some ⟨w.heap.size, 0, none⟩) 2 [x, y] := by
  refine ⟨rfl, fun _ => ⟨w.heap.size, 0, rfl, fun i hi => ?_⟩⟩
  match i, hi with
  | 0, _ => simp
  | 1, _ => simp
theorem Sl.alloc {w : World} {a : Option Addr} {n : Nat} {zs : List Int} (h : Sl w a n zs) (o : Obj) : Sl (w.alloc o) a n zs := h.below ((Below.refl _ _).alloc (Nat.le_refl _) o)
theorem Sl.far {w : World} {a : Option Addr} {n : Nat} {zs : List Int} (h : Sl w a n zs) {q : Addr} (hq : ∀ b off, a = some ⟨b, off, none⟩ → b ≠ q.block) (v : Value) : Sl (w.setCell q v) a n zs :=
  h.keep (p := fun k => k = q.block) (Chg.setCell (p := fun k => k = q.block) (Chg.refl (fun k => k = q.block) w) (q := q) (.inl rfl) v) fun b off hb _ => hq b off hb
/-- A call that only read, perhaps in an order that it drew. -/
def Drew (v : Value) (w : World) (e : Ending) (w' : World) : Prop := e = .returned v ∧ ∃ m, w' = w.drewN m
theorem Drew.below {v : Value} {w : World} {e : Ending} {w' : World} (h : Drew v w e w') : e = .returned v ∧ Below w.heap.size w w' := by
  obtain ⟨h1, m, rfl⟩ := h
  exact ⟨h1, below_drewN (Below.refl _ _) m⟩
/-- A call that returned numbers in memory of its own, and turned nothing that was there. -/
def NewInts (zs : List Int) (w : World) (e : Ending) (w' : World) : Prop := ∃ a n cap, e = .returned (.slice a n cap) ∧ Own w.heap.size w'.heap.size w' a n cap zs ∧ Below w.heap.size w w'
/-- The same, and a bool behind it. -/
def NewIntsB (zs : List Int) (t : Bool) (w : World) (e : Ending) (w' : World) : Prop := ∃ a n cap, e = .returned (.tuple #[.slice a n cap, .bool t]) ∧ Own w.heap.size w'.heap.size w' a n cap zs ∧ Below w.heap.size w w'
theorem own_made {base n : Nat} {e : TypeId} {w : World} {v : Value} (h : w.ownsRow base e 1 v n (madeCells (Value.int .i64 0).cells (n * 1)).toList) : w.ownsRow base e 1 v n ((List.replicate n (0 : Int)).map (Value.int .i64)) := by
  have e1 : (madeCells (Value.int .i64 0).cells (n * 1)).toList = (List.replicate n (0 : Int)).map (Value.int .i64) := by
    rw [show (Value.int .i64 0).cells = #[Value.int .i64 0] from rfl, Nat.mul_one, toList_madeCells_one, List.map_replicate]
  rw [← e1]; exact h
/-- The first k cells written, one behind the other. -/
def fill (zs : List Int) (f : Nat → Int) : Nat → List Int
  | 0 => zs
  | k + 1 => (fill zs f k).set k (f k)
theorem fill_len (zs : List Int) (f : Nat → Int) (k : Nat) : (fill zs f k).length = zs.length := by
  induction k with
  | zero => rfl
  | succ k ih => simp [fill, ih]
theorem fill_get (zs : List Int) (f : Nat → Int) (k i : Nat) (hi : i < zs.length) : (fill zs f k).getD i 0 = if i < k then f i else zs.getD i 0 := by
  induction k with
  | zero => simp [fill]
  | succ k ih =>
    simp only [fill, List.getD_eq_getElem?_getD, List.getElem?_set, fill_len]
    by_cases e : k = i
    · subst e; simp [hi]
    · simp only [e, if_false]
      rw [← List.getD_eq_getElem?_getD, ih]
      by_cases h : i < k
      · simp [h, Nat.lt_succ_of_lt h]
      · have : ¬ i < k + 1 := by omega
        simp [h, this]
theorem ext_getD {xs ys : List Int} (hl : xs.length = ys.length) (h : ∀ i, i < xs.length → xs.getD i 0 = ys.getD i 0) : xs = ys := by
  apply List.ext_getElem hl
  intro i h1 h2
  have := h i h1
  simpa [List.getD_eq_getElem?_getD, List.getElem?_eq_getElem h1, List.getElem?_eq_getElem h2] using this
theorem fill_all {zs ys : List Int} {f : Nat → Int} (hl : ys.length = zs.length) (h : ∀ i, i < zs.length → f i = ys.getD i 0) : fill zs f zs.length = ys := by
  apply ext_getD (by rw [fill_len, hl])
  intro i hi
  rw [fill_len] at hi
  rw [fill_get _ _ _ _ hi, if_pos hi, h i hi]
/-- Numbers from k on, one more each. -/
def marks (k : Int) (n : Nat) : List Int := (List.range n).map fun (i : Nat) => k + (i : Int)
theorem marks_len (k : Int) (n : Nat) : (marks k n).length = n := by simp [marks]
theorem marks_get (k : Int) {n i : Nat} (hi : i < n) : (marks k n).getD i 0 = k + i := by simp [marks, List.getD_eq_getElem?_getD, hi]
/-- Are they the same? -/
def eqB (xs ys : List Int) : Bool := decide (xs = ys)
theorem eqB_self (xs : List Int) : eqB xs xs = true := by simp [eqB]
theorem eqB_true {xs ys : List Int} (h : xs = ys) : eqB xs ys = true := by simp [eqB, h]
theorem eqB_false {xs ys : List Int} (h : xs ≠ ys) : eqB xs ys = false := by simp [eqB, h]
def sameTo (xs ys : List Int) (k : Nat) : Prop := ∀ i, i < k → xs.getD i 0 = ys.getD i 0
theorem sameTo_zero (xs ys : List Int) : sameTo xs ys 0 := fun i h => by omega
theorem sameTo_succ {xs ys : List Int} {k : Nat} (h : sameTo xs ys k) (hk : xs.getD k 0 = ys.getD k 0) : sameTo xs ys (k + 1) := fun i hi => by
  by_cases e : i = k
  · subst e; exact hk
  · exact h i (by omega)
theorem eqB_all {xs ys : List Int} (hl : xs.length = ys.length) (h : sameTo xs ys xs.length) : eqB xs ys = true := eqB_true (ext_getD hl h)
theorem eqB_len {xs ys : List Int} (hl : xs.length ≠ ys.length) : eqB xs ys = false := eqB_false fun h => hl (by rw [h])
theorem eqB_at {xs ys : List Int} {k : Nat} (h : xs.getD k 0 ≠ ys.getD k 0) : eqB xs ys = false := eqB_false fun e => h (by rw [e])
end Go.Proofs.Ytigeffgehckbpab
