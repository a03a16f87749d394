/-
  Chapter 32, the program: an account as a ledger again.
-/
import Derived.Test.YtigeffgehckbpabLed
import Derived.Test.YtigeffgehckbpabRev
import Derived.Test.YtigeffgehckbpabCat
namespace Go.Proofs.Ytigeffgehckbpab
open Go.RowKit
set_option linter.unusedVariables false
set_option linter.unusedSimpArgs false
set_option maxRecDepth 20000
/-- Returned: a ledger whose row of charges is its own. -/
def LedPost (c d : Int) (fs : List (Int × Int)) (w : World) (e : Ending) (w' : World) : Prop := ∃ a n cap, e = .returned (.agg #[.int .i64 c, .int .i64 d, .slice a n cap]) ∧ Of w.heap.size w'.heap.size w' a n cap fs ∧ Below w.heap.size w w'
def slLen : Value → Nat
  | .slice _ n _ => n
  | _ => 0
theorem fr_ty : FrTy Try.prog 25 24 := ⟨Try.underlying25, by kernel_rfl⟩
theorem led_box (w : World) (c d : Int) (a : Option Addr) (n cap : Nat) (t : TypeId) : ∃ w1, w.alloc (.cells #[.int .i64 c, .int .i64 d, .slice a n cap] t) = w1 ∧ w1.heap.size = w.heap.size + 1 ∧ Below w.heap.size w w1 ∧ Tri w1 w.heap.size [.int .i64 c, .int .i64 d, .slice a n cap] t :=
  ⟨_, rfl, size_alloc1 _ _, (Below.refl _ _).alloc (Nat.le_refl _) _, Tri.new _ _ _⟩
theorem led_at {w : World} {g : Nat} {x y z : Value} {t : TypeId} (h : Tri w g [x, y, z] t) : w.cell? ⟨g, 0, none⟩ = some x ∧ w.cell? ⟨g, 1, none⟩ = some y ∧ w.cell? ⟨g, 2, none⟩ = some z ∧ w.frozen? ⟨g, 0, none⟩ = false ∧ w.frozen? ⟨g, 1, none⟩ = false ∧ w.frozen? ⟨g, 2, none⟩ = false :=
  ⟨h.at_ 0, h.at_ 1, h.at_ 2, (h.there 0 (by simp)).2, (h.there 1 (by simp)).2, (h.there 2 (by simp)).2⟩
theorem tri_chg {p : Nat → Prop} {w w' : World} {g : Nat} {cs : List Value} {t : TypeId} (h : Tri w g cs t) (k : Chg p w w') (hp : ¬ p g) : Tri w' g cs t := by
  have hl : g < w.heap.size := by
    rcases Nat.lt_or_ge g w.heap.size with h' | h'
    · exact h'
    · unfold Tri at h; rw [Array.getElem?_eq_none h'] at h; cases h
  exact (k.block g hl hp).trans h
theorem of_far {lo hi : Nat} {w : World} {a : Option Addr} {n cap : Nat} {fs : List (Int × Int)} (h : Of lo hi w a n cap fs) {q : Addr} (hq : q.block < lo ∨ hi ≤ q.block) (v : Value) : Of lo hi (w.setCell q v) a n cap fs := ⟨h.len, h.le, h.lim, h.row.far hq v⟩
theorem led_end {lo hi : Nat} {w w3 : World} {a : Option Addr} {n cap : Nat} {fs : List (Int × Int)} (O : Of lo hi w3 a n cap fs) (B : Below w.heap.size w w3) (h1 : w.heap.size < lo) (h2 : hi ≤ w3.heap.size) (x y z : Value) :
    Of w.heap.size (((w3.setCell ⟨w.heap.size, 0, none⟩ x).setCell ⟨w.heap.size, 1, none⟩ y).setCell ⟨w.heap.size, 2, none⟩ z).heap.size (((w3.setCell ⟨w.heap.size, 0, none⟩ x).setCell ⟨w.heap.size, 1, none⟩ y).setCell ⟨w.heap.size, 2, none⟩ z) a n cap fs ∧ Below w.heap.size w (((w3.setCell ⟨w.heap.size, 0, none⟩ x).setCell ⟨w.heap.size, 1, none⟩ y).setCell ⟨w.heap.size, 2, none⟩ z) := by
  refine ⟨(of_far (of_far (of_far O (q := ⟨w.heap.size, 0, none⟩) (.inl h1) x) (q := ⟨w.heap.size, 1, none⟩) (.inl h1) y) (q := ⟨w.heap.size, 2, none⟩) (.inl h1) z).more (by omega) (by simp [World.setCell]; omega), ((B.setCell (Nat.le_refl _) x).setCell (Nat.le_refl _) y).setCell (Nat.le_refl _) z⟩
/-- The last store of a function that returns a ledger: at block r. -/
theorem led_endr {lo hi r : Nat} {w w3 : World} {a : Option Addr} {n cap : Nat} {fs : List (Int × Int)} (O : Of lo hi w3 a n cap fs) (B : Below w.heap.size w w3) (h0 : w.heap.size ≤ r) (h1 : r < lo) (h2 : hi ≤ w3.heap.size) (x y z : Value) :
    Of w.heap.size (((w3.setCell ⟨r, 0, none⟩ x).setCell ⟨r, 1, none⟩ y).setCell ⟨r, 2, none⟩ z).heap.size (((w3.setCell ⟨r, 0, none⟩ x).setCell ⟨r, 1, none⟩ y).setCell ⟨r, 2, none⟩ z) a n cap fs ∧ Below w.heap.size w (((w3.setCell ⟨r, 0, none⟩ x).setCell ⟨r, 1, none⟩ y).setCell ⟨r, 2, none⟩ z) := by
  refine ⟨(of_far (of_far (of_far O (q := ⟨r, 0, none⟩) (.inl h1) x) (q := ⟨r, 1, none⟩) (.inl h1) y) (q := ⟨r, 2, none⟩) (.inl h1) z).more (by omega) (by simp [World.setCell]; omega), ((B.setCell h0 x).setCell h0 y).setCell h0 z⟩
set_option maxHeartbeats 1000000 in
theorem impl_ledger (g : Nat) (c d : Int) (t : Int × Int) (m : Nat) (fs : List (Int × Int)) (w : World) (h : Acc w g c d t m fs) (hm : fs.length ≤ 1048576) :
    Calls Try.prog 37 #[.pointer (some ⟨g, 0, none⟩)] w (LedPost c d fs.reverse w) := by
  obtain ⟨w1, hw1, Z1, B1, T1⟩ := led_box w 0 0 none 0 0 27
  have A1 := Lib.hid (h.below B1)
  have hg := h.lt
  have BB := Lib.hid B1
  have TR := Lib.hid T1
  have q0 : ∀ w : World, (binOp .neq 57 (.pointer none) (.pointer none)).run Try.prog w = .ok (.bool false) w := fun w => by kernel_rfl
  have q1 : ∀ (k : Nat) (w : World), (binOp .neq 57 (.pointer (some ⟨k, 0, none⟩)) (.pointer none)).run Try.prog w = .ok (.bool true) w := fun k w => by kernel_rfl
  obtain ⟨p, a0, a1, -, -, -, a5, -, AT, CT⟩ := A1.out.cells
  clear h B1 T1
  go_enter Try.func37, Try.ntmps37
  go_wp2
  clear hw1 a0 a1 a5
  go_loopw [3, 4] (fun v cp wr => ∃ (done rest : List (Int × Int)) (a : Option Addr) (k cap : Nat) (q : Option Addr), done ++ rest = fs ∧ k = done.length ∧ v = .slice a k cap ∧ cp = .pointer q ∧ Hid (wr.ownsRow w1.heap.size 24 2 (.slice a k cap) k ((flat done).map (Value.int .i64))) ∧ Hid (Chain w1 g rest q) ∧ Hid (Below w1.heap.size w1 wr)) (fun v _ _ => fs.length - slLen v)
  case atStart => exact ⟨[], fs, none, 0, 0, p, rfl, rfl, rfl, rfl, ofNil _ _ _, CT.out, Below.refl _ _⟩
  case round =>
    obtain ⟨done, rest, a, k, cap, q, hd, hk, rfl, rfl, hO, hC, hB⟩ := hrel
    have HK := Lib.hid hk
    clear hk
    cases rest with
    | nil =>
      have hq : q = none := hC.out
      subst hq
      rw [List.append_nil] at hd
      subst hd
      have hk6 : k ≤ 1048577 := by have := HK.out; omega
      have O1 := Lib.hid (Of.of_row hO.out hk6)
      have B2 := Lib.hid (BB.out.trans (hB.out.mono (by omega)))
      have T2 := Lib.hid (TR.out.below hB.out (by omega))
      have AT2 := Lib.hid (AT.out.below hB.out (by omega))
      have zr := hB.out.size
      clear hO hB hC
      go_wp2_with fail
      refine (slices_Reverse w1.heap.size wr.heap.size a k cap done wr O1.out hk6).mono ?_
      rintro e w3 ⟨rfl, o3, c3, s3⟩
      have O3 := Lib.hid o3
      have T3 := Lib.hid (tri_chg T2.out c3 (by omega))
      have AT3 := Lib.hid (tri_chg AT2.out c3 (by omega))
      have B3 := Lib.hid (B2.out.trans (c3.below (B := w.heap.size) (by omega) (fun k hk => by have := hk.1; omega)))
      clear o3 c3
      obtain ⟨e0, e1, e2, f0, f1, f2⟩ := led_at T3.out
      have a0 : w3.cell? ⟨g, 0, none⟩ = some (.int .i64 c) := AT3.out.at_ 0
      have a1 : w3.cell? ⟨g, 1, none⟩ = some (.int .i64 d) := AT3.out.at_ 1
      have EE := Lib.hid (led_end O3.out B3.out (by omega) (by omega) (.int .i64 c) (.int .i64 d) (.slice a k cap))
      go_wp2
      exact bodyPost_ret (v := .agg #[.int .i64 c, .int .i64 d, .slice a k cap]) (by simp [results, Try.results37, go_sem, e0, e1, e2]) rfl ⟨a, k, cap, rfl, EE.out.1, EE.out.2⟩
    | cons f rest =>
      obtain ⟨k', b, rfl, hgk, T3, C3⟩ := hC.out
      have hk1 : k' < w1.heap.size := cell_lt (T3.at_ 0 : w1.cell? ⟨k', 0, none⟩ = _)
      have T4 := T3.below hB.out hk1
      obtain ⟨c0, c1, c2, -, -, -⟩ := led_at T4
      have CC := Lib.hid C3
      have hl2 : k < fs.length := by have h1 := congrArg List.length hd; have h2 := HK.out; simp at h1; omega
      have hlen : k ≤ 1048577 := by omega
      have HD := Lib.hid hd
      clear hd
      have hsz := hB.out.size
      clear T3 T4 C3 hC
      go_wp2_with (at_builtin; (refine wpList_pushF fr_ty rfl (.tmp 15) (.tmp 20) rfl w1.heap.size rfl rfl hO.out hlen hsz ?_); intro g' cap' w2 own2 bel2; have c2' := (bel2.cell (p := ⟨k', 2, none⟩) hk1).trans c2)
      have O2 := Lib.hid own2
      have B2 := Lib.hid (hB.out.trans bel2)
      clear own2 bel2 c0 c1 c2
      go_wp2
      go_roundw
      case rel => exact ⟨done ++ [f], rest, _, k + 1, cap', b, by have := HD.out; simp [this], by have := HK.out; simp [this], rfl, rfl, O2.out, CC.out, B2.out⟩
      case measure => simp [slLen]; omega
end Go.Proofs.Ytigeffgehckbpab
