/-
  Drawn lists of numbers, and the draws of chapter 2.
-/
import Derived.Test.YtlfmginnffdicaaDraw
import Derived.Test.YtlfmginnffdicaaLw
namespace Go.Proofs.Ytlfmginnffdicaa
open Go.RowKit
set_option linter.unusedVariables false
set_option linter.unusedSimpArgs false
set_option maxRecDepth 20000
theorem own_kb {base b : Nat} {e : TypeId} {v : Value} {n : Nat} {xs : List Value} {w w' : World} (h : w.ownsRow base e 1 v n xs) (k : Kb b w w') (hb : b < base) : w'.ownsRow base e 1 v n xs := by
  rcases h with ⟨h1, h2 | ⟨g, cap, cur, hv, hg, hh, h3⟩⟩
  · exact ⟨h1, .inl h2⟩
  · have hlt : g < w.heap.size := by
      rcases Nat.lt_or_ge g w.heap.size with h' | h'
      · exact h'
      · rw [Array.getElem?_eq_none h'] at hh; cases hh
    exact ⟨h1, .inr ⟨g, cap, cur, hv, hg, by rw [k.block g hlt (by omega)]; exact hh, h3⟩⟩
theorem Own.kb {lo hi b : Nat} {w w' : World} {a : Option Addr} {n cap : Nat} {zs : List Int} (h : Own lo hi w a n cap zs) (k : Kb b w w') (hb : b < lo) : Own lo hi w' a n cap zs :=
  h.keep (Chg.kb k) fun c h1 _ _ => by omega
def ListPost (B b q many : Nat) (w : World) (e : Ending) (w' : World) : Prop := ∃ a n cap zs, n ≤ many ∧ e = .returned (.slice a n cap) ∧ Own w.heap.size w'.heap.size w' a n cap zs ∧ Rd B b (q + many + 5) w' ∧ Kb b w w'
set_option maxHeartbeats 1000000 in
theorem spec_l91List (B b q many : Nat) (w : World) (h : Rd B b q w) (hq : q ≤ 100000000) (hm : many ≤ 1000) :
    Calls Try.prog 54 #[.pointer (some ⟨b, 0, none⟩), .int .i64 (many : Int)] w (ListPost B b q many w) := by
  have H := Lib.hid h
  have hbw := h.inb
  clear h
  go_enter Try.func54, Try.ntmps54
  go_wp2_with fail
  refine (spec_pick B b q _ _ (H.out.keep ((Below.refl _ _).alloc (Nat.le_refl _) _)) (by omega)).mono ?_
  rintro e w1 ⟨v, ⟨hv1, hv2, -⟩, rfl, r1, k1, s1⟩
  have hv2 := hv2 (by omega)
  obtain ⟨k0, rfl⟩ := Int.eq_ofNat_of_zero_le hv1
  have O1 := Lib.hid (own_kb (own_empty w.heap.size 3 w (Nat.le_refl _)) k1 hbw)
  have R1 := Lib.hid r1
  have K1 := Lib.hid (((Kb.refl b w).alloc (.cells #[] 3)).trans k1)
  clear r1 k1 s1 hv1
  go_wp2
  go_loopw [5, 6] (fun p i wr => ∃ (k m c : Nat) (a : Option Addr) (zs : List Int), k + m ≤ many ∧ p = .slice a m c ∧ i = .int .i64 k ∧ Hid (wr.ownsRow w.heap.size 3 1 (.slice a m c) m (zs.map (Value.int .i64))) ∧ Hid (Rd B b (q + 1 + m) wr) ∧ Hid (Kb b w wr)) (fun _ i _ => (intOf i).toNat)
  case atStart => exact ⟨k0, 0, 0, _, [], by omega, rfl, rfl, O1.out, R1.out, K1.out⟩
  case round =>
    clear O1 R1 K1
    obtain ⟨k, m, c, a, zs, hkm, rfl, rfl, hO, hR, hK⟩ := hrel
    by_cases hk : 0 < k
    · go_wp2_with fail
      refine (spec_pick B b (q + 1 + m) 31 _ hR.out (by omega)).mono ?_
      rintro e w2 ⟨u, ⟨hu1, hu2, -⟩, rfl, r2, k2, s2⟩
      have O2 := Lib.hid (own_kb hO.out k2 hbw)
      have R2 := Lib.hid r2
      have K2 := Lib.hid (hK.out.trans k2)
      have hsz : w.heap.size ≤ w2.heap.size := K2.out.size
      clear r2 k2 s2 hO hR hK
      have hm6 : m ≤ 1048576 := by omega
      go_wp2_with (at_builtin; (refine wpList_push int_ty rfl (.tmp 16) (.tmp 19) rfl w.heap.size rfl rfl O2.out hm6 hsz ?_); intro g cap' w3 own3 bel3)
      have O3 := Lib.hid own3
      have R3 := Lib.hid (R2.out.keepB bel3 hbw)
      have K3 := Lib.hid (K2.out.then bel3)
      clear own3 bel3
      go_wp2
      go_roundw
      case rel => exact ⟨k - 1, m + 1, cap', _, zs ++ [u], by omega, rfl, by go_num, O3.out, R3.out, K3.out⟩
      case measure => simp [intOf]; omega
    · have k0 : k = 0 := by omega
      subst k0
      have e0 : ((0 : Nat) : Int) = 0 := rfl
      rw [e0]; clear e0
      by_cases m0 : m = 0
      · subst m0
        go_wp2
        go_ret
        exact ⟨_, _, _, _, by omega, rfl, Own.of_row hO.out, hR.out.mono (by omega), hK.out⟩
      · have m0' : 0 < m := by omega
        have md : decide (0 < (m : Int)) = true := by simp; omega
        clear m0
        go_wp2_with fail
        refine (spec_pick B b (q + 1 + m) 40 _ hR.out (by omega)).mono ?_
        rintro e w2 ⟨u, ⟨hu1, hu2, -⟩, rfl, r2, k2, s2⟩
        have O2 := Lib.hid (own_kb hO.out k2 hbw)
        have R2 := Lib.hid r2
        have K2 := Lib.hid (hK.out.trans k2)
        clear r2 k2 s2 hO hR hK
        by_cases hu : u = 0
        · subst hu
          go_wp2_with fail
          refine (spec_pick B b (q + 1 + m + 1) _ _ R2.out (by omega)).mono ?_
          rintro e w3 ⟨x, ⟨hx1, hx2, -⟩, rfl, r3, k3, s3⟩
          have hx2 := hx2 (by omega)
          obtain ⟨j, rfl⟩ := Int.eq_ofNat_of_zero_le hx1
          have O3 := Lib.hid (own_kb O2.out k3 hbw)
          have R3 := Lib.hid r3
          have K3 := Lib.hid (K2.out.trans k3)
          clear r3 k3 s3 O2 R2 K2
          go_wp2_with fail
          refine (spec_pick B b (q + 1 + m + 1 + 1) 2 _ (R3.out.keep ((Below.refl _ _).alloc (Nat.le_refl _) _)) (by omega)).mono ?_
          rintro e w4 ⟨y, ⟨hy1, hy2, -⟩, rfl, r4, k4, s4⟩
          obtain ⟨c0, c1⟩ := two_at (B := B) (q := q) k4 R3.out.inb
          have O4 := own_kb (O3.out.alloc _) k4 hbw
          have R4 := Lib.hid r4
          have K4 := Lib.hid ((K3.out.alloc _).trans k4)
          clear r4 k4 s4 O3 R3 K3
          obtain ⟨g, cap, hv, hg1, hg2⟩ := O4.form m0'
          have hca : a = some ⟨g, 0, none⟩ ∧ c = cap := by injection hv with h1 _ h3; exact ⟨h1, h3⟩
          obtain ⟨rfl, rfl⟩ := hca
          clear hv
          have hcj : ∃ z, w4.cell? ⟨g, j, none⟩ = some (.int .i64 z) := by
            have := O4.cellAt j (by omega)
            rw [this]
            have hl : zs.length = m := by have := O4.1; simpa using this
            exact ⟨zs.getD j 0, by simp [List.getElem?_eq_getElem (show j < zs.length by omega)]⟩
          obtain ⟨zj, hcj⟩ := hcj
          have hfj := O4.frozenAt j
          have ST : ∀ x : Int, Hid (Own w.heap.size w4.heap.size (w4.setCell ⟨g, j, none⟩ (.int .i64 x)) (some ⟨g, 0, none⟩) m c (zs.set j x)) := by
            intro x
            exact (Own.of_row O4).set0 (by omega) x
          have KS : ∀ x : Int, Hid (Kb b w (w4.setCell ⟨g, j, none⟩ (.int .i64 x))) := fun x => K4.out.then ((Below.refl _ _).setCell (p := ⟨g, j, none⟩) hg1 _)
          have RS : ∀ x : Int, Hid (Rd B b (q + 1 + m + 1 + 1 + 1) (w4.setCell ⟨g, j, none⟩ (.int .i64 x))) := fun x => R4.out.keepB (base := w.heap.size) ((Below.refl _ _).setCell (p := ⟨g, j, none⟩) hg1 _) hbw
          have O4' := Lib.hid O4
          clear O4
          have hy : y = 0 ∨ y = 1 := by omega
          clear hy1 hy2
          rcases hy with rfl | rfl
          · go_wp2
            go_ret
            exact ⟨_, _, _, _, by omega, rfl, by simpa [World.setCell] using (ST (-1)).out, (RS (-1)).out.mono (by omega), (KS (-1)).out⟩
          · go_wp2
            go_ret
            exact ⟨_, _, _, _, by omega, rfl, by simpa [World.setCell] using (ST 31).out, (RS 31).out.mono (by omega), (KS 31).out⟩
        · have hub : (u == 0) = false := beqF hu
          clear hu
          go_wp2
          go_ret
          exact ⟨_, _, _, _, by omega, rfl, Own.of_row O2.out, R2.out.mono (by omega), K2.out⟩
/-- Drawn: numbers in memory of their own; nothing that was there has turned. -/
def DrawnOne (many : Nat) (w : World) (e : Ending) (w' : World) : Prop := ∃ a n cap zs, n ≤ many ∧ e = .returned (.slice a n cap) ∧ Own w.heap.size w'.heap.size w' a n cap zs ∧ Below w.heap.size w w'
def DrawnAt (many : Nat) (w : World) (e : Ending) (w' : World) : Prop := ∃ a n cap zs, ∃ x : Int, n ≤ many ∧ -1 ≤ x ∧ x ≤ 31 ∧ e = .returned (.tuple #[.slice a n cap, .int .i64 x]) ∧ Own w.heap.size w'.heap.size w' a n cap zs ∧ Below w.heap.size w w'
def DrawnTwo (many many' : Nat) (w : World) (e : Ending) (w' : World) : Prop := ∃ a n cap zs a' n' cap' zs' mid, n ≤ many ∧ n' ≤ many' ∧ e = .returned (.tuple #[.slice a n cap, .slice a' n' cap']) ∧ Own w.heap.size mid w' a n cap zs ∧ Own mid w'.heap.size w' a' n' cap' zs' ∧ Below w.heap.size w w'
def DrawnLine (w : World) (e : Ending) (w' : World) : Prop := ∃ m x : Int, -11 ≤ m ∧ m ≤ 10 ∧ -1 ≤ x ∧ x ≤ 31 ∧ e = .returned (.tuple #[.int .i64 m, .int .i64 x]) ∧ Below w.heap.size w w'
end Go.Proofs.Ytlfmginnffdicaa
