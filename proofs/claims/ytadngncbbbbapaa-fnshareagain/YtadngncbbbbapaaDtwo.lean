/-
  Two drawn lists, and the draws of chapter 3.
-/
import Derived.Test.YtadngncbbbbapaaDlist
namespace Go.Proofs.Ytadngncbbbbapaa
open Go.RowKit
set_option linter.unusedVariables false
set_option linter.unusedSimpArgs false
theorem Own.lowB {lo hi base : Nat} {w w' : World} {a : Option Addr} {n cap : Nat} {zs : List Int} (h : Own lo hi w a n cap zs) (k : Below base w w') (hb : hi ≤ base) : Own lo hi w' a n cap zs :=
  ⟨h.len, h.le, h.lim, fun hn => by
    obtain ⟨b, off, h1, h2, h3, h4, h5⟩ := h.at_ hn
    exact ⟨b, off, h1, h2, h3, Nat.lt_of_lt_of_le h4 k.size, fun i hi => by rw [k.cell (p := ⟨b, off + i, none⟩) (show b < base by omega), k.frozen (p := ⟨b, off + i, none⟩) (show b < base by omega)]; exact h5 i hi⟩⟩
def TwoPost (b : Nat) (w : World) (e : Ending) (w' : World) : Prop := ∃ a n c a' n' c' xs ys, n ≤ 12 ∧ n' ≤ 13 ∧ e = .returned (.tuple #[.slice a n c, .slice a' n' c']) ∧ Own w.heap.size w'.heap.size w' a n c xs ∧ Own w.heap.size w'.heap.size w' a' n' c' ys ∧ Kb b w w'
set_option maxHeartbeats 1000000 in
theorem spec_l91Two (B b q : Nat) (w : World) (h : Rd B b q w) (hq : q ≤ 100000000) :
    Calls Try.prog 36 #[.pointer (some ⟨b, 0, none⟩)] w (TwoPost b w) := by
  have H := Lib.hid h
  have hbw := h.inb
  clear h
  go_enter Try.func36, Try.ntmps36
  go_wp2_with fail
  refine (spec_l91List B b q 12 _ H.out (by omega) (by omega)).mono ?_
  rintro e w1 ⟨a, n, c, xs, hn, rfl, oa, r1, k1⟩
  have s1 : w.heap.size ≤ w1.heap.size := k1.size
  have hb1 : b < w1.heap.size := by omega
  have O1 := Lib.hid (own_empty w1.heap.size 3 w1 (Nat.le_refl _))
  have A1 := Lib.hid (oa.alloc (.cells #[] 3))
  have R1 := Lib.hid (r1.keepB ((Below.refl w1.heap.size w1).alloc (Nat.le_refl _) (.cells #[] 3)) hb1)
  have K1 := Lib.hid (k1.alloc (.cells #[] 3))
  clear oa r1 k1
  go_wp2
  go_loopw [5, 6] (fun p i wr => ∃ (k cc : Nat) (a' : Option Addr) (ys : List Int), k ≤ n ∧ p = .slice a' k cc ∧ i = .int .i64 k ∧ Hid (wr.ownsRow w1.heap.size 3 1 (.slice a' k cc) k (ys.map (Value.int .i64))) ∧ Hid (Own w.heap.size w1.heap.size wr a n c xs) ∧ Hid (Rd B b (q + 12 + 5 + k) wr) ∧ Hid (Kb b w wr) ∧ w1.heap.size ≤ wr.heap.size) (fun _ i _ => n - (intOf i).toNat)
  case atStart => exact ⟨0, 0, _, [], by omega, rfl, rfl, O1.out, A1.out, R1.out, K1.out, by simp⟩
  case round =>
    clear O1 A1 R1 K1
    obtain ⟨k, cc, a', ys, hk, rfl, rfl, hO, hA, hR, hK, hS⟩ := hrel
    by_cases hlt : k < n
    · go_wp2_with fail
      refine (spec_pick B b (q + 12 + 5 + k) 31 _ hR.out (by omega)).mono ?_
      rintro e w2 ⟨u, ⟨hu1, hu2, -⟩, rfl, r2, k2, s2⟩
      have O2 := Lib.hid (own_kb hO.out k2 hb1)
      have A2 := Lib.hid (hA.out.kb k2 hbw)
      have R2 := Lib.hid r2
      have K2 := Lib.hid (hK.out.trans k2)
      have hsz : w1.heap.size ≤ w2.heap.size := by omega
      clear r2 k2 s2 hO hA hR hK hS
      have hm6 : k ≤ 1048576 := by omega
      go_wp2_with (at_builtin; (refine wpList_push int_ty rfl (.tmp 16) (.tmp 19) rfl w1.heap.size rfl rfl O2.out hm6 hsz ?_); intro g cap' w3 own3 bel3)
      have O3 := Lib.hid own3
      have A3 := Lib.hid (A2.out.lowB bel3 (Nat.le_refl _))
      have R3 := Lib.hid (R2.out.keepB bel3 hb1)
      have K3 := Lib.hid (K2.out.then (bel3.mono s1))
      have S3 : w1.heap.size ≤ w3.heap.size := by have := bel3.size; omega
      clear own3 bel3 A2 R2 K2 O2
      go_wp2
      go_roundw
      case rel => exact ⟨k + 1, cap', _, ys ++ [u], by omega, rfl, by go_num, O3.out, A3.out, R3.out, K3.out, S3⟩
      case measure => simp [intOf]; omega
    · have e : k = n := by omega
      subst e
      have fin : ∀ (w' : World) (a' : Option Addr) (m cc : Nat) (ys : List Int), m ≤ 13 → Own w.heap.size w1.heap.size w' a k c xs → Own w1.heap.size w'.heap.size w' a' m cc ys → Kb b w w' → w1.heap.size ≤ w'.heap.size → TwoPost b w (.returned (.tuple #[.slice a k c, .slice a' m cc])) w' := fun w' a' m cc ys h1 h2 h3 h4 h5 => ⟨a, k, c, a', m, cc, xs, ys, hn, h1, rfl, h2.more (Nat.le_refl _) h5, h3.more s1 (Nat.le_refl _), h4⟩
      have FIN := Lib.hid fin
      clear fin
      go_wp2_with fail
      refine (spec_pick B b (q + 12 + 5 + k) 20 _ hR.out (by omega)).mono ?_
      rintro e w2 ⟨u, ⟨hu1, hu2, -⟩, rfl, r2, k2, s2⟩
      have O2 := Lib.hid (own_kb hO.out k2 hb1)
      have A2 := Lib.hid (hA.out.kb k2 hbw)
      have R2 := Lib.hid r2
      have K2 := Lib.hid (hK.out.trans k2)
      have hsz : w1.heap.size ≤ w2.heap.size := by omega
      clear r2 k2 s2 hO hA hR hK hS
      by_cases u0 : u = 0
      · subst u0
        have hm6 : k ≤ 1048576 := by omega
        go_wp2_with (at_builtin; (refine wpList_push int_ty rfl (.tmp 25) (.tmp 26) rfl w1.heap.size rfl rfl O2.out hm6 hsz ?_); intro g cap' w3 own3 bel3)
        go_ret2
        exact FIN.out _ _ _ _ _ (by omega) (A2.out.lowB bel3 (Nat.le_refl _)) (Own.of_row own3) (K2.out.then (bel3.mono s1)) (by have := bel3.size; omega)
      · have u0b : (u == 0) = false := beqF u0
        by_cases u1 : u = 1
        · subst u1
          by_cases k0 : k = 0
          · subst k0
            go_wp2
            go_ret2
            exact FIN.out _ _ _ _ _ (by omega) A2.out (Own.of_row O2.out) K2.out hsz
          · have k0' : 0 < k := by omega
            have kd : decide (0 < (k : Int)) = true := by simp; omega
            clear k0
            go_wp2_with fail
            refine (spec_pick B b _ _ _ R2.out (by omega)).mono ?_
            rintro e w3 ⟨x, ⟨hx1, hx2, -⟩, rfl, r3, k3, s3⟩
            have hx2 := hx2 (by omega)
            obtain ⟨j, rfl⟩ := Int.eq_ofNat_of_zero_le hx1
            have O3 := own_kb O2.out k3 hb1
            have A3 := Lib.hid (A2.out.kb k3 hbw)
            have K3 := Lib.hid (K2.out.trans k3)
            have hs3 : w1.heap.size ≤ w3.heap.size := by omega
            clear r3 k3 s3 A2 R2 K2 O2
            obtain ⟨g, cap, hv, hg1, hg2⟩ := O3.form k0'
            have hca : a' = some ⟨g, 0, none⟩ ∧ cc = cap := by injection hv with h1 _ h3; exact ⟨h1, h3⟩
            obtain ⟨rfl, rfl⟩ := hca
            clear hv
            have hl : ys.length = k := by have := O3.1; simpa using this
            have hcj : w3.cell? ⟨g, j, none⟩ = some (.int .i64 (ys.getD j 0)) := by
              have := O3.cellAt j (by omega)
              rw [this]
              simp [List.getElem?_eq_getElem (show j < ys.length by omega)]
            have hfj := O3.frozenAt j
            have bel : Below w1.heap.size w3 (w3.setCell ⟨g, j, none⟩ (.int .i64 (-1))) := (Below.refl _ _).setCell (p := ⟨g, j, none⟩) hg1 _
            have ST := Lib.hid ((Own.of_row O3).set0 (show j < k by omega) (-1))
            have AS := Lib.hid (A3.out.lowB bel (Nat.le_refl _))
            have KS := Lib.hid (K3.out.then (bel.mono s1))
            have SZ : w1.heap.size ≤ (w3.setCell ⟨g, j, none⟩ (.int .i64 (-1))).heap.size := by simpa [World.setCell] using hs3
            clear O3 A3 K3 bel
            go_wp2
            go_ret2
            exact FIN.out _ _ _ _ _ (by omega) AS.out (by simpa [World.setCell] using ST.out) KS.out SZ
        · have u1b : (u == 1) = false := beqF u1
          go_wp2
          go_ret2
          exact FIN.out _ _ _ _ _ (by omega) A2.out (Own.of_row O2.out) K2.out hsz
/-- Two drawn lists in memory of their own. -/
def DrawnPair (w : World) (e : Ending) (w' : World) : Prop := ∃ a n c a' n' c' xs ys, n ≤ 12 ∧ n' ≤ 13 ∧ e = .returned (.tuple #[.slice a n c, .slice a' n' c']) ∧ Own w.heap.size w'.heap.size w' a n c xs ∧ Own w.heap.size w'.heap.size w' a' n' c' ys ∧ Below w.heap.size w w'
theorem spec_DrawShareMake (a : Option Addr) (len cap : Nat) (w : World) (hb : Bys w.heap.size w a len) (hc : len ≤ cap) (hm : cap ≤ maxLen) :
    Calls Try.prog 13 #[.slice a len cap] w (DrawnPair w) := by
  have Hb := Lib.hid hb
  clear hb
  go_enter Try.func13, Try.ntmps13
  go_wp2_with fail
  refine (spec_l6Open w.heap.size a len cap w (Nat.le_refl _) Hb.out hc hm).mono ?_
  rintro e w1 ⟨rfl, r1, b1, s1⟩
  have R1 := Lib.hid r1
  have B1 := Lib.hid b1
  have S1 := Lib.hid s1
  clear r1 b1 s1
  go_wp2_with fail
  refine (spec_l91Two w.heap.size w.heap.size 0 w1 R1.out (by omega)).mono ?_
  rintro e w2 ⟨a1, n1, c1, a2, n2, c2, xs, ys, h1, h2, rfl, o1, o2, k2⟩
  have O1 := Lib.hid o1
  have O2 := Lib.hid o2
  have K2 := Lib.hid k2
  clear o1 o2 k2
  go_wp2
  go_ret2
  exact ⟨_, _, _, _, _, _, _, _, h1, h2, rfl, O1.out.more (by have := S1.out; omega) (Nat.le_refl _), O2.out.more (by have := S1.out; omega) (Nat.le_refl _), B1.out.trans (K2.out.below (by have := S1.out; omega) (Nat.le_refl _))⟩
theorem spec_DrawShareBack (a : Option Addr) (len cap : Nat) (w : World) (hb : Bys w.heap.size w a len) (hc : len ≤ cap) (hm : cap ≤ maxLen) :
    Calls Try.prog 26 #[.slice a len cap] w (DrawnPair w) := by
  have Hb := Lib.hid hb
  clear hb
  go_enter Try.func26, Try.ntmps26
  go_wp2_with fail
  refine (spec_l6Open w.heap.size a len cap w (Nat.le_refl _) Hb.out hc hm).mono ?_
  rintro e w1 ⟨rfl, r1, b1, s1⟩
  have R1 := Lib.hid r1
  have B1 := Lib.hid b1
  have S1 := Lib.hid s1
  clear r1 b1 s1
  go_wp2_with fail
  refine (spec_l91Two w.heap.size w.heap.size 0 w1 R1.out (by omega)).mono ?_
  rintro e w2 ⟨a1, n1, c1, a2, n2, c2, xs, ys, h1, h2, rfl, o1, o2, k2⟩
  have O1 := Lib.hid o1
  have O2 := Lib.hid o2
  have K2 := Lib.hid k2
  clear o1 o2 k2
  go_wp2
  go_ret2
  exact ⟨_, _, _, _, _, _, _, _, h1, h2, rfl, O1.out.more (by have := S1.out; omega) (Nat.le_refl _), O2.out.more (by have := S1.out; omega) (Nat.le_refl _), B1.out.trans (K2.out.below (by have := S1.out; omega) (Nat.le_refl _))⟩
theorem spec_DrawShareDrawn (a : Option Addr) (len cap : Nat) (w : World) (hb : Bys w.heap.size w a len) (hc : len ≤ cap) (hm : cap ≤ maxLen) :
    Calls Try.prog 18 #[.slice a len cap] w (DrawnPair w) := by
  have Hb := Lib.hid hb
  clear hb
  go_enter Try.func18, Try.ntmps18
  go_wp2_with fail
  refine (spec_l6Open w.heap.size a len cap w (Nat.le_refl _) Hb.out hc hm).mono ?_
  rintro e w1 ⟨rfl, r1, b1, s1⟩
  have R1 := Lib.hid r1
  have B1 := Lib.hid b1
  have S1 := Lib.hid s1
  clear r1 b1 s1
  go_wp2_with fail
  refine (spec_l91Two w.heap.size w.heap.size 0 w1 R1.out (by omega)).mono ?_
  rintro e w2 ⟨a1, n1, c1, a2, n2, c2, xs, ys, h1, h2, rfl, o1, o2, k2⟩
  have O1 := Lib.hid o1
  have O2 := Lib.hid o2
  have K2 := Lib.hid k2
  clear o1 o2 k2
  go_wp2
  go_ret2
  exact ⟨_, _, _, _, _, _, _, _, h1, h2, rfl, O1.out.more (by have := S1.out; omega) (Nat.le_refl _), O2.out.more (by have := S1.out; omega) (Nat.le_refl _), B1.out.trans (K2.out.below (by have := S1.out; omega) (Nat.le_refl _))⟩
theorem spec_DrawShareSum (a : Option Addr) (len cap : Nat) (w : World) (hb : Bys w.heap.size w a len) (hc : len ≤ cap) (hm : cap ≤ maxLen) :
    Calls Try.prog 23 #[.slice a len cap] w (DrawnPair w) := by
  have Hb := Lib.hid hb
  clear hb
  go_enter Try.func23, Try.ntmps23
  go_wp2_with fail
  refine (spec_l6Open w.heap.size a len cap w (Nat.le_refl _) Hb.out hc hm).mono ?_
  rintro e w1 ⟨rfl, r1, b1, s1⟩
  have R1 := Lib.hid r1
  have B1 := Lib.hid b1
  have S1 := Lib.hid s1
  clear r1 b1 s1
  go_wp2_with fail
  refine (spec_l91Two w.heap.size w.heap.size 0 w1 R1.out (by omega)).mono ?_
  rintro e w2 ⟨a1, n1, c1, a2, n2, c2, xs, ys, h1, h2, rfl, o1, o2, k2⟩
  have O1 := Lib.hid o1
  have O2 := Lib.hid o2
  have K2 := Lib.hid k2
  clear o1 o2 k2
  go_wp2
  go_ret2
  exact ⟨_, _, _, _, _, _, _, _, h1, h2, rfl, O1.out.more (by have := S1.out; omega) (Nat.le_refl _), O2.out.more (by have := S1.out; omega) (Nat.le_refl _), B1.out.trans (K2.out.below (by have := S1.out; omega) (Nat.le_refl _))⟩
end Go.Proofs.Ytadngncbbbbapaa
