/-
  Chapter 32, the model: LedgerCan.
-/
import Derived.Test.YtigeffgehckbpabLeh
namespace Go.Proofs.Ytigeffgehckbpab
open Go.RowKit
set_option linter.unusedVariables false
set_option linter.unusedSimpArgs false
set_option maxRecDepth 20000
set_option maxHeartbeats 1000000 in
theorem spec_LedgerCan (c d : Int) (a : Option Addr) (n cap : Nat) (fs : List (Int × Int)) (x y : Int) (w : World) (h : Sf w a n fs) (hm : n ≤ 1048576) :
    Calls Try.prog 26 #[.agg #[.int .i64 c, .int .i64 d, .slice a n cap], .agg #[.int .i64 x, .int .i64 y]] w (Bel (.bool (Fr.pB c d fs x y)) w) := by
  obtain ⟨w1, hw1, Z1, B1, T1⟩ := led_box w c d a n cap 27
  obtain ⟨w2, hw2, Z2, B2, T2⟩ := duo_box w1 x y 24
  rw [Z1] at T2
  have H2 := Lib.hid ((h.below B1).below B2)
  have B20 := Lib.hid (B1.trans (B2.mono (by omega)))
  have TL := Lib.hid (T1.below B2 (by omega))
  have TF := Lib.hid T2
  have LL := Lib.hid h.len
  obtain ⟨c0, c1, c2, -, -, -⟩ := led_at TL.out
  clear h B1 T1 B2 T2
  go_enter Try.func26, Try.ntmps26
  go_wp2_with fail
  refine (spec_LedgerOk c d a n cap fs w2 H2.out (by omega)).mono ?_
  rintro e w4 ⟨rfl, b4⟩
  have z4 := b4.size
  have B4 := Lib.hid (B20.out.trans (b4.mono (by omega)))
  have TL4 := Lib.hid (TL.out.below b4 (by omega))
  have TF4 := Lib.hid (TF.out.below b4 (by omega))
  have H4 := Lib.hid (H2.out.below b4)
  clear hw1 hw2 c0 c1 c2 TL TF H2 b4
  cases hg : Fr.good c d fs
  · have K := Lib.hid (Fr.p_no (Fr.may_g (x := x) (y := y) hg)).1
    clear hg
    go_wp2
    go_ret
    exact ⟨by rw [K.out]; rfl, B4.out⟩
  obtain ⟨f0, f1, -, -⟩ := duo_at TF4.out
  have HG := Lib.hid hg
  clear hg
  go_wp2_with fail
  refine (spec_FracOk _ _ _).mono ?_
  rintro e w5 ⟨rfl, b5⟩
  have z5 := b5.size
  have B5 := Lib.hid (B4.out.trans (b5.mono (by omega)))
  have TL5 := Lib.hid (TL4.out.below b5 (by omega))
  have TF5 := Lib.hid (TF4.out.below b5 (by omega))
  have H5 := Lib.hid (H4.out.below b5)
  clear f0 f1 b5 TL4 TF4 H4 B4
  cases hf : Fr.ok x y
  · have K := Lib.hid (Fr.p_no (Fr.may_f (c := c) (d := d) (fs := fs) hf)).1
    clear hf
    go_wp2
    go_ret
    exact ⟨by rw [K.out]; rfl, B5.out⟩
  have K := Lib.hid (show Fr.pB c d fs x y = Fr.good c d (fs ++ [(x, y)]) by simp [Fr.pB, Fr.may, HG.out, hf])
  obtain ⟨f0, f1, -, -⟩ := duo_at TF5.out
  obtain ⟨c0, c1, c2, -, -, -⟩ := led_at TL5.out
  clear hf
  go_wp2_with fail
  refine (spec_l32Pay c d a n cap fs x y w5 H5.out hm).mono ?_
  rintro e w6 ⟨a6, n6, c6, rfl, o6, b6⟩
  have n6l : n6 ≤ 1048577 := by have h1 := o6.len; have h2 := LL.out; simp at h1; omega
  have B6 := Lib.hid (B5.out.trans (b6.mono (by omega)))
  have z6 := b6.size
  have O6 := Lib.hid o6
  clear o6 b6 f0 f1 c0 c1 c2
  go_wp2_with fail
  refine (spec_LedgerOk c d a6 n6 c6 (fs ++ [(x, y)]) w6 O6.out.sf n6l).mono ?_
  rintro e w7 ⟨rfl, b7⟩
  have B7 := Lib.hid (B6.out.trans (b7.mono (by omega)))
  clear b7
  rw [← K.out]
  go_wp2
  go_ret
  exact ⟨rfl, B7.out⟩
end Go.Proofs.Ytigeffgehckbpab
