/-
  Chapter 31, the model: FracOk, FracOf.
-/
import Derived.Test.YtigeffgehckbpabFrc
namespace Go.Proofs.Ytigeffgehckbpab
open Go.RowKit
set_option linter.unusedVariables false
set_option linter.unusedSimpArgs false
set_option maxRecDepth 20000
theorem inB_lim (n d : Int) : Fr.lim n d = (inB n 0 999 && inB d 1 60) := by simp [Fr.lim, inB, Bool.and_assoc]
theorem inB_of (n d : Int) : Fr.ofOk n d = (inB n 0 99999 && inB d 1 99999) := by simp [Fr.ofOk, inB, Bool.and_assoc]
theorem spec_FracOk (n d : Int) (w : World) :
    Calls Try.prog 17 #[.agg #[.int .i64 n, .int .i64 d]] w (Bel (.bool (Fr.ok n d)) w) := by
  cases h1 : inB n 0 999
  · have E : Fr.ok n d = false := Fr.ok_not_lim (by rw [inB_lim, h1]; rfl)
    rw [E]; clear E
    go_enter Try.func17, Try.ntmps17
    go_wp2_with (go_at_call 40; refine (spec_l6In _ _ _ _).mono ?_; rintro e w' ⟨rfl, rfl⟩; rw [h1])
    go_ret
    exact ⟨rfl, bel_box _ _⟩
  cases h2 : inB d 1 60
  · have E : Fr.ok n d = false := Fr.ok_not_lim (by rw [inB_lim, h1, h2]; rfl)
    rw [E]; clear E
    go_enter Try.func17, Try.ntmps17
    go_wp2_with (go_at_call 40; refine (spec_l6In _ _ _ _).mono ?_; rintro e w' ⟨rfl, rfl⟩; first | rw [h1] | rw [h2])
    go_ret
    exact ⟨rfl, bel_box _ _⟩
  have hl : Fr.lim n d = true := by rw [inB_lim, h1, h2]; rfl
  obtain ⟨a, b, rfl, rfl, k1, k2, k3⟩ := Fr.lim_nat hl
  rw [Fr.ok_is hl]
  clear hl
  by_cases hg : a.gcd b = 1
  · have q : (((a.gcd b : Nat) : Int) == 1) = true := beqT (by omega)
    rw [decide_eq_true hg]
    clear hg
    go_enter Try.func17, Try.ntmps17
    go_wp2_with (first | (go_at_call 40; refine (spec_l6In _ _ _ _).mono ?_; rintro e w' ⟨rfl, rfl⟩; first | rw [h1] | rw [h2]) | (go_at_call 41; refine (spec_l31Gcd _ _ _ (by omega) (by omega)).mono ?_; rintro e w' ⟨rfl, rfl⟩))
    go_ret
    exact ⟨rfl, bel_box _ _⟩
  · have q : (((a.gcd b : Nat) : Int) == 1) = false := beqF (by omega)
    rw [decide_eq_false hg]
    clear hg
    go_enter Try.func17, Try.ntmps17
    go_wp2_with (first | (go_at_call 40; refine (spec_l6In _ _ _ _).mono ?_; rintro e w' ⟨rfl, rfl⟩; first | rw [h1] | rw [h2]) | (go_at_call 41; refine (spec_l31Gcd _ _ _ (by omega) (by omega)).mono ?_; rintro e w' ⟨rfl, rfl⟩))
    go_ret
    exact ⟨rfl, bel_box _ _⟩
end Go.Proofs.Ytigeffgehckbpab
