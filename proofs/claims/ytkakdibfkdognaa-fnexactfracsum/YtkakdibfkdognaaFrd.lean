/-
  Chapter 31, the model: FracOk, FracOf.
-/
import Derived.Test.YtkakdibfkdognaaFrc
namespace Go.Proofs.Ytkakdibfkdognaa
open Go.RowKit
set_option linter.unusedVariables false
set_option linter.unusedSimpArgs false
set_option maxRecDepth 20000
theorem inB_lim (n d : Int) : Fr.lim n d = (inB n 0 999 && inB d 1 60) := by simp [Fr.lim, inB, Bool.and_assoc]
theorem inB_of (n d : Int) : Fr.ofOk n d = (inB n 0 99999 && inB d 1 99999) := by simp [Fr.ofOk, inB, Bool.and_assoc]
theorem spec_FracOk (n d : Int) (w : World) :
    Calls Try.prog 24 #[.agg #[.int .i64 n, .int .i64 d]] w (Bel (.bool (Fr.ok n d)) w) := by
  cases h1 : inB n 0 999
  · have E : Fr.ok n d = false := Fr.ok_not_lim (by rw [inB_lim, h1]; rfl)
    rw [E]; clear E
    go_enter Try.func24, Try.ntmps24
    go_wp2_with (go_at_call 30; refine (spec_l6In _ _ _ _).mono ?_; rintro e w' ⟨rfl, rfl⟩; rw [h1])
    go_ret
    exact ⟨rfl, bel_box _ _⟩
  cases h2 : inB d 1 60
  · have E : Fr.ok n d = false := Fr.ok_not_lim (by rw [inB_lim, h1, h2]; rfl)
    rw [E]; clear E
    go_enter Try.func24, Try.ntmps24
    go_wp2_with (go_at_call 30; refine (spec_l6In _ _ _ _).mono ?_; rintro e w' ⟨rfl, rfl⟩; first | rw [h1] | rw [h2])
    go_ret
    exact ⟨rfl, bel_box _ _⟩
  have hl : Fr.lim n d = true := by rw [inB_lim, h1, h2]; rfl
  obtain ⟨a, b, rfl, rfl, k1, k2, k3⟩ := Fr.lim_nat hl
  rw [Fr.ok_is hl]
  clear hl
  by_cases hg : a.gcd b = 1
  · have q : (((a.gcd b : Nat) : Int) == 1) = true := beqT (by omega)
    rw [decide_eq_true hg]
    clear hg
    go_enter Try.func24, Try.ntmps24
    go_wp2_with (first | (go_at_call 30; refine (spec_l6In _ _ _ _).mono ?_; rintro e w' ⟨rfl, rfl⟩; first | rw [h1] | rw [h2]) | (go_at_call 41; refine (spec_l31Gcd _ _ _ (by omega) (by omega)).mono ?_; rintro e w' ⟨rfl, rfl⟩))
    go_ret
    exact ⟨rfl, bel_box _ _⟩
  · have q : (((a.gcd b : Nat) : Int) == 1) = false := beqF (by omega)
    rw [decide_eq_false hg]
    clear hg
    go_enter Try.func24, Try.ntmps24
    go_wp2_with (first | (go_at_call 30; refine (spec_l6In _ _ _ _).mono ?_; rintro e w' ⟨rfl, rfl⟩; first | rw [h1] | rw [h2]) | (go_at_call 41; refine (spec_l31Gcd _ _ _ (by omega) (by omega)).mono ?_; rintro e w' ⟨rfl, rfl⟩))
    go_ret
    exact ⟨rfl, bel_box _ _⟩
theorem spec_FracOf (n d : Int) (w : World) :
    Calls Try.prog 15 #[.int .i64 n, .int .i64 d] w (Bel (.tuple #[.agg #[.int .i64 (Fr.ofN n d), .int .i64 (Fr.ofD n d)], .bool (Fr.ofB n d)]) w) := by
  cases h1 : inB n 0 99999
  · obtain ⟨k1, k2, k3⟩ := Fr.ofB_no (n := n) (d := d) (by rw [inB_of, h1]; rfl)
    rw [k1, k2, k3]
    clear k1 k2 k3
    go_enter Try.func15, Try.ntmps15
    go_wp2_with (go_at_call 30; refine (spec_l6In _ _ _ _).mono ?_; rintro e w' ⟨rfl, rfl⟩; rw [h1])
    exact bodyPost_ret (v := .tuple #[.agg #[.int .i64 0, .int .i64 0], .bool false]) (by simp [results, Try.results15, go_sem]) rfl ⟨rfl, (Below.refl _ _).alloc (Nat.le_refl _) _⟩
  cases h2 : inB d 1 99999
  · obtain ⟨k1, k2, k3⟩ := Fr.ofB_no (n := n) (d := d) (by rw [inB_of, h1, h2]; rfl)
    rw [k1, k2, k3]
    clear k1 k2 k3
    go_enter Try.func15, Try.ntmps15
    go_wp2_with (go_at_call 30; refine (spec_l6In _ _ _ _).mono ?_; rintro e w' ⟨rfl, rfl⟩; first | rw [h1] | rw [h2])
    exact bodyPost_ret (v := .tuple #[.agg #[.int .i64 0, .int .i64 0], .bool false]) (by simp [results, Try.results15, go_sem]) rfl ⟨rfl, (Below.refl _ _).alloc (Nat.le_refl _) _⟩
  have h : Fr.ofOk n d = true := by rw [inB_of, h1, h2]; rfl
  obtain ⟨a, b, rfl, rfl, g1, g2, g3⟩ := Fr.of_nat h
  obtain ⟨k1, k2, k3⟩ := Fr.ofB_yes h
  rw [k1, k2, k3]
  have C := Fr.ok_low (n := a) g2
  clear k1 k2 k3 h
  obtain ⟨w1, hw1, Z1, B1, T1⟩ := duo_box w 0 0 26
  have T := Lib.hid T1
  have B := Lib.hid B1
  clear T1 B1
  cases hc : Fr.can a b
  all_goals
    rw [hc] at C
    go_enter Try.func15, Try.ntmps15
    go_wp2_with (go_at_call 30; refine (spec_l6In _ _ _ _).mono ?_; rintro e w' ⟨rfl, rfl⟩; first | rw [h1] | rw [h2])
    refine (spec_l31Of a b _ g2 (by omega) (by omega)).mono ?_
    rintro e w3 ⟨rfl, b3⟩
    have z3 := b3.size
    have T3 := Lib.hid (T.out.below b3 (by omega))
    have B3 := Lib.hid (B.out.trans (b3.mono (by omega)))
    clear b3 hw1
    go_wp2_with fail
    refine (spec_FracOk _ _ _).mono ?_
    rintro e w4 ⟨rfl, b4⟩
    rw [C]
    have z4 := b4.size
    have T4 := Lib.hid (T3.out.below b4 (by omega))
    have B4 := Lib.hid (B3.out.trans (b4.mono (by omega)))
    clear b4
  · obtain ⟨e0, e1, f0, f1⟩ := duo_at T4.out
    go_wp2
    refine bodyPost_ret (v := .tuple #[.agg #[.int .i64 0, .int .i64 0], .bool false]) (by simp [results, Try.results15, go_sem, e0, e1]) rfl ⟨rfl, ?_⟩
    exact (B4.out.setCell (by simp) _).setCell (by simp) _
  · go_wp2_with fail
    refine (spec_l31Of a b _ g2 (by omega) (by omega)).mono ?_
    rintro e w5 ⟨rfl, b5⟩
    have z5 := b5.size
    obtain ⟨e0, e1, f0, f1⟩ := duo_at (T4.out.below b5 (by omega))
    have B5 := Lib.hid (B4.out.trans (b5.mono (by omega)))
    clear b5
    go_wp2
    refine bodyPost_ret (v := .tuple #[.agg #[.int .i64 (Fr.num a b : Int), .int .i64 (Fr.den a b : Int)], .bool true]) (by simp [results, Try.results15, go_sem, e0, e1]) rfl ⟨rfl, ?_⟩
    exact (B5.out.setCell (by simp) _).setCell (by simp) _
end Go.Proofs.Ytkakdibfkdognaa
