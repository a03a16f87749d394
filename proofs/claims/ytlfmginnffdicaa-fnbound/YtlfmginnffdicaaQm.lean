/-
  Chapter 13: where may be asked, and for how many at most a wrong report is taken: of the program and of the model; and what is drawn for them.
-/
import Derived.Test.YtlfmginnffdicaaTys
import Derived.Test.YtlfmginnffdicaaTyd
namespace Go.Proofs.Ytlfmginnffdicaa
open Go.RowKit
set_option linter.unusedVariables false
set_option linter.unusedSimpArgs false
namespace Fp
def qmay (k x : Int) : Bool := decide (0 < (tlen k : Int)) && decide ((tlen k : Int) < x) && decide (x < 31)
def qbound (k : Int) : Int := 2 * (tlen k : Int) * 31
theorem qmay_in (k x : Int) (h : tk k = true) : inB x ((tlen k : Int) + 1) 30 = qmay k x := by
  have := tlen_pos h
  unfold inB qmay
  rw [show decide (0 < (tlen k : Int)) = true by simp; omega, Bool.true_and, Bool.eq_iff_iff]
  simp only [Bool.and_eq_true, decide_eq_true_eq]
  omega
theorem qmay_no {k x : Int} (h : tk k = false) : qmay k x = false := by rw [qmay, tlen_no h]; rfl
end Fp
theorem impl_QueryMay (k x : Int) (w : World) : Calls Try.prog 24 #[.int .i64 k, .int .i64 x] w (Bel (.bool (Fp.qmay k x)) w) := by
  have TL := Fp.tlen_le k
  by_cases h1 : 0 < (Fp.tlen k : Int)
  · have d1 : decide (0 < (Fp.tlen k : Int)) = true := decide_eq_true h1
    by_cases h2 : (Fp.tlen k : Int) < x
    · have d2 : decide ((Fp.tlen k : Int) < x) = true := decide_eq_true h2
      have E : Hid (Fp.qmay k x = Fp.ok x) := by
        show _ = _
        unfold Fp.qmay
        rw [d1, d2]
        cases ho : Fp.ok x
        · rw [Fp.ok_not] at ho
          simp; omega
        · rw [Fp.ok_iff] at ho
          simp; omega
      go_enter Try.func24, Try.ntmps24
      go_wp2_with (first | (go_at_call 17; refine (impl_TypeLen _ _).mono ?_; rintro e w1 ⟨rfl, b1⟩) | (go_at_call 34; (with_reducible refine (impl_FieldOk _ _).mono ?_); rintro e w' ⟨rfl, rfl⟩))
      go_ret
      exact ⟨by rw [E.out]; rfl, b1⟩
    · have d2 : decide ((Fp.tlen k : Int) < x) = false := decide_eq_false h2
      have E : Hid (Fp.qmay k x = false) := by show _ = _; unfold Fp.qmay; rw [d1, d2]; rfl
      go_enter Try.func24, Try.ntmps24
      go_wp2_with (first | (go_at_call 17; refine (impl_TypeLen _ _).mono ?_; rintro e w1 ⟨rfl, b1⟩) | (go_at_call 34; (with_reducible refine (impl_FieldOk _ _).mono ?_); rintro e w' ⟨rfl, rfl⟩))
      go_ret
      exact ⟨by rw [E.out]; rfl, b1⟩
  · have d1 : decide (0 < (Fp.tlen k : Int)) = false := decide_eq_false h1
    have E : Hid (Fp.qmay k x = false) := by show _ = _; unfold Fp.qmay; rw [d1]; rfl
    go_enter Try.func24, Try.ntmps24
    go_wp2_with (first | (go_at_call 17; refine (impl_TypeLen _ _).mono ?_; rintro e w1 ⟨rfl, b1⟩) | (go_at_call 34; (with_reducible refine (impl_FieldOk _ _).mono ?_); rintro e w' ⟨rfl, rfl⟩))
    go_ret
    exact ⟨by rw [E.out]; rfl, b1⟩
theorem spec_QueryMay (k x : Int) (w : World) : Calls Try.prog 25 #[.int .i64 k, .int .i64 x] w fun e w' => e = .returned (.bool (Fp.qmay k x)) ∧ w = w' := by
  cases h : Fp.tk k
  · rw [Fp.qmay_no h]
    go_enter Try.func25, Try.ntmps25
    go_wp2_with (first | (go_at_call 44; (with_reducible refine (spec_l11Kind _ _).mono ?_); rintro e w' ⟨rfl, rfl⟩))
    go_ret
    exact ⟨rfl, rfl⟩
  · rw [← Fp.qmay_in k x h]
    have TL := Fp.tlen_le k
    go_enter Try.func25, Try.ntmps25
    go_wp2_with (first | (go_at_call 44; (with_reducible refine (spec_l11Kind _ _).mono ?_); rintro e w' ⟨rfl, rfl⟩) | (go_at_call 50; (with_reducible refine (spec_TypeLen _ _).mono ?_); rintro e w' ⟨rfl, rfl⟩) | (go_at_call 45; (with_reducible refine (spec_l6In _ _ _ _).mono ?_); rintro e w' ⟨rfl, rfl⟩))
    go_ret
    exact ⟨rfl, rfl⟩
theorem impl_QueryBound (k : Int) (w : World) : Calls Try.prog 27 #[.int .i64 k] w (Bel (.int .i64 (Fp.qbound k)) w) := by
  have TL := Fp.tlen_le k
  go_enter Try.func27, Try.ntmps27
  go_wp2_with (first | (go_at_call 17; refine (impl_TypeLen _ _).mono ?_; rintro e w1 ⟨rfl, b1⟩))
  go_ret
  exact ⟨by unfold Fp.qbound; first | rfl | (congr 2; omega), b1⟩
theorem spec_QueryBound (k : Int) (w : World) : Calls Try.prog 28 #[.int .i64 k] w fun e w' => e = .returned (.int .i64 (Fp.qbound k)) ∧ w = w' := by
  have TL := Fp.tlen_le k
  cases h : Fp.tk k
  · have E : Fp.qbound k = 0 := by unfold Fp.qbound; rw [Fp.tlen_no h]; rfl
    rw [E]; clear E
    go_enter Try.func28, Try.ntmps28
    go_wp2_with (first | (go_at_call 44; (with_reducible refine (spec_l11Kind _ _).mono ?_); rintro e w' ⟨rfl, rfl⟩))
    go_ret
    exact ⟨rfl, rfl⟩
  · go_enter Try.func28, Try.ntmps28
    go_wp2_with (first | (go_at_call 44; (with_reducible refine (spec_l11Kind _ _).mono ?_); rintro e w' ⟨rfl, rfl⟩) | (go_at_call 50; (with_reducible refine (spec_TypeLen _ _).mono ?_); rintro e w' ⟨rfl, rfl⟩))
    go_ret
    exact ⟨by unfold Fp.qbound; first | rfl | (congr 2; omega), rfl⟩
def QmPost (w : World) (e : Ending) (w' : World) : Prop := ∃ k x : Int, 0 ≤ k ∧ k ≤ 4 ∧ -1 ≤ x ∧ x ≤ 32 ∧ e = .returned (.tuple #[.int .i64 k, .int .i64 x]) ∧ Below w.heap.size w w'
theorem spec_DrawQueryMay (a : Option Addr) (len cap : Nat) (w : World) (hb : Bys w.heap.size w a len) (hc : len ≤ cap) (hm : cap ≤ maxLen) :
    Calls Try.prog 23 #[.slice a len cap] w (QmPost w) := by
  have Hb := Lib.hid hb
  clear hb
  go_enter Try.func23, Try.ntmps23
  go_wp2_with fail
  refine (spec_l6Open w.heap.size a len cap w (Nat.le_refl _) Hb.out hc hm).mono ?_
  rintro e w1 ⟨rfl, r1, b1, s1⟩
  have R1 := Lib.hid r1
  have B1 := Lib.hid b1
  have S1 := Lib.hid s1
  clear r1 b1 s1
  go_wp2_with fail
  refine (spec_l91Kind w.heap.size w.heap.size 0 w1 R1.out (by omega)).mono ?_
  rintro e w2 ⟨k, hk1, hk2, rfl, r2, k2⟩
  have R2 := Lib.hid r2
  have K2 := Lib.hid k2
  clear r2 k2
  go_wp2_with fail
  refine (spec_pick w.heap.size w.heap.size 2 34 w2 R2.out (by omega)).mono ?_
  rintro e w3 ⟨x, ⟨x1, x2, -⟩, rfl, r3, k3, s3⟩
  have K3 := Lib.hid (K2.out.trans k3)
  have x3 := x2 (by omega)
  clear r3 k3 s3 x2
  go_wp2
  go_ret2
  exact ⟨k, x - 1, hk1, hk2, by omega, by omega, rfl, B1.out.trans (K3.out.below (by have := S1.out; omega) (Nat.le_refl _))⟩
def QbPost (w : World) (e : Ending) (w' : World) : Prop := ∃ x : Int, -1 ≤ x ∧ x ≤ 4 ∧ e = .returned (.int .i64 x) ∧ Below w.heap.size w w'
theorem spec_DrawQueryBound (a : Option Addr) (len cap : Nat) (w : World) (hb : Bys w.heap.size w a len) (hc : len ≤ cap) (hm : cap ≤ maxLen) :
    Calls Try.prog 26 #[.slice a len cap] w (QbPost w) := by
  have Hb := Lib.hid hb
  clear hb
  go_enter Try.func26, Try.ntmps26
  go_wp2_with fail
  refine (spec_l6Open w.heap.size a len cap w (Nat.le_refl _) Hb.out hc hm).mono ?_
  rintro e w1 ⟨rfl, r1, b1, s1⟩
  have R1 := Lib.hid r1
  have B1 := Lib.hid b1
  have S1 := Lib.hid s1
  clear r1 b1 s1
  go_wp2_with fail
  refine (spec_pick w.heap.size w.heap.size 0 6 w1 R1.out (by omega)).mono ?_
  rintro e w2 ⟨x, ⟨x1, x2, -⟩, rfl, r2, k2, s2⟩
  have K2 := Lib.hid k2
  have x3 := x2 (by omega)
  clear r2 k2 x2 s2
  go_wp2
  go_ret
  exact ⟨x - 1, by omega, by omega, rfl, B1.out.trans (K2.out.below (by have := S1.out; omega) (Nat.le_refl _))⟩
end Go.Proofs.Ytlfmginnffdicaa
