/-
  What the functions of chapter 1 return, of the program and of the model: contracts of their calls, for every argument. They write nothing.
-/
import Derived.Test.YtmaapekmndjgiaaRows
import Derived.Test.YtmaapekmndjgiaaFp
import Derived.WalkKit
import Derived.Below
import Derived.Lib.Hide
namespace Go.Proofs.Ytmaapekmndjgiaa
open Go.RowKit
set_option linter.unusedVariables false
set_option linter.unusedSimpArgs false
theorem impl_FieldOk (n : Int) (w : World) :
    Calls Try.prog 17 #[.int .i64 n] w fun e w' => e = .returned (.bool (Fp.ok n)) ∧ w = w' := by
  by_cases h : 0 ≤ n
  · by_cases h2 : n < 31
    · have e : Fp.ok n = true := (Fp.ok_iff n).2 ⟨h, h2⟩
      rw [e]; clear e
      go_enter Try.func17, Try.ntmps17
      go_wp2
      go_ret
      exact ⟨rfl, rfl⟩
    · have e : Fp.ok n = false := (Fp.ok_not n).2 (by omega)
      rw [e]; clear e
      go_enter Try.func17, Try.ntmps17
      go_wp2
      go_ret
      exact ⟨rfl, rfl⟩
  · have e : Fp.ok n = false := (Fp.ok_not n).2 (by omega)
    rw [e]; clear e
    go_enter Try.func17, Try.ntmps17
    go_wp2
    go_ret
    exact ⟨rfl, rfl⟩
def inB (n low high : Int) : Bool := decide (low ≤ n) && decide (n ≤ high)
theorem spec_l6In (n low high : Int) (w : World) :
    Calls Try.prog 20 #[.int .i64 n, .int .i64 low, .int .i64 high] w fun e w' => e = .returned (.bool (inB n low high)) ∧ w = w' := by
  by_cases h : low ≤ n
  · by_cases h2 : n ≤ high
    · have e : inB n low high = true := by simp [inB, h, h2]
      rw [e]; clear e
      go_enter Try.func20, Try.ntmps20
      go_wp2
      go_ret
      exact ⟨rfl, rfl⟩
    · have e : inB n low high = false := by simp [inB, h, h2]
      rw [e]; clear e
      go_enter Try.func20, Try.ntmps20
      go_wp2
      go_ret
      exact ⟨rfl, rfl⟩
  · have e : inB n low high = false := by simp [inB, h]
    rw [e]; clear e
    go_enter Try.func20, Try.ntmps20
    go_wp2
    go_ret
    exact ⟨rfl, rfl⟩
theorem inB_ok (n : Int) : inB n 0 30 = Fp.ok n := by
  unfold inB Fp.ok; congr 1; rw [Bool.eq_iff_iff]; simp; omega
theorem spec_FieldOk (n : Int) (w : World) :
    Calls Try.prog 14 #[.int .i64 n] w fun e w' => e = .returned (.bool (Fp.ok n)) ∧ w = w' := by
  go_enter Try.func14, Try.ntmps14
  go_wp2_with (go_at_call 20; refine (spec_l6In _ _ _ _).mono ?_; rintro e w' ⟨rfl, rfl⟩)
  go_ret
  exact ⟨by rw [inB_ok]; rfl, rfl⟩
theorem impl_reduce (n : Int) (w : World) (h1 : -1000 < n) (h2 : n < 1000000) :
    Calls Try.prog 18 #[.int .i64 n] w fun e w' => e = .returned (.int .i64 (Fp.red n)) ∧ w = w' := by
  by_cases h : 0 ≤ n
  · go_enter Try.func18, Try.ntmps18
    go_wp2
    go_ret
    exact ⟨rfl, rfl⟩
  · have lo := Fp.tmod_lo n
    have hi := Fp.tmod_hi n
    by_cases hz : n.tmod 31 < 0
    · go_enter Try.func18, Try.ntmps18
      go_wp2
      go_ret
      exact ⟨by rw [Fp.red, ← Fp.tmod_neg n hz]; rfl, rfl⟩
    · go_enter Try.func18, Try.ntmps18
      go_wp2
      go_ret
      exact ⟨by rw [Fp.red, ← Fp.tmod_pos n (by omega)]; rfl, rfl⟩
theorem impl_plus (a b : Int) (w : World) (ha : Fp.ok a = true) (hb : Fp.ok b = true) :
    Calls Try.prog 12 #[.int .i64 a, .int .i64 b] w fun e w' => e = .returned (.int .i64 ((a + b) % 31)) ∧ w = w' := by
  rw [Fp.ok_iff] at ha hb
  obtain ⟨ha0, ha1⟩ := ha
  obtain ⟨hb0, hb1⟩ := hb
  go_enter Try.func12, Try.ntmps12
  go_wp2_with (go_at_call 18; refine (impl_reduce _ _ (by omega) (by omega)).mono ?_; rintro e w' ⟨rfl, rfl⟩)
  go_ret
  exact ⟨rfl, rfl⟩
theorem impl_times (a b : Int) (w : World) (ha : Fp.ok a = true) (hb : Fp.ok b = true) :
    Calls Try.prog 19 #[.int .i64 a, .int .i64 b] w fun e w' => e = .returned (.int .i64 ((a * b) % 31)) ∧ w = w' := by
  have hp := Fp.mul_bd ha hb
  obtain ⟨hp0, hp1⟩ := hp
  rw [Fp.ok_iff] at ha hb
  obtain ⟨ha0, ha1⟩ := ha
  obtain ⟨hb0, hb1⟩ := hb
  go_enter Try.func19, Try.ntmps19
  go_wp2_with (go_at_call 18; refine (impl_reduce _ _ (by omega) (by omega)).mono ?_; rintro e w' ⟨rfl, rfl⟩)
  go_ret
  exact ⟨rfl, rfl⟩
theorem spec_FieldSum (a b : Int) (w : World) :
    Calls Try.prog 21 #[.int .i64 a, .int .i64 b] w fun e w' => e = .returned (.int .i64 (Fp.sum a b)) ∧ w = w' := by
  cases ha : Fp.ok a
  · have E := Fp.sum_na (b := b) ha
    rw [E]; clear E
    go_enter Try.func21, Try.ntmps21
    go_wp2_with (go_at_call 14; refine (spec_FieldOk _ _).mono ?_; rintro e w' ⟨rfl, rfl⟩)
    go_ret
    exact ⟨rfl, rfl⟩
  · cases hb : Fp.ok b
    · have E := Fp.sum_nb (a := a) hb
      rw [E]; clear E
      go_enter Try.func21, Try.ntmps21
      go_wp2_with (go_at_call 14; refine (spec_FieldOk _ _).mono ?_; rintro e w' ⟨rfl, rfl⟩)
      go_ret
      exact ⟨rfl, rfl⟩
    · have E := Fp.sum_eq ha hb
      rw [E]; clear E
      have hp := Fp.mul_bd ha hb
      obtain ⟨hp0, hp1⟩ := hp
      have ia := (Fp.ok_iff a).1 ha
      have ib := (Fp.ok_iff b).1 hb
      obtain ⟨ha0, ha1⟩ := ia
      obtain ⟨hb0, hb1⟩ := ib
      go_enter Try.func21, Try.ntmps21
      go_wp2_with (go_at_call 14; refine (spec_FieldOk _ _).mono ?_; rintro e w' ⟨rfl, rfl⟩)
      go_ret
      exact ⟨rfl, rfl⟩
theorem impl_FieldMul (a b : Int) (w : World) :
    Calls Try.prog 13 #[.int .i64 a, .int .i64 b] w fun e w' => e = .returned (.int .i64 (Fp.mul a b)) ∧ w = w' := by
  cases ha : Fp.ok a
  · have E := Fp.mul_na (b := b) ha
    rw [E]; clear E
    go_enter Try.func13, Try.ntmps13
    go_wp2_with (go_at_call 17; refine (impl_FieldOk _ _).mono ?_; rintro e w' ⟨rfl, rfl⟩)
    go_ret
    exact ⟨rfl, rfl⟩
  · cases hb : Fp.ok b
    · have E := Fp.mul_nb (a := a) hb
      rw [E]; clear E
      go_enter Try.func13, Try.ntmps13
      go_wp2_with (go_at_call 17; refine (impl_FieldOk _ _).mono ?_; rintro e w' ⟨rfl, rfl⟩)
      go_ret
      exact ⟨rfl, rfl⟩
    · have E := Fp.mul_eq ha hb
      rw [E]; clear E
      go_enter Try.func13, Try.ntmps13
      go_wp2_with (first | (go_at_call 17; refine (impl_FieldOk _ _).mono ?_; rintro e w' ⟨rfl, rfl⟩) | (go_at_call 19; refine (impl_times _ _ _ ha hb).mono ?_; rintro e w' ⟨rfl, rfl⟩))
      go_ret
      exact ⟨rfl, rfl⟩
theorem spec_FieldMul (a b : Int) (w : World) :
    Calls Try.prog 16 #[.int .i64 a, .int .i64 b] w fun e w' => e = .returned (.int .i64 (Fp.mul a b)) ∧ w = w' := by
  cases ha : Fp.ok a
  · have E := Fp.mul_na (b := b) ha
    rw [E]; clear E
    go_enter Try.func16, Try.ntmps16
    go_wp2_with (go_at_call 14; refine (spec_FieldOk _ _).mono ?_; rintro e w' ⟨rfl, rfl⟩)
    go_ret
    exact ⟨rfl, rfl⟩
  · cases hb : Fp.ok b
    · have E := Fp.mul_nb (a := a) hb
      rw [E]; clear E
      go_enter Try.func16, Try.ntmps16
      go_wp2_with (go_at_call 14; refine (spec_FieldOk _ _).mono ?_; rintro e w' ⟨rfl, rfl⟩)
      go_ret
      exact ⟨rfl, rfl⟩
    · have E := Fp.mul_eq ha hb
      rw [E]; clear E
      have hp := Fp.mul_bd ha hb
      obtain ⟨hp0, hp1⟩ := hp
      have ia := (Fp.ok_iff a).1 ha
      have ib := (Fp.ok_iff b).1 hb
      obtain ⟨ha0, ha1⟩ := ia
      obtain ⟨hb0, hb1⟩ := ib
      go_enter Try.func16, Try.ntmps16
      go_wp2_with (go_at_call 14; refine (spec_FieldOk _ _).mono ?_; rintro e w' ⟨rfl, rfl⟩)
      go_ret
      exact ⟨rfl, rfl⟩
end Go.Proofs.Ytmaapekmndjgiaa
