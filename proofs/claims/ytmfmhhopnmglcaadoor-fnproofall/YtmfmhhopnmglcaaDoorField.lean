/-
  What the functions of chapter 1 return, of the program and of the model: contracts of their calls, for every argument. They write nothing.
-/
import Derived.Test.YtmfmhhopnmglcaaDoorRows
import Derived.Test.YtmfmhhopnmglcaaDoorFp
import Derived.WalkKit
import Derived.Below
import Derived.Lib.Hide
namespace Go.Proofs.YtmfmhhopnmglcaaDoor
open Go.RowKit
set_option linter.unusedVariables false
set_option linter.unusedSimpArgs false
theorem impl_FieldOk (n : Int) (w : World) :
    Calls Tryd.prog 48 #[.int .i64 n] w fun e w' => e = .returned (.bool (Fp.ok n)) ∧ w = w' := by
  by_cases h : 0 ≤ n
  · by_cases h2 : n < 31
    · have e : Fp.ok n = true := (Fp.ok_iff n).2 ⟨h, h2⟩
      rw [e]; clear e
      go_enter Tryd.func48, Tryd.ntmps48
      go_wp2
      go_ret
      exact ⟨rfl, rfl⟩
    · have e : Fp.ok n = false := (Fp.ok_not n).2 (by omega)
      rw [e]; clear e
      go_enter Tryd.func48, Tryd.ntmps48
      go_wp2
      go_ret
      exact ⟨rfl, rfl⟩
  · have e : Fp.ok n = false := (Fp.ok_not n).2 (by omega)
    rw [e]; clear e
    go_enter Tryd.func48, Tryd.ntmps48
    go_wp2
    go_ret
    exact ⟨rfl, rfl⟩
def inB (n low high : Int) : Bool := decide (low ≤ n) && decide (n ≤ high)
theorem spec_l6In (n low high : Int) (w : World) :
    Calls Tryd.prog 78 #[.int .i64 n, .int .i64 low, .int .i64 high] w fun e w' => e = .returned (.bool (inB n low high)) ∧ w = w' := by
  by_cases h : low ≤ n
  · by_cases h2 : n ≤ high
    · have e : inB n low high = true := by simp [inB, h, h2]
      rw [e]; clear e
      go_enter Tryd.func78, Tryd.ntmps78
      go_wp2
      go_ret
      exact ⟨rfl, rfl⟩
    · have e : inB n low high = false := by simp [inB, h, h2]
      rw [e]; clear e
      go_enter Tryd.func78, Tryd.ntmps78
      go_wp2
      go_ret
      exact ⟨rfl, rfl⟩
  · have e : inB n low high = false := by simp [inB, h]
    rw [e]; clear e
    go_enter Tryd.func78, Tryd.ntmps78
    go_wp2
    go_ret
    exact ⟨rfl, rfl⟩
theorem inB_ok (n : Int) : inB n 0 30 = Fp.ok n := by
  unfold inB Fp.ok; congr 1; rw [Bool.eq_iff_iff]; simp; omega
theorem spec_FieldOk (n : Int) (w : World) :
    Calls Tryd.prog 58 #[.int .i64 n] w fun e w' => e = .returned (.bool (Fp.ok n)) ∧ w = w' := by
  go_enter Tryd.func58, Tryd.ntmps58
  go_wp2_with (go_at_call 78; refine (spec_l6In _ _ _ _).mono ?_; rintro e w' ⟨rfl, rfl⟩)
  go_ret
  exact ⟨by rw [inB_ok]; rfl, rfl⟩
theorem impl_reduce (n : Int) (w : World) (h1 : -1000 < n) (h2 : n < 1000000) :
    Calls Tryd.prog 76 #[.int .i64 n] w fun e w' => e = .returned (.int .i64 (Fp.red n)) ∧ w = w' := by
  by_cases h : 0 ≤ n
  · go_enter Tryd.func76, Tryd.ntmps76
    go_wp2
    go_ret
    exact ⟨rfl, rfl⟩
  · have lo := Fp.tmod_lo n
    have hi := Fp.tmod_hi n
    by_cases hz : n.tmod 31 < 0
    · go_enter Tryd.func76, Tryd.ntmps76
      go_wp2
      go_ret
      exact ⟨by rw [Fp.red, ← Fp.tmod_neg n hz]; rfl, rfl⟩
    · go_enter Tryd.func76, Tryd.ntmps76
      go_wp2
      go_ret
      exact ⟨by rw [Fp.red, ← Fp.tmod_pos n (by omega)]; rfl, rfl⟩
theorem impl_plus (a b : Int) (w : World) (ha : Fp.ok a = true) (hb : Fp.ok b = true) :
    Calls Tryd.prog 50 #[.int .i64 a, .int .i64 b] w fun e w' => e = .returned (.int .i64 ((a + b) % 31)) ∧ w = w' := by
  rw [Fp.ok_iff] at ha hb
  obtain ⟨ha0, ha1⟩ := ha
  obtain ⟨hb0, hb1⟩ := hb
  go_enter Tryd.func50, Tryd.ntmps50
  go_wp2_with (go_at_call 76; refine (impl_reduce _ _ (by omega) (by omega)).mono ?_; rintro e w' ⟨rfl, rfl⟩)
  go_ret
  exact ⟨rfl, rfl⟩
theorem impl_minus (a b : Int) (w : World) (ha : Fp.ok a = true) (hb : Fp.ok b = true) :
    Calls Tryd.prog 82 #[.int .i64 a, .int .i64 b] w fun e w' => e = .returned (.int .i64 ((a - b) % 31)) ∧ w = w' := by
  rw [Fp.ok_iff] at ha hb
  obtain ⟨ha0, ha1⟩ := ha
  obtain ⟨hb0, hb1⟩ := hb
  go_enter Tryd.func82, Tryd.ntmps82
  go_wp2_with (go_at_call 76; refine (impl_reduce _ _ (by omega) (by omega)).mono ?_; rintro e w' ⟨rfl, rfl⟩)
  go_ret
  exact ⟨rfl, rfl⟩
theorem impl_times (a b : Int) (w : World) (ha : Fp.ok a = true) (hb : Fp.ok b = true) :
    Calls Tryd.prog 84 #[.int .i64 a, .int .i64 b] w fun e w' => e = .returned (.int .i64 ((a * b) % 31)) ∧ w = w' := by
  have hp := Fp.mul_bd ha hb
  obtain ⟨hp0, hp1⟩ := hp
  rw [Fp.ok_iff] at ha hb
  obtain ⟨ha0, ha1⟩ := ha
  obtain ⟨hb0, hb1⟩ := hb
  go_enter Tryd.func84, Tryd.ntmps84
  go_wp2_with (go_at_call 76; refine (impl_reduce _ _ (by omega) (by omega)).mono ?_; rintro e w' ⟨rfl, rfl⟩)
  go_ret
  exact ⟨rfl, rfl⟩
theorem impl_FieldSum (a b : Int) (w : World) :
    Calls Tryd.prog 25 #[.int .i64 a, .int .i64 b] w fun e w' => e = .returned (.int .i64 (Fp.sum a b)) ∧ w = w' := by
  cases ha : Fp.ok a
  · have E := Fp.sum_na (b := b) ha
    rw [E]; clear E
    go_enter Tryd.func25, Tryd.ntmps25
    go_wp2_with (go_at_call 48; refine (impl_FieldOk _ _).mono ?_; rintro e w' ⟨rfl, rfl⟩)
    go_ret
    exact ⟨rfl, rfl⟩
  · cases hb : Fp.ok b
    · have E := Fp.sum_nb (a := a) hb
      rw [E]; clear E
      go_enter Tryd.func25, Tryd.ntmps25
      go_wp2_with (go_at_call 48; refine (impl_FieldOk _ _).mono ?_; rintro e w' ⟨rfl, rfl⟩)
      go_ret
      exact ⟨rfl, rfl⟩
    · have E := Fp.sum_eq ha hb
      rw [E]; clear E
      go_enter Tryd.func25, Tryd.ntmps25
      go_wp2_with (first | (go_at_call 48; refine (impl_FieldOk _ _).mono ?_; rintro e w' ⟨rfl, rfl⟩) | (go_at_call 50; refine (impl_plus _ _ _ ha hb).mono ?_; rintro e w' ⟨rfl, rfl⟩))
      go_ret
      exact ⟨rfl, rfl⟩
theorem spec_FieldDif (a b : Int) (w : World) :
    Calls Tryd.prog 80 #[.int .i64 a, .int .i64 b] w fun e w' => e = .returned (.int .i64 (Fp.dif a b)) ∧ w = w' := by
  cases ha : Fp.ok a
  · have E := Fp.dif_na (b := b) ha
    rw [E]; clear E
    go_enter Tryd.func80, Tryd.ntmps80
    go_wp2_with (go_at_call 58; refine (spec_FieldOk _ _).mono ?_; rintro e w' ⟨rfl, rfl⟩)
    go_ret
    exact ⟨rfl, rfl⟩
  · cases hb : Fp.ok b
    · have E := Fp.dif_nb (a := a) hb
      rw [E]; clear E
      go_enter Tryd.func80, Tryd.ntmps80
      go_wp2_with (go_at_call 58; refine (spec_FieldOk _ _).mono ?_; rintro e w' ⟨rfl, rfl⟩)
      go_ret
      exact ⟨rfl, rfl⟩
    · have E := Fp.dif_eq' ha hb
      rw [E]; clear E
      have hp := Fp.mul_bd ha hb
      obtain ⟨hp0, hp1⟩ := hp
      have ia := (Fp.ok_iff a).1 ha
      have ib := (Fp.ok_iff b).1 hb
      obtain ⟨ha0, ha1⟩ := ia
      obtain ⟨hb0, hb1⟩ := ib
      go_enter Tryd.func80, Tryd.ntmps80
      go_wp2_with (go_at_call 58; refine (spec_FieldOk _ _).mono ?_; rintro e w' ⟨rfl, rfl⟩)
      go_ret
      exact ⟨rfl, rfl⟩
theorem spec_FieldMul (a b : Int) (w : World) :
    Calls Tryd.prog 81 #[.int .i64 a, .int .i64 b] w fun e w' => e = .returned (.int .i64 (Fp.mul a b)) ∧ w = w' := by
  cases ha : Fp.ok a
  · have E := Fp.mul_na (b := b) ha
    rw [E]; clear E
    go_enter Tryd.func81, Tryd.ntmps81
    go_wp2_with (go_at_call 58; refine (spec_FieldOk _ _).mono ?_; rintro e w' ⟨rfl, rfl⟩)
    go_ret
    exact ⟨rfl, rfl⟩
  · cases hb : Fp.ok b
    · have E := Fp.mul_nb (a := a) hb
      rw [E]; clear E
      go_enter Tryd.func81, Tryd.ntmps81
      go_wp2_with (go_at_call 58; refine (spec_FieldOk _ _).mono ?_; rintro e w' ⟨rfl, rfl⟩)
      go_ret
      exact ⟨rfl, rfl⟩
    · have E := Fp.mul_eq ha hb
      rw [E]; clear E
      have hp := Fp.mul_bd ha hb
      obtain ⟨hp0, hp1⟩ := hp
      have ia := (Fp.ok_iff a).1 ha
      have ib := (Fp.ok_iff b).1 hb
      obtain ⟨ha0, ha1⟩ := ia
      obtain ⟨hb0, hb1⟩ := ib
      go_enter Tryd.func81, Tryd.ntmps81
      go_wp2_with (go_at_call 58; refine (spec_FieldOk _ _).mono ?_; rintro e w' ⟨rfl, rfl⟩)
      go_ret
      exact ⟨rfl, rfl⟩
def EuAt (a : Int) (r n f g : Value) : Prop := ∃ k : Nat, ∃ R N G H : Int, k < 10 ∧ Fp.eu a k = (R, N, G, H) ∧ r = .int .i64 R ∧ n = .int .i64 N ∧ f = .int .i64 G ∧ g = .int .i64 H
theorem impl_inverse (a : Int) (w : World) (ha : Fp.ok a = true) (h0 : a ≠ 0) :
    Calls Tryd.prog 91 #[.int .i64 a] w fun e w' => e = .returned (.int .i64 (Fp.inv a)) ∧ w = w' := by
  have Hx : Hid (Fp.ok a = true ∧ a ≠ 0) := ⟨ha, h0⟩
  clear ha h0
  go_enter Tryd.func91, Tryd.ntmps91
  go_wp2
  go_loop [3, 4, 5, 6] (fun r n f g => EuAt a r n f g) (fun _ n _ _ => (intOf n).toNat)
  case atStart => exact ⟨0, 31, a, 0, 1, by omega, rfl, rfl, rfl, rfl, rfl⟩
  case round =>
    obtain ⟨k, R, N, G, H, hk, he, rfl, rfl, rfl, rfl⟩ := hrel
    have hb := Fp.eu_bd Hx.out.1 hk
    rw [he] at hb
    simp only [Fp.euOk, Bool.and_eq_true, decide_eq_true_eq] at hb
    obtain ⟨⟨⟨⟨⟨⟨⟨⟨⟨⟨⟨⟨⟨b1, b2⟩, b3⟩, b4⟩, b5⟩, b6⟩, b7⟩, b8⟩, b9⟩, b10⟩, b11⟩, b12⟩, b13⟩, b14⟩ := hb
    have He := Lib.hid he
    clear he
    by_cases hn : 0 < N
    · have hk9 : k + 1 < 10 := by
        rcases Nat.lt_or_ge (k + 1) 10 with h | h
        · exact h
        · have e9 : k = 9 := by omega
          subst e9
          have := Fp.eu_end Hx.out.1
          rw [He.out] at this
          simp at this; omega
      have hm : 0 ≤ R - R / N * N ∧ R - R / N * N < N := by
        have e1 := Int.emod_add_mul_ediv R N
        have e2 := Int.emod_nonneg R (show N ≠ 0 by omega)
        have e3 := Int.emod_lt_of_pos R hn
        rw [Int.mul_comm] at e1
        omega
      obtain ⟨m1, m2⟩ := hm
      go_wp2
      go_round
      case rel => exact ⟨k + 1, N, R - R / N * N, H, G - R / N * H, hk9, by simp [Fp.eu, He.out, hn], rfl, rfl, rfl, rfl⟩
      case measure => simp [intOf]; omega
    · have hN : N = 0 := by omega
      have hi := Fp.eu_is Hx.out.1 Hx.out.2 hk (by rw [He.out]; exact hN)
      rw [He.out] at hi
      have Hi := Lib.hid hi
      clear hi hN
      go_wp2_with (go_at_call 76; refine (impl_reduce _ _ (by omega) (by omega)).mono ?_; rintro e w' ⟨rfl, rfl⟩)
      go_ret
      exact ⟨by rw [← Hi.out]; rfl, rfl⟩
theorem spec_l1Inv (a : Int) (w : World) (ha : Fp.ok a = true) :
    Calls Tryd.prog 79 #[.int .i64 a] w fun e w' => e = .returned (.int .i64 (Fp.inv a)) ∧ w = w' := by
  have Hx := Lib.hid ha
  clear ha
  go_enter Tryd.func79, Tryd.ntmps79
  go_wp2
  go_loop [3] (fun n => ∃ k : Nat, 1 ≤ k ∧ k ≤ 31 ∧ Fp.invFrom a (31 - k) k = Fp.inv a ∧ n = .int .i64 k) (fun n => (31 - intOf n).toNat)
  case atStart => exact ⟨1, by omega, by omega, rfl, rfl⟩
  case round =>
    obtain ⟨k, hk1, hk2, hi, rfl⟩ := hrel
    have Hi := Lib.hid hi
    clear hi
    by_cases hn : k < 31
    · have hb : Fp.ok (k : Int) = true := (Fp.ok_iff _).2 ⟨by omega, by omega⟩
      obtain ⟨p0, p1⟩ := Fp.mul_bd Hx.out hb
      by_cases hc : a * (k : Int) % 31 = 1
      · have hcb : (a * (k : Int) % 31 == 1) = true := beq_iff_eq.2 hc
        have Hr := Lib.hid (Fp.inv_step_yes a k hn Hi.out hc)
        clear hc
        go_wp2
        go_ret
        exact ⟨by rw [Hr.out]; rfl, rfl⟩
      · have hcb : (a * (k : Int) % 31 == 1) = false := beq_eq_false_iff_ne.2 hc
        have Hr := Lib.hid (Fp.inv_step_no a k hn Hi.out hc)
        clear hc
        go_wp2
        go_round
        case rel => exact ⟨k + 1, by omega, by omega, Hr.out, by go_num⟩
        case measure => simp [intOf]; omega
    · have e31 : k = 31 := by omega
      subst e31
      have Hr := Lib.hid (Fp.inv_end a Hi.out)
      go_wp2
      go_ret
      exact ⟨by rw [Hr.out]; rfl, rfl⟩
end Go.Proofs.YtmfmhhopnmglcaaDoor
