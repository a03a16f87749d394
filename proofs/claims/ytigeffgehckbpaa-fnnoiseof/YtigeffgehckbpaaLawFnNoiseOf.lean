/-
  The noise is as often one way as the other, and of all elements: the law FnNoiseOf returns true for every code.
  Conditions: none but the statement's own. Proved: Rows.FnNoiseOfSaid.
-/
import Derived.Test.YtigeffgehckbpaaRows
import Derived.WalkKit
import Derived.ProofKit
import Derived.OpenShut
import Derived.ShutString
import Derived.ChangeOld
import Derived.Below
import Derived.Test.YtigeffgehckbpaaFp
import Derived.Test.YtigeffgehckbpaaRa
import Derived.Test.YtigeffgehckbpaaBase
import Derived.Test.YtigeffgehckbpaaField
import Derived.Test.YtigeffgehckbpaaDraw
import Derived.Test.YtigeffgehckbpaaSl
import Derived.Test.YtigeffgehckbpaaLw
import Derived.Test.YtigeffgehckbpaaRand
import Derived.Test.YtigeffgehckbpaaNoz
import Derived.Test.YtigeffgehckbpaaNoi
import Derived.Test.YtigeffgehckbpaaDlist
import Derived.Test.YtigeffgehckbpaaCat
import Derived.Test.YtigeffgehckbpaaNos
namespace Go.Proofs.Ytigeffgehckbpaa.fnNoiseOf
open Go.ChangeShapes Go.WideShapes Go.ChangeAt Go.RowKit
open Go.ChangeMaps (open_string shut_string)
set_option linter.unusedVariables false
set_option linter.unusedSimpArgs false

theorem own : ownKnob Try.prog.godebug = none := by kernel_rfl
theorem laidOut : laidOutB Try.prog = true := by kernel_rfl

def accM : Nat → Int
  | 0 => 0
  | k + 1 => accM k + (Fp.nmany ((k : Int) - 2) : Int)
theorem accM_succ (k : Nat) : accM (k + 1) = accM k + (Fp.nmany ((k : Int) - 2) : Int) := rfl
theorem accM_bd (k : Nat) : 0 ≤ accM k ∧ accM k ≤ 31 * (k : Int) := by
  induction k with
  | zero => simp [accM]
  | succ k ih =>
    have h : Fp.nmany ((k : Int) - 2) ≤ 31 := Fp.nzm_le _ 31
    rw [accM_succ]
    omega
theorem accM_5 : accM 5 = 31 := by decide
set_option maxHeartbeats 1000000 in
set_option maxRecDepth 100000 in
theorem walk (a0 : Option Addr) (len0 cap0 : Nat) (z0 : List Int) (w : World) (w0 : IsRow .u8 w a0 len0 cap0 z0) :
    Calls Try.prog 7 #[.slice a0 len0 cap0] w fun e w' => e = .returned (.bool true) ∧ Below w.heap.size w w' := by
  obtain ⟨c1, c2⟩ := w0.sizes
  have Hb := Lib.hid (Bys.of_row w0)
  clear w0
  by_cases hl : 1048576 < len0
  · go_enter Try.func7, Try.ntmps7
    go_wp2
    go_ret
    exact ⟨rfl, Below.refl _ _⟩
  have B := Lib.hid (Below.refl w.heap.size w)
  go_enter Try.func7, Try.ntmps7
  go_wp2_with fail
  refine (spec_DrawNoiseMany a0 len0 cap0 w Hb.out c1 c2).mono ?_
  rintro e W1 ⟨v, v1, v2, rfl, b_d⟩
  have Z_W1 : w.heap.size ≤ W1.heap.size := b_d.size
  replace B := Lib.hid (B.out.trans (b_d.mono B.out.size))
  clear b_d
  clear c1 c2 Hb
  go_wp2_with fail
  refine (impl_NoiseMany _ _).mono ?_
  rintro e W2 ⟨rfl, b_d⟩
  have Z_W2 : W1.heap.size ≤ W2.heap.size := b_d.size
  replace B := Lib.hid (B.out.trans (b_d.mono B.out.size))
  clear b_d
  go_wp2_with fail
  refine (spec_NoiseMany _ _).mono ?_
  rintro e w' ⟨rfl, rfl⟩
  go_wp2
  go_loopw [5, 7] (fun s i wr => ∃ k : Nat, k ≤ 5 ∧ s = .int .i64 (accM k) ∧ i = .int .i64 ((k : Int) - 2) ∧ Hid (Below w.heap.size w wr)) (fun _ i _ => (3 - intOf i).toNat)
  case atStart => exact ⟨0, by omega, rfl, rfl, B.out⟩
  case round =>
    clear B
    obtain ⟨k, hk, rfl, rfl, B⟩ := hrel
    obtain ⟨q0, q1⟩ := accM_bd k
    by_cases hlt : k < 5
    · have n1 : Fp.nmany ((k : Int) - 2) ≤ 31 := Fp.nzm_le _ 31
      have E := Lib.hid (accM_succ k)
      go_wp2_with fail
      refine (impl_NoiseMany _ _).mono ?_
      rintro e w5 ⟨rfl, b5⟩
      replace B := Lib.hid (B.out.trans (b5.mono B.out.size))
      clear b5
      go_wp2
      go_roundw
      case rel => exact ⟨k + 1, by omega, by rw [E.out], by go_num, B.out⟩
      case measure => first | (simp [intOf]; done) | (simp [intOf]; omega)
    · have e : k = 5 := by omega
      subst e
      clear q0 q1
      rw [accM_5, show ((5 : Nat) : Int) - 2 = 3 from rfl]
      go_wp2
      go_loopw [6, 8] (fun m i wr => ∃ k : Nat, k ≤ 31 ∧ m = .int .i64 (Fp.nzm v k : Int) ∧ i = .int .i64 (k : Int) ∧ Hid (Below w.heap.size w wr)) (fun _ i _ => 31 - (intOf i).toNat)
      case atStart => exact ⟨0, by omega, rfl, rfl, B.out⟩
      case round =>
        clear B hlt hk
        obtain ⟨k, hk, rfl, rfl, B⟩ := hrel
        have ml := Fp.nzm_le v k
        by_cases hlt : k < 31
        · go_wp2_with fail
          refine (impl_NoiseOf _ _).mono ?_
          rintro e w5 ⟨rfl, b5⟩
          replace B := Lib.hid (B.out.trans (b5.mono B.out.size))
          clear b5
          by_cases hz : Fp.nz (k : Int) = v
          · have hb : (Fp.nz (k : Int) == v) = true := beqT hz
            have E := Lib.hid (Fp.nzm_yes hz)
            clear hz
            go_wp2
            go_roundw
            case rel => exact ⟨k + 1, by omega, by rw [E.out]; go_num, by go_num, B.out⟩
            case measure => simp [intOf]; omega
          · have hb : (Fp.nz (k : Int) == v) = false := beqF hz
            have E := Lib.hid (Fp.nzm_no hz)
            clear hz
            go_wp2
            go_roundw
            case rel => exact ⟨k + 1, by omega, by rw [E.out], by go_num, B.out⟩
            case measure => simp [intOf]; omega
        · have e : k = 31 := by omega
          subst e
          have NN := Lib.hid (Fp.nmany_neg v1 v2)
          have NZ := Lib.hid (Fp.nmany_none v1 v2)
          have NE : Fp.nzm v 31 = Fp.nmany v := rfl
          rw [NE]
          clear ml NE
          have hv : v = -3 ∨ v = -2 ∨ v = -1 ∨ v = 0 ∨ v = 1 ∨ v = 2 ∨ v = 3 := by omega
          clear v1 v2
          rcases hv with rfl | rfl | rfl | rfl | rfl | rfl | rfl
          all_goals
            have NN2 := NN.out
            (try simp only [Int.neg_neg, Int.neg_zero] at NN2)
            have NZ2 := NZ.out
            go_wp2_with fail
            refine (impl_NoiseMany _ _).mono ?_
            rintro e w5 ⟨rfl, b5⟩
            replace B := Lib.hid (B.out.trans (b5.mono B.out.size))
            clear b5
            go_wp2
            go_ret
            exact ⟨by first | rfl | simp [Fp.nmany_0, Fp.nmany_1, Fp.nmany_m1, Fp.nmany_2, Fp.nmany_m2, Fp.nmany_3], B.out⟩

/-! ### THE ROW's STEP: WRITTEN OUT: LEAVE IT -/
set_option maxRecDepth 100000 in
theorem lifted (os : Os) (started : os.Started) (H : Type) (enc : TypeId × Value → H) :
    ReturnsInHanded {} Try.checked os 7 .any (Rows.fnNoiseOfSpec.pre6 enc Try.prog Try.f7 Rows.fnNoiseOfRow.domain false) (Rows.fnNoiseOfSpec.post enc Try.prog Try.f7 false true false false) := by
  refine returnsInHanded_of_change (C := Try.checked) own started (by kernel_rfl) Try.func7
    (ChangeSpec.witness6 (enc := enc) (C := Try.checked) false ⟨#[], #[.slice none 0 0], []⟩ 8 (by kernel_rfl) (by kernel_rfl) (by kernel_rfl) (by kernel_rfl)) ?_
  intro W base args ds gs before hval0 hW hcnd _
  have hval : ∀ (j : Nat) t v, Try.f7.params[j]? = some t → args[j]? = some v → Value.okWide Try.prog W .any base t v := hval0
  have hW' := hW
  obtain ⟨p, q, hA0, hV, rfl, hfz, hnd⟩ := hW
  have hA : DataW.TrodAll enc Try.prog W 0 (fun _ => true) true Try.f7.params.toList args.toList ds p := hA0
  rw [Try.params7] at hA hval
  obtain ⟨v0, vs0, d0, ds0, p0, q0, hargs, rfl, rfl, h0, r0⟩ := trodAll_cons hA
  obtain ⟨rfl, rfl, rfl⟩ := trodAll_nil r0
  obtain rfl : args = #[v0] := by cases args; simp_all
  obtain ⟨rfl, rfl⟩ := trodVars_none hV
  obtain ⟨a0, len0, cap0, rfl⟩ := okWide_slice Try.underlying33 (hval 0 33 v0 rfl rfl)
  have k0 := h0
  have lt0 : ∀ x ∈ p0, x.block < W.heap.size := by obtain ⟨m, hm⟩ := k0; exact DataW.trod_lt m _ _ _ hm
  obtain ⟨z0, w0⟩ : ∃ zs, IsRow .u8 W a0 len0 cap0 zs := by
    obtain ⟨fuel, hf⟩ := h0
    rcases open_ints Try.underlying33 Try.underlying5 (by kernel_rfl) hf with ⟨hcs, _⟩ | ⟨x, l, c, zs, hcs, _, hl, hm, hz, _, hcell, hwz⟩
    · simp [Value.cells] at hcs
      obtain ⟨rfl, rfl, rfl⟩ := hcs
      exact ⟨[], .inl ⟨rfl, rfl, rfl, rfl⟩⟩
    · simp [Value.cells] at hcs
      obtain ⟨rfl, rfl, rfl⟩ := hcs
      exact ⟨zs, .inr ⟨_, rfl, hl, hm, by simpa using hz, hcell, hwz⟩⟩
  clear hA0 hval0
  refine (walk a0 len0 cap0 z0 W w0).mono fun e W' ⟨he, bel⟩ => ?_
  subst he
  exact ⟨_, rfl, _, _, _, [], _, [], hW', trodAll_mk1 (shut_bool Try.underlying4 _), (trodAll_cons_mk (Below.trod laidOut (by kernel_rfl) (of_decide_eq_true (by kernel_rfl)) k0 bel lt0) trodAll_mk0), rfl, bel.frame _, fun h => by cases h⟩

theorem over : Rows.fnNoiseOfRow.holds Try.pinned (OpenSpec.ofChange Rows.fnNoiseOfSpec) :=
  OpenClaim.holds_of_wide 7 Try.f7 rfl rfl rfl rfl rfl rfl rfl ⟨rfl, rfl, rfl, rfl, rfl⟩ rfl rfl rfl rfl rfl (by kernel_rfl) Try.func7 (by kernel_rfl)
    (of_decide_eq_true (by kernel_rfl)) (by unfold Func.isWrapper; first | (rw [if_pos (by decide +kernel)]; kernel_rfl) | (rw [if_neg (by decide +kernel)]; exact ⟨rfl, rfl⟩))
    (fun os started H enc _ => lifted os started H enc)

/-- ████ THE STATEMENT ████ -/
theorem proved : Rows.FnNoiseOfSaid := over
#print axioms proved
end Go.Proofs.Ytigeffgehckbpaa.fnNoiseOf
