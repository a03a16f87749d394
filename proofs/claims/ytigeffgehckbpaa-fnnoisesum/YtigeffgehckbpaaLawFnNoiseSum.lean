/-
  Noise of all elements together is none: the law FnNoiseSum returns true for every code.
  Conditions: none but the statement's own. Proved: Rows.FnNoiseSumSaid.
-/
import Derived.Test.YtigeffgehckbpaaRows
import Derived.WalkKit
import Derived.ProofKit
import Derived.OpenShut
import Derived.ShutString
import Derived.ChangeOld
import Derived.Below
import Derived.Test.YtigeffgehckbpaaFp
import Derived.Test.YtigeffgehckbpaaRa
import Derived.Test.YtigeffgehckbpaaBase
import Derived.Test.YtigeffgehckbpaaField
import Derived.Test.YtigeffgehckbpaaDraw
import Derived.Test.YtigeffgehckbpaaSl
import Derived.Test.YtigeffgehckbpaaLw
import Derived.Test.YtigeffgehckbpaaRand
import Derived.Test.YtigeffgehckbpaaNoz
import Derived.Test.YtigeffgehckbpaaNoi
import Derived.Test.YtigeffgehckbpaaDlist
import Derived.Test.YtigeffgehckbpaaCat
import Derived.Test.YtigeffgehckbpaaNos
namespace Go.Proofs.Ytigeffgehckbpaa.fnNoiseSum
open Go.ChangeShapes Go.WideShapes Go.ChangeAt Go.RowKit
open Go.ChangeMaps (open_string shut_string)
set_option linter.unusedVariables false
set_option linter.unusedSimpArgs false

theorem own : ownKnob Try.prog.godebug = none := by kernel_rfl
theorem laidOut : laidOutB Try.prog = true := by kernel_rfl

def accS : Nat → Int
  | 0 => 0
  | k + 1 => accS k + Fp.nz (k : Int)
theorem accS_succ (k : Nat) : accS (k + 1) = accS k + Fp.nz (k : Int) := rfl
theorem accS_bd (k : Nat) : -(2 * (k : Int)) ≤ accS k ∧ accS k ≤ 2 * (k : Int) := by
  induction k with
  | zero => simp [accS]
  | succ k ih =>
    have h := Fp.nz_bd (k : Int)
    rw [accS_succ]
    omega
theorem accS_31 : accS 31 = 0 := by decide
set_option maxHeartbeats 1000000 in
set_option maxRecDepth 100000 in
theorem walk (a0 : Option Addr) (len0 cap0 : Nat) (z0 : List Int) (w : World) (w0 : IsRow .u8 w a0 len0 cap0 z0) :
    Calls Try.prog 11 #[.slice a0 len0 cap0] w fun e w' => e = .returned (.bool true) ∧ Below w.heap.size w w' := by
  obtain ⟨c1, c2⟩ := w0.sizes
  have Hb := Lib.hid (Bys.of_row w0)
  clear w0
  by_cases hl : 1048576 < len0
  · go_enter Try.func11, Try.ntmps11
    go_wp2
    go_ret
    exact ⟨rfl, Below.refl _ _⟩
  have B := Lib.hid (Below.refl w.heap.size w)
  go_enter Try.func11, Try.ntmps11
  go_wp2_with fail
  refine (spec_DrawNoiseOf a0 len0 cap0 w Hb.out c1 c2).mono ?_
  rintro e W1 ⟨n, n1, n2, rfl, b_d⟩
  have Z_W1 : w.heap.size ≤ W1.heap.size := b_d.size
  replace B := Lib.hid (B.out.trans (b_d.mono B.out.size))
  clear b_d
  clear c1 c2 Hb
  have C0 : Hid (∀ W, Calls Try.prog 14 #[.int .i64 (-1)] W (Bel (.int .i64 0) W)) := fun W => by have := impl_NoiseOf (-1) W; rwa [show Fp.nz (-1) = 0 from rfl] at this
  have C1 : Hid (∀ W, Calls Try.prog 14 #[.int .i64 31] W (Bel (.int .i64 0) W)) := fun W => by have := impl_NoiseOf 31 W; rwa [show Fp.nz 31 = 0 from rfl] at this
  go_wp2_with fail
  refine (impl_NoiseOf _ _).mono ?_
  rintro e W2 ⟨rfl, b_d⟩
  have Z_W2 : W1.heap.size ≤ W2.heap.size := b_d.size
  replace B := Lib.hid (B.out.trans (b_d.mono B.out.size))
  clear b_d
  go_wp2_with fail
  refine (spec_NoiseOf _ _).mono ?_
  rintro e w' ⟨rfl, rfl⟩
  go_wp2
  go_loopw [5, 6] (fun s i wr => ∃ k : Nat, k ≤ 31 ∧ s = .int .i64 (accS k) ∧ i = .int .i64 (k : Int) ∧ Hid (Below w.heap.size w wr)) (fun _ i _ => 31 - (intOf i).toNat)
  case atStart => exact ⟨0, by omega, rfl, rfl, B.out⟩
  case round =>
    clear B
    obtain ⟨k, hk, rfl, rfl, B⟩ := hrel
    obtain ⟨q0, q1⟩ := accS_bd k
    by_cases hlt : k < 31
    · obtain ⟨z0, z1⟩ := Fp.nz_bd (k : Int)
      have E := Lib.hid (accS_succ k)
      go_wp2_with fail
      refine (impl_NoiseOf _ _).mono ?_
      rintro e w5 ⟨rfl, b5⟩
      replace B := Lib.hid (B.out.trans (b5.mono B.out.size))
      clear b5
      go_wp2
      go_roundw
      case rel => exact ⟨k + 1, by omega, by rw [E.out], by go_num, B.out⟩
      case measure => simp [intOf]; omega
    · have e : k = 31 := by omega
      subst e
      clear q0 q1
      rw [accS_31]
      go_wp2_with fail
      refine (C0.out _).mono ?_
      rintro e w5 ⟨rfl, b5⟩
      replace B := Lib.hid (B.out.trans (b5.mono B.out.size))
      clear b5
      go_wp2_with fail
      refine (C1.out _).mono ?_
      rintro e w6 ⟨rfl, b5⟩
      replace B := Lib.hid (B.out.trans (b5.mono B.out.size))
      clear b5
      go_wp2
      go_ret
      exact ⟨rfl, B.out⟩

/-! ### THE ROW's STEP: WRITTEN OUT: LEAVE IT -/
set_option maxRecDepth 100000 in
theorem lifted (os : Os) (started : os.Started) (H : Type) (enc : TypeId × Value → H) :
    ReturnsInHanded {} Try.checked os 11 .any (Rows.fnNoiseSumSpec.pre6 enc Try.prog Try.f11 Rows.fnNoiseSumRow.domain false) (Rows.fnNoiseSumSpec.post enc Try.prog Try.f11 false true false false) := by
  refine returnsInHanded_of_change (C := Try.checked) own started (by kernel_rfl) Try.func11
    (ChangeSpec.witness6 (enc := enc) (C := Try.checked) false ⟨#[], #[.slice none 0 0], []⟩ 8 (by kernel_rfl) (by kernel_rfl) (by kernel_rfl) (by kernel_rfl)) ?_
  intro W base args ds gs before hval0 hW hcnd _
  have hval : ∀ (j : Nat) t v, Try.f11.params[j]? = some t → args[j]? = some v → Value.okWide Try.prog W .any base t v := hval0
  have hW' := hW
  obtain ⟨p, q, hA0, hV, rfl, hfz, hnd⟩ := hW
  have hA : DataW.TrodAll enc Try.prog W 0 (fun _ => true) true Try.f11.params.toList args.toList ds p := hA0
  rw [Try.params11] at hA hval
  obtain ⟨v0, vs0, d0, ds0, p0, q0, hargs, rfl, rfl, h0, r0⟩ := trodAll_cons hA
  obtain ⟨rfl, rfl, rfl⟩ := trodAll_nil r0
  obtain rfl : args = #[v0] := by cases args; simp_all
  obtain ⟨rfl, rfl⟩ := trodVars_none hV
  obtain ⟨a0, len0, cap0, rfl⟩ := okWide_slice Try.underlying33 (hval 0 33 v0 rfl rfl)
  have k0 := h0
  have lt0 : ∀ x ∈ p0, x.block < W.heap.size := by obtain ⟨m, hm⟩ := k0; exact DataW.trod_lt m _ _ _ hm
  obtain ⟨z0, w0⟩ : ∃ zs, IsRow .u8 W a0 len0 cap0 zs := by
    obtain ⟨fuel, hf⟩ := h0
    rcases open_ints Try.underlying33 Try.underlying5 (by kernel_rfl) hf with ⟨hcs, _⟩ | ⟨x, l, c, zs, hcs, _, hl, hm, hz, _, hcell, hwz⟩
    · simp [Value.cells] at hcs
      obtain ⟨rfl, rfl, rfl⟩ := hcs
      exact ⟨[], .inl ⟨rfl, rfl, rfl, rfl⟩⟩
    · simp [Value.cells] at hcs
      obtain ⟨rfl, rfl, rfl⟩ := hcs
      exact ⟨zs, .inr ⟨_, rfl, hl, hm, by simpa using hz, hcell, hwz⟩⟩
  clear hA0 hval0
  refine (walk a0 len0 cap0 z0 W w0).mono fun e W' ⟨he, bel⟩ => ?_
  subst he
  exact ⟨_, rfl, _, _, _, [], _, [], hW', trodAll_mk1 (shut_bool Try.underlying4 _), (trodAll_cons_mk (Below.trod laidOut (by kernel_rfl) (of_decide_eq_true (by kernel_rfl)) k0 bel lt0) trodAll_mk0), rfl, bel.frame _, fun h => by cases h⟩

theorem over : Rows.fnNoiseSumRow.holds Try.pinned (OpenSpec.ofChange Rows.fnNoiseSumSpec) :=
  OpenClaim.holds_of_wide 11 Try.f11 rfl rfl rfl rfl rfl rfl rfl ⟨rfl, rfl, rfl, rfl, rfl⟩ rfl rfl rfl rfl rfl (by kernel_rfl) Try.func11 (by kernel_rfl)
    (of_decide_eq_true (by kernel_rfl)) (by unfold Func.isWrapper; first | (rw [if_pos (by decide +kernel)]; kernel_rfl) | (rw [if_neg (by decide +kernel)]; exact ⟨rfl, rfl⟩))
    (fun os started H enc _ => lifted os started H enc)

/-- ████ THE STATEMENT ████ -/
theorem proved : Rows.FnNoiseSumSaid := over
#print axioms proved
end Go.Proofs.Ytigeffgehckbpaa.fnNoiseSum
