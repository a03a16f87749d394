/-
  The program's FracSum answers as the model's for every argument: the law FnExactFracSum returns true.
  Conditions: none but the statement's own. Proved: Rows.FnExactFracSumSaid.
-/
import Derived.Test.YtkakdibfkdognaaRows
import Derived.WalkKit
import Derived.ProofKit
import Derived.OpenShut
import Derived.ShutString
import Derived.ChangeOld
import Derived.Below
import Derived.Carry
import Derived.Lib.SmallJoins
import Derived.Test.YtkakdibfkdognaaFp
import Derived.Test.YtkakdibfkdognaaBase
import Derived.Test.YtkakdibfkdognaaField
import Derived.Test.YtkakdibfkdognaaSl
import Derived.Test.YtkakdibfkdognaaTri
import Derived.Test.YtkakdibfkdognaaFr
import Derived.Test.YtkakdibfkdognaaFrl
import Derived.Test.YtkakdibfkdognaaFrc
import Derived.Test.YtkakdibfkdognaaFrd
import Derived.Test.YtkakdibfkdognaaFre
import Derived.Test.YtkakdibfkdognaaFrf
import Derived.Test.YtkakdibfkdognaaDraw
import Derived.Test.YtkakdibfkdognaaFrg
namespace Go.Proofs.Ytkakdibfkdognaa.fnExactFracSum
open Go.ChangeShapes Go.WideShapes Go.ChangeAt Go.RowKit
open Go.ChangeMaps (open_string shut_string)
set_option linter.unusedVariables false
set_option linter.unusedSimpArgs false

theorem own : ownKnob Try.prog.godebug = none := by kernel_rfl
theorem laidOut : laidOutB Try.prog = true := by kernel_rfl

set_option maxHeartbeats 1000000 in
set_option maxRecDepth 100000 in
theorem walk (a0_0 : Int) (a0_1 : Int) (a1_0 : Int) (a1_1 : Int) (w : World) (w0_0 : (Lit.int .i64 a0_0).wf = true) (w0_1 : (Lit.int .i64 a0_1).wf = true) (w1_0 : (Lit.int .i64 a1_0).wf = true) (w1_1 : (Lit.int .i64 a1_1).wf = true) :
    Calls Try.prog 12 #[.agg #[.int .i64 a0_0, .int .i64 a0_1], .agg #[.int .i64 a1_0, .int .i64 a1_1]] w fun e w' => e = .returned (.bool true) ∧ Below w.heap.size w w' := by
  have m1 : (Fr.sB a0_0 a0_1 a1_0 a1_1 != Fr.sB a0_0 a0_1 a1_0 a1_1) = false := by simp
  have m2 : (Fr.sN a0_0 a0_1 a1_0 a1_1 == Fr.sN a0_0 a0_1 a1_0 a1_1 && Fr.sD a0_0 a0_1 a1_0 a1_1 == Fr.sD a0_0 a0_1 a1_0 a1_1) = true := by simp
  obtain ⟨v1, v2, hv1, hv2, Z1, Z2, P0⟩ := pair_box w a0_0 a0_1 a1_0 a1_1 37
  obtain ⟨c0, c1, c2, c3⟩ := P0.at
  have S1 := Lib.hid (show Hid (Below v2.heap.size v2 v2.drew) ∧ v2.drew.cell? ⟨w.heap.size, 0, none⟩ = some (.int .i64 a0_0) ∧ v2.drew.cell? ⟨w.heap.size, 1, none⟩ = some (.int .i64 a0_1) ∧ v2.drew.cell? ⟨w.heap.size + 1, 0, none⟩ = some (.int .i64 a1_0) ∧ v2.drew.cell? ⟨w.heap.size + 1, 1, none⟩ = some (.int .i64 a1_1) from ⟨Lib.hid (Below.refl _ _).drew, c0, c1, c2, c3⟩)
  have HB := Lib.hid (show w.heap.size < v2.heap.size ∧ w.heap.size < v2.heap.size ∧ w.heap.size + 1 < v2.heap.size ∧ w.heap.size + 1 < v2.heap.size by omega)
  have P := Lib.hid P0
  clear P0 w0_0 w0_1 w1_0 w1_1
  go_enter Try.func12, Try.ntmps12
  go_wp2_with fail
  clear hv1 hv2 c0 c1 c2 c3
  go_cut [5, 6] (fun p q W => SumAt v2 (Fr.sN a0_0 a0_1 a1_0 a1_1) (Fr.sD a0_0 a0_1 a1_0 a1_1) (Fr.sB a0_0 a0_1 a1_0 a1_1) p q W)
  case first =>
    go_region_held3 (fun w' : World => Hid (Below v2.heap.size v2 w') ∧ w'.cell? ⟨w.heap.size, 0, none⟩ = some (.int .i64 a0_0) ∧ w'.cell? ⟨w.heap.size, 1, none⟩ = some (.int .i64 a0_1) ∧ w'.cell? ⟨w.heap.size + 1, 0, none⟩ = some (.int .i64 a1_0) ∧ w'.cell? ⟨w.heap.size + 1, 1, none⟩ = some (.int .i64 a1_1)) (first | exact S1.out | exact reg4_call (by assumption) b5 | exact reg4_call (by assumption) b6 | exact reg4_call (by assumption) (bel_box _ _) | exact reg4_re HB P7 (by assumption) | exact reg4_set HB (by assumption) (((Below.refl _ _).setCell (by first | omega | (simp; done) | (simp; omega)) _).setCell (by first | omega | (simp; done) | (simp; omega)) _)) (first | (go_at_call 26; refine (laws_toFrac _ _ _).mono ?_; rintro e w5 ⟨rfl, b5⟩; (first | (have D5 := Duo.now b5; try simp only [Z2] at D5) | (have D5 := Duo.nowD b5; try simp only [Z2] at D5) | have D5 := Duo.more (by assumption) b5 | skip); (try (have d0 := D5.c0; have d1 := D5.c1; have d2 := D5.f0; have d3 := D5.f1)); have y5 := (reg4_call (W0 := v2) (by assumption) b5).1.out.size) | (go_at_call 19; refine (spec_FracSum _ _ _ _ _).mono ?_; rintro e w6 ⟨rfl, b6⟩; have P7 := Lib.hid ((reg4_call (W0 := v2) (by assumption) b6).1.out); (first | (have D5 := Duo.now b6; try simp only [Z2] at D5) | (have D5 := Duo.nowD b6; try simp only [Z2] at D5) | have D5 := Duo.more (by assumption) b6 | skip); (try (have d0 := D5.c0; have d1 := D5.c1; have d2 := D5.f0; have d3 := D5.f1)); have y5 := (reg4_call (W0 := v2) (by assumption) b6).1.out.size))
    all_goals
      go_wp2
      go_meet
      first | exact SumAt.new P7.out | exact SumAt.set P7.out D5 (by omega)
  case rest =>
    clear S1
    obtain ⟨g, rfl, rfl, BV, DV, hg⟩ := hcut
    have P1 := Lib.hid (P.out.next BV)
    have D1 := Lib.hid DV
    obtain ⟨c0, c1, c2, c3⟩ := P1.out.at
    have S1 := Lib.hid (show Hid (Below wc.heap.size wc wc.drew) ∧ wc.drew.cell? ⟨w.heap.size, 0, none⟩ = some (.int .i64 a0_0) ∧ wc.drew.cell? ⟨w.heap.size, 1, none⟩ = some (.int .i64 a0_1) ∧ wc.drew.cell? ⟨w.heap.size + 1, 0, none⟩ = some (.int .i64 a1_0) ∧ wc.drew.cell? ⟨w.heap.size + 1, 1, none⟩ = some (.int .i64 a1_1) from ⟨Lib.hid (Below.refl _ _).drew, c0, c1, c2, c3⟩)
    have zc := BV.size
    replace HB := Lib.hid (show w.heap.size < wc.heap.size ∧ w.heap.size < wc.heap.size ∧ w.heap.size + 1 < wc.heap.size ∧ w.heap.size + 1 < wc.heap.size by omega)
    clear BV DV c0 c1 c2 c3
    go_wp2_with fail
    go_cut [7, 8] (fun p q W => SumAt wc (Fr.sN a0_0 a0_1 a1_0 a1_1) (Fr.sD a0_0 a0_1 a1_0 a1_1) (Fr.sB a0_0 a0_1 a1_0 a1_1) p q W)
    case first =>
      go_region_held3 (fun w' : World => Hid (Below wc.heap.size wc w') ∧ w'.cell? ⟨w.heap.size, 0, none⟩ = some (.int .i64 a0_0) ∧ w'.cell? ⟨w.heap.size, 1, none⟩ = some (.int .i64 a0_1) ∧ w'.cell? ⟨w.heap.size + 1, 0, none⟩ = some (.int .i64 a1_0) ∧ w'.cell? ⟨w.heap.size + 1, 1, none⟩ = some (.int .i64 a1_1)) (first | exact S1.out | exact reg4_call (by assumption) b5 | exact reg4_call (by assumption) b6 | exact reg4_call (by assumption) (bel_box _ _) | exact reg4_re HB P7 (by assumption) | exact reg4_set HB (by assumption) (((Below.refl _ _).setCell (by first | omega | (simp; done) | (simp; omega)) _).setCell (by first | omega | (simp; done) | (simp; omega)) _)) (first | (go_at_call 26; refine (laws_toFrac _ _ _).mono ?_; rintro e w5 ⟨rfl, b5⟩; (first | (have D5 := Duo.now b5; try simp only [Z2] at D5) | (have D5 := Duo.nowD b5; try simp only [Z2] at D5) | have D5 := Duo.more (by assumption) b5 | skip); (try (have d0 := D5.c0; have d1 := D5.c1; have d2 := D5.f0; have d3 := D5.f1)); have y5 := (reg4_call (W0 := wc) (by assumption) b5).1.out.size) | (go_at_call 20; refine (impl_FracSum _ _ _ _ _).mono ?_; rintro e w6 ⟨rfl, b6⟩; have P7 := Lib.hid ((reg4_call (W0 := wc) (by assumption) b6).1.out); (first | (have D5 := Duo.now b6; try simp only [Z2] at D5) | (have D5 := Duo.nowD b6; try simp only [Z2] at D5) | have D5 := Duo.more (by assumption) b6 | skip); (try (have d0 := D5.c0; have d1 := D5.c1; have d2 := D5.f0; have d3 := D5.f1)); have y5 := (reg4_call (W0 := wc) (by assumption) b6).1.out.size))
      all_goals
        go_wp2
        go_meet
        first | exact SumAt.new P7.out | exact SumAt.set P7.out D5 (by omega)
    case rest =>
      clear S1
      obtain ⟨g2, rfl, rfl, BV, DV, hg2⟩ := hcut
      obtain ⟨c0, c1, -, -⟩ := D1.out.more BV
      obtain ⟨c2, c3, -, -⟩ := DV
      have P2 := Lib.hid (P1.out.next BV)
      clear BV
      go_wp2_with fail
      refine (laws_eqFrac _ _ _ _ _).mono ?_
      rintro e w9 ⟨rfl, b9⟩
      rw [m2]
      have P9 := Lib.hid (P2.out.next b9)
      clear b9 c0 c1 c2 c3
      go_wp2
      go_ret
      exact ⟨rfl, P9.out.bel⟩

/-! ### THE ROW's STEP: WRITTEN OUT: LEAVE IT -/
set_option maxRecDepth 100000 in
theorem lifted (os : Os) (started : os.Started) (H : Type) (enc : TypeId × Value → H) :
    ReturnsInHanded {} Try.checked os 12 .any (Rows.fnExactFracSumSpec.pre6 enc Try.prog Try.f12 Rows.fnExactFracSumRow.domain false) (Rows.fnExactFracSumSpec.post enc Try.prog Try.f12 false true false false) := by
  refine returnsInHanded_of_change (C := Try.checked) own started (by kernel_rfl) Try.func12
    (ChangeSpec.witness6 (enc := enc) (C := Try.checked) false ⟨#[], #[.agg #[.int .i64 0, .int .i64 0], .agg #[.int .i64 0, .int .i64 0]], []⟩ 8 (by kernel_rfl) (by kernel_rfl) (by kernel_rfl) (by kernel_rfl)) ?_
  intro W base args ds gs before hval0 hW hcnd _
  have hval : ∀ (j : Nat) t v, Try.f12.params[j]? = some t → args[j]? = some v → Value.okWide Try.prog W .any base t v := hval0
  have hW' := hW
  obtain ⟨p, q, hA0, hV, rfl, hfz, hnd⟩ := hW
  have hA : DataW.TrodAll enc Try.prog W 0 (fun _ => true) true Try.f12.params.toList args.toList ds p := hA0
  rw [Try.params12] at hA hval
  obtain ⟨v0, vs0, d0, ds0, p0, q0, hargs, rfl, rfl, h0, r0⟩ := trodAll_cons hA
  obtain ⟨v1, vs1, d1, ds1, p1, q1, rfl, rfl, rfl, h1, r1⟩ := trodAll_cons r0
  obtain ⟨rfl, rfl, rfl⟩ := trodAll_nil r1
  obtain rfl : args = #[v0, v1] := by cases args; simp_all
  obtain ⟨rfl, rfl⟩ := trodVars_none hV
  have k0 := h0
  have lt0 : ∀ x ∈ p0, x.block < W.heap.size := by obtain ⟨m, hm⟩ := k0; exact DataW.trod_lt m _ _ _ hm
  obtain ⟨c0_0, c0_1, y0_0, y0_1, m0, hv0, -, -, g0_0, g0_1⟩ := Go.Joins.open_agg2 Try.underlying37 (by kernel_rfl) (by kernel_rfl) (hval 0 37 v0 rfl rfl) h0
  obtain ⟨a0_0, e0_0, -, w0_0⟩ := DataW.trod_int Try.underlying3 g0_0
  obtain rfl : c0_0 = .int .i64 a0_0 := by simpa using e0_0
  obtain ⟨a0_1, e0_1, -, w0_1⟩ := DataW.trod_int Try.underlying3 g0_1
  obtain rfl : c0_1 = .int .i64 a0_1 := by simpa using e0_1
  subst hv0
  have k1 := h1
  have lt1 : ∀ x ∈ p1, x.block < W.heap.size := by obtain ⟨m, hm⟩ := k1; exact DataW.trod_lt m _ _ _ hm
  obtain ⟨c1_0, c1_1, y1_0, y1_1, m1, hv1, -, -, g1_0, g1_1⟩ := Go.Joins.open_agg2 Try.underlying37 (by kernel_rfl) (by kernel_rfl) (hval 1 37 v1 rfl rfl) h1
  obtain ⟨a1_0, e1_0, -, w1_0⟩ := DataW.trod_int Try.underlying3 g1_0
  obtain rfl : c1_0 = .int .i64 a1_0 := by simpa using e1_0
  obtain ⟨a1_1, e1_1, -, w1_1⟩ := DataW.trod_int Try.underlying3 g1_1
  obtain rfl : c1_1 = .int .i64 a1_1 := by simpa using e1_1
  subst hv1
  clear hA0 hval0
  refine (walk a0_0 a0_1 a1_0 a1_1 W w0_0 w0_1 w1_0 w1_1).mono fun e W' ⟨he, bel⟩ => ?_
  subst he
  exact ⟨_, rfl, _, _, _, [], _, [], hW', trodAll_mk1 (shut_bool Try.underlying4 _), (trodAll_cons_mk (Below.trod laidOut (by kernel_rfl) (of_decide_eq_true (by kernel_rfl)) k0 bel lt0) (trodAll_cons_mk (Below.trod laidOut (by kernel_rfl) (of_decide_eq_true (by kernel_rfl)) k1 bel lt1) trodAll_mk0)), rfl, bel.frame _, fun h => by cases h⟩

theorem over : Rows.fnExactFracSumRow.holds Try.pinned (OpenSpec.ofChange Rows.fnExactFracSumSpec) :=
  OpenClaim.holds_of_wide 12 Try.f12 rfl rfl rfl rfl rfl rfl rfl ⟨rfl, rfl, rfl, rfl, rfl⟩ rfl rfl rfl rfl rfl (by kernel_rfl) Try.func12 (by kernel_rfl)
    (of_decide_eq_true (by kernel_rfl)) (by unfold Func.isWrapper; first | (rw [if_pos (by decide +kernel)]; kernel_rfl) | (rw [if_neg (by decide +kernel)]; exact ⟨rfl, rfl⟩))
    (fun os started H enc _ => lifted os started H enc)

/-- ████ THE STATEMENT ████ -/
theorem proved : Rows.FnExactFracSumSaid := over
#print axioms proved
end Go.Proofs.Ytkakdibfkdognaa.fnExactFracSum
