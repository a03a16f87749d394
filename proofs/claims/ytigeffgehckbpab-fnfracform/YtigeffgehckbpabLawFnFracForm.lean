/-
  A fraction is within bounds, and in lowest terms: the law FnFracForm returns true for every code.
  Conditions: none but the statement's own. Proved: Rows.FnFracFormSaid.
-/
import Derived.Test.YtigeffgehckbpabRows
import Derived.WalkKit
import Derived.ProofKit
import Derived.OpenShut
import Derived.ShutString
import Derived.ChangeOld
import Derived.Below
import Derived.Test.YtigeffgehckbpabFp
import Derived.Test.YtigeffgehckbpabBase
import Derived.Test.YtigeffgehckbpabField
import Derived.Test.YtigeffgehckbpabSl
import Derived.Test.YtigeffgehckbpabTri
import Derived.Test.YtigeffgehckbpabFr
import Derived.Test.YtigeffgehckbpabFrl
import Derived.Test.YtigeffgehckbpabFrc
import Derived.Test.YtigeffgehckbpabFrd
import Derived.Test.YtigeffgehckbpabFre
import Derived.Test.YtigeffgehckbpabFrf
import Derived.Test.YtigeffgehckbpabDraw
import Derived.Test.YtigeffgehckbpabFrg
import Derived.Test.YtigeffgehckbpabLg
import Derived.Test.YtigeffgehckbpabFs
import Derived.Test.YtigeffgehckbpabCat
import Derived.Test.YtigeffgehckbpabLed
import Derived.Test.YtigeffgehckbpabRev
import Derived.Test.YtigeffgehckbpabLee
import Derived.Test.YtigeffgehckbpabLef
import Derived.Test.YtigeffgehckbpabLeg
import Derived.Test.YtigeffgehckbpabLeh
import Derived.Test.YtigeffgehckbpabLej
import Derived.Test.YtigeffgehckbpabFrh
namespace Go.Proofs.Ytigeffgehckbpab.fnFracForm
open Go.ChangeShapes Go.WideShapes Go.ChangeAt Go.RowKit
open Go.ChangeMaps (open_string shut_string)
set_option linter.unusedVariables false
set_option linter.unusedSimpArgs false

theorem own : ownKnob Try.prog.godebug = none := by kernel_rfl
theorem laidOut : laidOutB Try.prog = true := by kernel_rfl

theorem ok_none (n : Int) : Fr.ok n 0 = false := by
  apply Fr.ok_not_lim
  exact Fr.lim_not (fun h => by omega)
theorem ok_minus (d : Int) : Fr.ok (-1) d = false := by
  apply Fr.ok_not_lim
  exact Fr.lim_not (fun h => by omega)
set_option maxHeartbeats 1000000 in
set_option maxRecDepth 100000 in
theorem walk (a0 : Option Addr) (len0 cap0 : Nat) (z0 : List Int) (w : World) (w0 : IsRow .u8 w a0 len0 cap0 z0) :
    Calls Try.prog 11 #[.slice a0 len0 cap0] w fun e w' => e = .returned (.bool true) ∧ Below w.heap.size w w' := by
  obtain ⟨c1, c2⟩ := w0.sizes
  have Hb := Lib.hid (Bys.of_row w0)
  clear w0
  by_cases hl : 1048576 < len0
  · go_enter Try.func11, Try.ntmps11
    go_wp2
    go_ret
    exact ⟨rfl, Below.refl _ _⟩
  go_enter Try.func11, Try.ntmps11
  go_wp2_with fail
  refine (spec_DrawFracOk a0 len0 cap0 w Hb.out c1 c2).mono ?_
  rintro e w1 ⟨x, y, rfl, b1⟩
  clear c1 c2 Hb
  obtain ⟨w2, hw2, z_, b2, t_⟩ := duo_box w1 x y 24
  have B := Lib.hid (b1.trans (b2.mono b1.size))
  have T := Lib.hid t_
  have m1 : (Fr.ok x y != Fr.ok x y) = false := by simp
  have m2 : (Fr.ok x y == Fr.ok x y) = true := by simp
  clear b1 b2 t_ z_
  obtain ⟨f_0, f_1, -, -⟩ := duo_at T.out
  go_wp2_with fail
  refine (impl_FracOk x y _).mono ?_
  rintro e w3 ⟨rfl, b_⟩
  clear f_0 f_1 hw2
  replace T := Lib.hid (tri_moreB T.out b_)
  replace B := Lib.hid (B.out.trans (b_.mono B.out.size))
  clear b_
  obtain ⟨f_0, f_1, -, -⟩ := duo_at T.out
  go_wp2_with fail
  refine (spec_FracOk x y _).mono ?_
  rintro e w4 ⟨rfl, b_⟩
  clear f_0 f_1
  replace T := Lib.hid (tri_moreB T.out b_)
  replace B := Lib.hid (B.out.trans (b_.mono B.out.size))
  clear b_
  obtain ⟨f_0, f_1, -, -⟩ := duo_at T.out
  cases ho : Fr.ok x y
  · rw [ho] at m1 m2
    go_wp2_with fail
    refine (spec_FracOk x y _).mono ?_
    rintro e w5 ⟨rfl, b_⟩
    rw [ho]
    replace B := Lib.hid (B.out.trans (b_.mono B.out.size))
    clear b_
    go_wp2
    go_ret
    exact ⟨rfl, B.out⟩
  obtain ⟨p, q, rfl, rfl, hp1, hq0, hq1, -⟩ := Fr.ok_nat ho
  have D := Lib.hid (Fr.ok_double ho)
  have e1 : (2 : Int) * (p : Int) = ((2 * p : Nat) : Int) := by push_cast; rfl
  have e2 : (2 : Int) * (q : Int) = ((2 * q : Nat) : Int) := by push_cast; rfl
  have hp0 : (0 : Int) ≤ (p : Int) := by omega
  have hp2 : (p : Int) ≤ 999 := by omega
  have hq2 : (0 : Int) ≤ (q : Int) := by omega
  have hq3 : (q : Int) ≤ 60 := by omega
  have C1 := fun W => impl_FracOk (2 * (p : Int)) (2 * (q : Int)) W
  rw [show Fr.ok (2 * (p : Int)) (2 * (q : Int)) = false by rw [e1, e2]; exact D.out] at C1
  have C2 := fun W => impl_FracOk (p : Int) 0 W
  rw [ok_none] at C2
  have C3 := fun W => impl_FracOk (-1) (q : Int) W
  rw [ok_minus] at C3
  have G1 := Lib.hid C1
  have G2 := Lib.hid C2
  have G3 := Lib.hid C3
  clear e1 e2 C1 C2 C3 m1 m2 ho
  go_wp2_with fail
  refine (G1.out _).mono ?_
  rintro e w5 ⟨rfl, b_⟩
  clear f_0 f_1
  replace T := Lib.hid (tri_moreB T.out b_)
  replace B := Lib.hid (B.out.trans (b_.mono B.out.size))
  clear b_
  obtain ⟨f_0, f_1, -, -⟩ := duo_at T.out
  go_wp2_with fail
  refine (G2.out _).mono ?_
  rintro e w6 ⟨rfl, b_⟩
  clear f_0 f_1
  replace T := Lib.hid (tri_moreB T.out b_)
  replace B := Lib.hid (B.out.trans (b_.mono B.out.size))
  clear b_
  obtain ⟨f_0, f_1, -, -⟩ := duo_at T.out
  go_wp2_with fail
  refine (G3.out _).mono ?_
  rintro e w7 ⟨rfl, b_⟩
  replace B := Lib.hid (B.out.trans (b_.mono B.out.size))
  clear b_
  go_wp2
  go_ret
  exact ⟨rfl, B.out⟩

/-! ### THE ROW's STEP: WRITTEN OUT: LEAVE IT -/
set_option maxRecDepth 100000 in
theorem lifted (os : Os) (started : os.Started) (H : Type) (enc : TypeId × Value → H) :
    ReturnsInHanded {} Try.checked os 11 .any (Rows.fnFracFormSpec.pre6 enc Try.prog Try.f11 Rows.fnFracFormRow.domain false) (Rows.fnFracFormSpec.post enc Try.prog Try.f11 false true false false) := by
  refine returnsInHanded_of_change (C := Try.checked) own started (by kernel_rfl) Try.func11
    (ChangeSpec.witness6 (enc := enc) (C := Try.checked) false ⟨#[], #[.slice none 0 0], []⟩ 8 (by kernel_rfl) (by kernel_rfl) (by kernel_rfl) (by kernel_rfl)) ?_
  intro W base args ds gs before hval0 hW hcnd _
  have hval : ∀ (j : Nat) t v, Try.f11.params[j]? = some t → args[j]? = some v → Value.okWide Try.prog W .any base t v := hval0
  have hW' := hW
  obtain ⟨p, q, hA0, hV, rfl, hfz, hnd⟩ := hW
  have hA : DataW.TrodAll enc Try.prog W 0 (fun _ => true) true Try.f11.params.toList args.toList ds p := hA0
  rw [Try.params11] at hA hval
  obtain ⟨v0, vs0, d0, ds0, p0, q0, hargs, rfl, rfl, h0, r0⟩ := trodAll_cons hA
  obtain ⟨rfl, rfl, rfl⟩ := trodAll_nil r0
  obtain rfl : args = #[v0] := by cases args; simp_all
  obtain ⟨rfl, rfl⟩ := trodVars_none hV
  obtain ⟨a0, len0, cap0, rfl⟩ := okWide_slice Try.underlying22 (hval 0 22 v0 rfl rfl)
  have k0 := h0
  have lt0 : ∀ x ∈ p0, x.block < W.heap.size := by obtain ⟨m, hm⟩ := k0; exact DataW.trod_lt m _ _ _ hm
  obtain ⟨z0, w0⟩ : ∃ zs, IsRow .u8 W a0 len0 cap0 zs := by
    obtain ⟨fuel, hf⟩ := h0
    rcases open_ints Try.underlying22 Try.underlying5 (by kernel_rfl) hf with ⟨hcs, _⟩ | ⟨x, l, c, zs, hcs, _, hl, hm, hz, _, hcell, hwz⟩
    · simp [Value.cells] at hcs
      obtain ⟨rfl, rfl, rfl⟩ := hcs
      exact ⟨[], .inl ⟨rfl, rfl, rfl, rfl⟩⟩
    · simp [Value.cells] at hcs
      obtain ⟨rfl, rfl, rfl⟩ := hcs
      exact ⟨zs, .inr ⟨_, rfl, hl, hm, by simpa using hz, hcell, hwz⟩⟩
  clear hA0 hval0
  refine (walk a0 len0 cap0 z0 W w0).mono fun e W' ⟨he, bel⟩ => ?_
  subst he
  exact ⟨_, rfl, _, _, _, [], _, [], hW', trodAll_mk1 (shut_bool Try.underlying4 _), (trodAll_cons_mk (Below.trod laidOut (by kernel_rfl) (of_decide_eq_true (by kernel_rfl)) k0 bel lt0) trodAll_mk0), rfl, bel.frame _, fun h => by cases h⟩

theorem over : Rows.fnFracFormRow.holds Try.pinned (OpenSpec.ofChange Rows.fnFracFormSpec) :=
  OpenClaim.holds_of_wide 11 Try.f11 rfl rfl rfl rfl rfl rfl rfl ⟨rfl, rfl, rfl, rfl, rfl⟩ rfl rfl rfl rfl rfl (by kernel_rfl) Try.func11 (by kernel_rfl)
    (of_decide_eq_true (by kernel_rfl)) (by unfold Func.isWrapper; first | (rw [if_pos (by decide +kernel)]; kernel_rfl) | (rw [if_neg (by decide +kernel)]; exact ⟨rfl, rfl⟩))
    (fun os started H enc _ => lifted os started H enc)

/-- ████ THE STATEMENT ████ -/
theorem proved : Rows.FnFracFormSaid := over
#print axioms proved
end Go.Proofs.Ytigeffgehckbpab.fnFracForm
