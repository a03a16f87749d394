/-
  The program's TypeMake answers as the model's for every two arguments, and its answer owns its memory: the law FnExactTypeMake returns true.
  Conditions: none but the statement's own. Proved: Rows.FnExactTypeMakeSaid.
-/
import Derived.Test.YtlpfogkfjjbklaaRows
import Derived.WalkKit
import Derived.ProofKit
import Derived.OpenShut
import Derived.ShutString
import Derived.Below
import Derived.Carry
import Derived.Test.YtlpfogkfjjbklaaFp
import Derived.Test.YtlpfogkfjjbklaaBase
import Derived.Test.YtlpfogkfjjbklaaField
import Derived.Test.YtlpfogkfjjbklaaSl
import Derived.Test.YtlpfogkfjjbklaaLw
import Derived.Test.YtlpfogkfjjbklaaPm
import Derived.Test.YtlpfogkfjjbklaaShok
import Derived.Test.YtlpfogkfjjbklaaTy
import Derived.Test.YtlpfogkfjjbklaaTym
import Derived.Test.YtlpfogkfjjbklaaTyn
import Derived.Test.YtlpfogkfjjbklaaTys
namespace Go.Proofs.Ytlpfogkfjjbklaa.fnExactTypeMake
open Go.ChangeShapes Go.WideShapes Go.ChangeAt Go.RowKit
open Go.ChangeMaps (open_string shut_string)
set_option linter.unusedVariables false
set_option linter.unusedSimpArgs false

theorem own : ownKnob Try.prog.godebug = none := by kernel_rfl

set_option maxHeartbeats 1000000 in
set_option maxRecDepth 100000 in
theorem walk (a0 : Int) (a1 : Int) (w0 : (Lit.int .i64 a0).wf = true) (w1 : (Lit.int .i64 a1).wf = true) (w : World) :
    Calls Try.prog 4 #[.int .i64 a0, .int .i64 a1] w fun e w' => e = .returned (.bool true) ∧ Below w.heap.size w w' := by
  have e1 := eqB_self (Fp.tmk a0 a1)
  have pl := Lib.hid (Fp.tmk_len a0 a1)
  clear w0 w1
  have B := Lib.hid (Below.refl w.heap.size w)
  go_enter Try.func4, Try.ntmps4
  go_wp2_with fail
  refine (spec_TypeMake _ _ _).mono ?_
  rintro e W1 ⟨a_w, n_w, c_w, rfl, o_w, b_w⟩
  have O_w := Lib.hid o_w
  have L_w := Lib.hid o_w.len
  have Z_W1 : w.heap.size ≤ W1.heap.size := b_w.size
  replace B := Lib.hid (B.out.trans (b_w.mono B.out.size))
  clear o_w b_w
  have h_w : n_w ≤ 9 := by rw [← L_w.out]; have := pl.out; omega
  go_wp2_with fail
  refine (impl_TypeMake _ _ _).mono ?_
  rintro e W2 ⟨a_g, n_g, c_g, rfl, o_g, b_g⟩
  have O_g := Lib.hid o_g
  have L_g := Lib.hid o_g.len
  have Z_W2 : W1.heap.size ≤ W2.heap.size := b_g.size
  replace O_w := Lib.hid (O_w.out.below b_g)
  replace B := Lib.hid (B.out.trans (b_g.mono B.out.size))
  clear o_g b_g
  have h_g : n_g ≤ 9 := by rw [← L_g.out]; have := pl.out; omega
  go_wp2_with fail
  refine (laws_eqIntS _ _ _ _ _ _ _ _ _ O_g.out.sl O_w.out.sl (by omega) (by omega)).mono ?_
  rintro e W3 hd
  obtain ⟨rfl, b_d⟩ := hd.below
  have Z_W3 : W2.heap.size ≤ W3.heap.size := b_d.size
  clear hd
  replace O_w := Lib.hid (O_w.out.below b_d)
  replace O_g := Lib.hid (O_g.out.below b_d)
  replace B := Lib.hid (B.out.trans (b_d.mono B.out.size))
  clear b_d
  go_wp2_with fail
  refine (laws_markIntS _ _ _ _ _ _ _ _ O_g.out (by omega) (by omega) (by omega)).mono ?_
  rintro e W4 ⟨rfl, o_m, ch, sz⟩
  replace O_w := Lib.hid (O_w.out.keep ch (fun b h1 h2 h3 hp => by have := hp.1; have := hp.2; omega))
  replace O_g := Lib.hid o_m
  have Z_W4 : W3.heap.size ≤ W4.heap.size := by omega
  replace B := Lib.hid (B.out.trans (ch.below B.out.size (fun k hp => by have := hp.1; omega)))
  clear o_m ch sz
  go_wp2_with fail
  refine (laws_heldIntS _ _ _ _ _ O_g.out.sl (by omega) (by omega) (by omega)).mono ?_
  rintro e w' ⟨rfl, rfl⟩
  go_wp2_with fail
  refine (impl_TypeMake _ _ _).mono ?_
  rintro e W5 ⟨a_h, n_h, c_h, rfl, o_h, b_h⟩
  have O_h := Lib.hid o_h
  have L_h := Lib.hid o_h.len
  have Z_W5 : W4.heap.size ≤ W5.heap.size := b_h.size
  replace O_w := Lib.hid (O_w.out.below b_h)
  replace O_g := Lib.hid (O_g.out.below b_h)
  replace B := Lib.hid (B.out.trans (b_h.mono B.out.size))
  clear o_h b_h
  have h_h : n_h ≤ 9 := by rw [← L_h.out]; have := pl.out; omega
  go_wp2_with fail
  refine (laws_eqIntS _ _ _ _ _ _ _ _ _ O_h.out.sl O_w.out.sl (by omega) (by omega)).mono ?_
  rintro e W6 hd
  obtain ⟨rfl, b_d⟩ := hd.below
  have Z_W6 : W5.heap.size ≤ W6.heap.size := b_d.size
  clear hd
  replace O_w := Lib.hid (O_w.out.below b_d)
  replace O_g := Lib.hid (O_g.out.below b_d)
  replace O_h := Lib.hid (O_h.out.below b_d)
  replace B := Lib.hid (B.out.trans (b_d.mono B.out.size))
  clear b_d
  go_wp2_with fail
  refine (laws_heldIntS _ _ _ _ _ O_g.out.sl (by omega) (by omega) (by omega)).mono ?_
  rintro e w' ⟨rfl, rfl⟩
  go_wp2
  go_ret
  exact ⟨rfl, B.out⟩

/-! ### THE ROW's STEP: WRITTEN OUT: LEAVE IT -/
set_option maxRecDepth 100000 in
theorem lifted (os : Os) (started : os.Started) (H : Type) (enc : TypeId × Value → H) :
    ReturnsInHanded {} Try.checked os 4 .any (Rows.fnExactTypeMakeSpec.pre6 enc Try.prog Try.f4 Rows.fnExactTypeMakeRow.domain false) (Rows.fnExactTypeMakeSpec.post enc Try.prog Try.f4 false true false false) := by
  refine returnsInHanded_of_change (C := Try.checked) own started (by kernel_rfl) Try.func4
    (ChangeSpec.witness6 (enc := enc) (C := Try.checked) false ⟨#[], #[.int .i64 0, .int .i64 0], []⟩ 8 (by kernel_rfl) (by kernel_rfl) (by kernel_rfl) (by kernel_rfl)) ?_
  intro W base args ds gs before hval0 hW hcnd _
  have hval : ∀ (j : Nat) t v, Try.f4.params[j]? = some t → args[j]? = some v → Value.okWide Try.prog W .any base t v := hval0
  have hW' := hW
  obtain ⟨p, q, hA0, hV, rfl, hfz, hnd⟩ := hW
  have hA : DataW.TrodAll enc Try.prog W 0 (fun _ => true) true Try.f4.params.toList args.toList ds p := hA0
  rw [Try.params4] at hA hval
  obtain ⟨v0, vs0, d0, ds0, p0, q0, hargs, rfl, rfl, h0, r0⟩ := trodAll_cons hA
  obtain ⟨v1, vs1, d1, ds1, p1, q1, rfl, rfl, rfl, h1, r1⟩ := trodAll_cons r0
  obtain ⟨rfl, rfl, rfl⟩ := trodAll_nil r1
  obtain rfl : args = #[v0, v1] := by cases args; simp_all
  obtain ⟨rfl, rfl⟩ := trodVars_none hV
  obtain ⟨a0, rfl, rfl, rfl, w0⟩ := open_int Try.underlying3 (hval 0 3 v0 rfl rfl) h0
  obtain ⟨a1, rfl, rfl, rfl, w1⟩ := open_int Try.underlying3 (hval 1 3 v1 rfl rfl) h1
  clear hA0 hval0
  refine (walk a0 a1 w0 w1 W).mono fun e W' ⟨he, hg⟩ => ?_
  subst he
  exact ⟨_, rfl, _, _, _, [], _, [], hW', (trodAll_cons_mk (shut_bool Try.underlying4 _) trodAll_mk0), (trodAll_cons_mk (shut_int Try.underlying3 w0) (trodAll_cons_mk (shut_int Try.underlying3 w1) trodAll_mk0)), rfl, hg.frame _, fun h => by cases h⟩

theorem over : Rows.fnExactTypeMakeRow.holds Try.pinned (OpenSpec.ofChange Rows.fnExactTypeMakeSpec) :=
  OpenClaim.holds_of_wide 4 Try.f4 rfl rfl rfl rfl rfl rfl rfl ⟨rfl, rfl, rfl, rfl, rfl⟩ rfl rfl rfl rfl rfl (by kernel_rfl) Try.func4 (by kernel_rfl)
    (of_decide_eq_true (by kernel_rfl)) (by unfold Func.isWrapper; first | (rw [if_pos (by decide +kernel)]; kernel_rfl) | (rw [if_neg (by decide +kernel)]; exact ⟨rfl, rfl⟩))
    (fun os started H enc _ => lifted os started H enc)

/-- ████ THE STATEMENT ████ -/
theorem proved : Rows.FnExactTypeMakeSaid :=
  over
#print axioms proved
end Go.Proofs.Ytlpfogkfjjbklaa.fnExactTypeMake
