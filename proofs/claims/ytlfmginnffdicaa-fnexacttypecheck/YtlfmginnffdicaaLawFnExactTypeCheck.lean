/-
  The program's TypeCheck answers as the model's for every argument, and writes into none: the law FnExactTypeCheck returns true.
  Conditions: none but the statement's own. Proved: Rows.FnExactTypeCheckSaid.
-/
import Derived.Test.YtlfmginnffdicaaRows
import Derived.WalkKit
import Derived.ProofKit
import Derived.OpenShut
import Derived.ShutString
import Derived.ChangeOld
import Derived.Below
import Derived.Test.YtlfmginnffdicaaFp
import Derived.Test.YtlfmginnffdicaaBase
import Derived.Test.YtlfmginnffdicaaField
import Derived.Test.YtlfmginnffdicaaSl
import Derived.Test.YtlfmginnffdicaaLw
import Derived.Test.YtlfmginnffdicaaPm
import Derived.Test.YtlfmginnffdicaaShok
import Derived.Test.YtlfmginnffdicaaTy
import Derived.Test.YtlfmginnffdicaaTym
import Derived.Test.YtlfmginnffdicaaTyn
import Derived.Test.YtlfmginnffdicaaTyc
import Derived.Test.YtlfmginnffdicaaTys
namespace Go.Proofs.Ytlfmginnffdicaa.fnExactTypeCheck
open Go.ChangeShapes Go.WideShapes Go.ChangeAt Go.RowKit
open Go.ChangeMaps (open_string shut_string)
set_option linter.unusedVariables false
set_option linter.unusedSimpArgs false

theorem own : ownKnob Try.prog.godebug = none := by kernel_rfl
theorem laidOut : laidOutB Try.prog = true := by kernel_rfl

set_option maxHeartbeats 1000000 in
set_option maxRecDepth 100000 in
theorem walk (a0 : Int) (a1 : Option Addr) (len1 cap1 : Nat) (z1 : List Int) (a2 : Int) (w : World) (w0 : (Lit.int .i64 a0).wf = true) (w1 : IsRow .i64 w a1 len1 cap1 z1) (w2 : (Lit.int .i64 a2).wf = true) :
    Calls Try.prog 3 #[.int .i64 a0, .slice a1 len1 cap1, .int .i64 a2] w fun e w' => e = .returned (.bool true) ∧ Below w.heap.size w w' := by
  by_cases hl : 1048576 < len1
  · go_enter Try.func3, Try.ntmps3
    go_wp2
    go_ret
    exact ⟨rfl, Below.refl _ _⟩
  · have S0 := Lib.hid (Sl.of_row w1)
    have L0 := Lib.hid S0.out.len
    clear w0 w1 w2
    generalize List.take len1 z1 = zs at S0 L0
    have e1 := eqB_self zs
    have B := Lib.hid (Below.refl w.heap.size w)
    go_enter Try.func3, Try.ntmps3
    go_wp2_with fail
    refine (laws_toIntS _ _ _ _ _ S0.out (by omega)).mono ?_
    rintro e W1 ⟨a_p, n_p, c_p, rfl, o_p, b_p⟩
    have O_p := Lib.hid o_p
    have L_p := Lib.hid o_p.len
    have Z_W1 : w.heap.size ≤ W1.heap.size := b_p.size
    replace B := Lib.hid (B.out.trans (b_p.mono B.out.size))
    clear o_p b_p
    have h_p : n_p ≤ 1048576 := by rw [← L_p.out, L0.out]; omega
    go_wp2_with fail
    refine (spec_TypeCheck _ _ _ _ _ _ _ O_p.out.sl h_p).mono ?_
    rintro e W2 hd
    obtain ⟨rfl, b_d⟩ := hd.below
    have Z_W2 : W1.heap.size ≤ W2.heap.size := b_d.size
    clear hd
    replace O_p := Lib.hid (O_p.out.below b_d)
    replace B := Lib.hid (B.out.trans (b_d.mono B.out.size))
    clear b_d
    go_wp2_with fail
    refine (laws_toIntS _ _ _ _ _ (S0.out.below B.out) (by omega)).mono ?_
    rintro e W3 ⟨a_x, n_x, c_x, rfl, o_x, b_x⟩
    have O_x := Lib.hid o_x
    have L_x := Lib.hid o_x.len
    have Z_W3 : W2.heap.size ≤ W3.heap.size := b_x.size
    replace O_p := Lib.hid (O_p.out.below b_x)
    replace B := Lib.hid (B.out.trans (b_x.mono B.out.size))
    clear o_x b_x
    have h_x : n_x ≤ 1048576 := by rw [← L_x.out, L0.out]; omega
    go_wp2_with fail
    refine (impl_TypeCheck _ _ _ _ _ _ _ O_x.out.sl).mono ?_
    rintro e W4 hd
    obtain ⟨rfl, b_d⟩ := hd.below
    have Z_W4 : W3.heap.size ≤ W4.heap.size := b_d.size
    clear hd
    replace O_p := Lib.hid (O_p.out.below b_d)
    replace O_x := Lib.hid (O_x.out.below b_d)
    replace B := Lib.hid (B.out.trans (b_d.mono B.out.size))
    clear b_d
    go_wp2_with fail
    refine (laws_toIntS _ _ _ _ _ (S0.out.below B.out) (by omega)).mono ?_
    rintro e W5 ⟨a_y, n_y, c_y, rfl, o_y, b_y⟩
    have O_y := Lib.hid o_y
    have L_y := Lib.hid o_y.len
    have Z_W5 : W4.heap.size ≤ W5.heap.size := b_y.size
    replace O_p := Lib.hid (O_p.out.below b_y)
    replace O_x := Lib.hid (O_x.out.below b_y)
    replace B := Lib.hid (B.out.trans (b_y.mono B.out.size))
    clear o_y b_y
    have h_y : n_y ≤ 1048576 := by rw [← L_y.out, L0.out]; omega
    go_wp2_with fail
    refine (laws_eqIntS _ _ _ _ _ _ _ _ _ O_x.out.sl O_y.out.sl h_x h_y).mono ?_
    rintro e W6 hd
    obtain ⟨rfl, b_d⟩ := hd.below
    have Z_W6 : W5.heap.size ≤ W6.heap.size := b_d.size
    clear hd
    replace O_p := Lib.hid (O_p.out.below b_d)
    replace O_x := Lib.hid (O_x.out.below b_d)
    replace O_y := Lib.hid (O_y.out.below b_d)
    replace B := Lib.hid (B.out.trans (b_d.mono B.out.size))
    clear b_d
    go_wp2
    go_ret
    exact ⟨rfl, B.out⟩

/-! ### THE ROW's STEP: WRITTEN OUT: LEAVE IT -/
set_option maxRecDepth 100000 in
theorem lifted (os : Os) (started : os.Started) (H : Type) (enc : TypeId × Value → H) :
    ReturnsInHanded {} Try.checked os 3 .any (Rows.fnExactTypeCheckSpec.pre6 enc Try.prog Try.f3 Rows.fnExactTypeCheckRow.domain false) (Rows.fnExactTypeCheckSpec.post enc Try.prog Try.f3 false true false false) := by
  refine returnsInHanded_of_change (C := Try.checked) own started (by kernel_rfl) Try.func3
    (ChangeSpec.witness6 (enc := enc) (C := Try.checked) false ⟨#[], #[.int .i64 0, .slice none 0 0, .int .i64 0], []⟩ 8 (by kernel_rfl) (by kernel_rfl) (by kernel_rfl) (by kernel_rfl)) ?_
  intro W base args ds gs before hval0 hW hcnd _
  have hval : ∀ (j : Nat) t v, Try.f3.params[j]? = some t → args[j]? = some v → Value.okWide Try.prog W .any base t v := hval0
  have hW' := hW
  obtain ⟨p, q, hA0, hV, rfl, hfz, hnd⟩ := hW
  have hA : DataW.TrodAll enc Try.prog W 0 (fun _ => true) true Try.f3.params.toList args.toList ds p := hA0
  rw [Try.params3] at hA hval
  obtain ⟨v0, vs0, d0, ds0, p0, q0, hargs, rfl, rfl, h0, r0⟩ := trodAll_cons hA
  obtain ⟨v1, vs1, d1, ds1, p1, q1, rfl, rfl, rfl, h1, r1⟩ := trodAll_cons r0
  obtain ⟨v2, vs2, d2, ds2, p2, q2, rfl, rfl, rfl, h2, r2⟩ := trodAll_cons r1
  obtain ⟨rfl, rfl, rfl⟩ := trodAll_nil r2
  obtain rfl : args = #[v0, v1, v2] := by cases args; simp_all
  obtain ⟨rfl, rfl⟩ := trodVars_none hV
  obtain ⟨a0, rfl, rfl, rfl, w0⟩ := open_int Try.underlying3 (hval 0 3 v0 rfl rfl) h0
  obtain ⟨a1, len1, cap1, rfl⟩ := okWide_slice Try.underlying22 (hval 1 22 v1 rfl rfl)
  have k1 := h1
  have lt1 : ∀ x ∈ p1, x.block < W.heap.size := by obtain ⟨m, hm⟩ := k1; exact DataW.trod_lt m _ _ _ hm
  obtain ⟨z1, w1⟩ : ∃ zs, IsRow .i64 W a1 len1 cap1 zs := by
    obtain ⟨fuel, hf⟩ := h1
    rcases open_ints Try.underlying22 Try.underlying3 (by kernel_rfl) hf with ⟨hcs, _⟩ | ⟨x, l, c, zs, hcs, _, hl, hm, hz, _, hcell, hwz⟩
    · simp [Value.cells] at hcs
      obtain ⟨rfl, rfl, rfl⟩ := hcs
      exact ⟨[], .inl ⟨rfl, rfl, rfl, rfl⟩⟩
    · simp [Value.cells] at hcs
      obtain ⟨rfl, rfl, rfl⟩ := hcs
      exact ⟨zs, .inr ⟨_, rfl, hl, hm, by simpa using hz, hcell, hwz⟩⟩
  obtain ⟨a2, rfl, rfl, rfl, w2⟩ := open_int Try.underlying3 (hval 2 3 v2 rfl rfl) h2
  clear hA0 hval0
  refine (walk a0 a1 len1 cap1 z1 a2 W w0 w1 w2).mono fun e W' ⟨he, bel⟩ => ?_
  subst he
  exact ⟨_, rfl, _, _, _, [], _, [], hW', trodAll_mk1 (shut_bool Try.underlying4 _), (trodAll_cons_mk (shut_int Try.underlying3 w0) (trodAll_cons_mk (Below.trod laidOut (by kernel_rfl) (of_decide_eq_true (by kernel_rfl)) k1 bel lt1) (trodAll_cons_mk (shut_int Try.underlying3 w2) trodAll_mk0))), rfl, bel.frame _, fun h => by cases h⟩

theorem over : Rows.fnExactTypeCheckRow.holds Try.pinned (OpenSpec.ofChange Rows.fnExactTypeCheckSpec) :=
  OpenClaim.holds_of_wide 3 Try.f3 rfl rfl rfl rfl rfl rfl rfl ⟨rfl, rfl, rfl, rfl, rfl⟩ rfl rfl rfl rfl rfl (by kernel_rfl) Try.func3 (by kernel_rfl)
    (of_decide_eq_true (by kernel_rfl)) (by unfold Func.isWrapper; first | (rw [if_pos (by decide +kernel)]; kernel_rfl) | (rw [if_neg (by decide +kernel)]; exact ⟨rfl, rfl⟩))
    (fun os started H enc _ => lifted os started H enc)

/-- ████ THE STATEMENT ████ -/
theorem proved : Rows.FnExactTypeCheckSaid := over
#print axioms proved
end Go.Proofs.Ytlfmginnffdicaa.fnExactTypeCheck
