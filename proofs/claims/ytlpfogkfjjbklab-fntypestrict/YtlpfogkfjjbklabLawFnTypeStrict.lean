/-
  A value has numbers in one way: the law FnTypeStrict returns true for every code.
  Conditions: none but the statement's own. Proved: Rows.FnTypeStrictSaid.
-/
import Derived.Test.YtlpfogkfjjbklabRows
import Derived.WalkKit
import Derived.ProofKit
import Derived.OpenShut
import Derived.ShutString
import Derived.ChangeOld
import Derived.Below
import Derived.Test.YtlpfogkfjjbklabFp
import Derived.Test.YtlpfogkfjjbklabBase
import Derived.Test.YtlpfogkfjjbklabField
import Derived.Test.YtlpfogkfjjbklabSl
import Derived.Test.YtlpfogkfjjbklabLw
import Derived.Test.YtlpfogkfjjbklabPm
import Derived.Test.YtlpfogkfjjbklabShok
import Derived.Test.YtlpfogkfjjbklabTy
import Derived.Test.YtlpfogkfjjbklabTym
import Derived.Test.YtlpfogkfjjbklabTyn
import Derived.Test.YtlpfogkfjjbklabTys
import Derived.Test.YtlpfogkfjjbklabTyr
import Derived.Test.YtlpfogkfjjbklabDraw
import Derived.Test.YtlpfogkfjjbklabDlist
import Derived.Test.YtlpfogkfjjbklabTyd
namespace Go.Proofs.Ytlpfogkfjjbklab.fnTypeStrict
open Go.ChangeShapes Go.WideShapes Go.ChangeAt Go.RowKit
open Go.ChangeMaps (open_string shut_string)
set_option linter.unusedVariables false
set_option linter.unusedSimpArgs false

theorem own : ownKnob Try.prog.godebug = none := by kernel_rfl
theorem laidOut : laidOutB Try.prog = true := by kernel_rfl

set_option maxHeartbeats 1000000 in
set_option maxRecDepth 100000 in
theorem walk (a0 : Option Addr) (len0 cap0 : Nat) (z0 : List Int) (w : World) (w0 : IsRow .u8 w a0 len0 cap0 z0) :
    Calls Try.prog 4 #[.slice a0 len0 cap0] w fun e w' => e = .returned (.bool true) ∧ Below w.heap.size w w' := by
  obtain ⟨c1, c2⟩ := w0.sizes
  have Hb := Lib.hid (Bys.of_row w0)
  clear w0
  by_cases hl : 1048576 < len0
  · go_enter Try.func4, Try.ntmps4
    go_wp2
    go_ret
    exact ⟨rfl, Below.refl _ _⟩
  have B := Lib.hid (Below.refl w.heap.size w)
  go_enter Try.func4, Try.ntmps4
  go_wp2_with fail
  refine (spec_DrawTypeVal a0 len0 cap0 w Hb.out c1 c2).mono ?_
  rintro e W1 ⟨k, a_p, n_p, c_p, zs, k1, k2, h_p, rfl, o_p, b_d⟩
  have Z_W1 : w.heap.size ≤ W1.heap.size := b_d.size
  have O_p := Lib.hid o_p
  have L_p := Lib.hid o_p.len
  replace B := Lib.hid (B.out.trans (b_d.mono B.out.size))
  clear b_d o_p
  clear c1 c2
  go_wp2_with fail
  refine (spec_TypeVal _ _ _ _ _ _ O_p.out.sl (by omega)).mono ?_
  rintro e w' ⟨rfl, rfl⟩
  go_wp2_with fail
  refine (impl_TypeVal _ _ _ _ _ _ O_p.out.sl).mono ?_
  rintro e W2 hd
  obtain ⟨rfl, b_d⟩ := hd.below
  have Z_W2 : W1.heap.size ≤ W2.heap.size := b_d.size
  clear hd
  replace O_p := Lib.hid (O_p.out.below b_d)
  replace B := Lib.hid (B.out.trans (b_d.mono B.out.size))
  clear b_d
  cases hz : Fp.tok k zs
  · skip
    go_wp2_with fail
    refine (impl_TypeOk _ _ _ _ _ _ O_p.out.sl).mono ?_
    rintro e W3 hd
    obtain ⟨rfl, b_d⟩ := hd.below
    have Z_W3 : W2.heap.size ≤ W3.heap.size := b_d.size
    clear hd
    replace O_p := Lib.hid (O_p.out.below b_d)
    replace B := Lib.hid (B.out.trans (b_d.mono B.out.size))
    clear b_d
    go_wp2
    go_ret
    exact ⟨rfl, B.out⟩
  · skip
    obtain ⟨TC, TM⟩ := Fp.tval_back hz
    have TM := Lib.hid TM
    go_wp2_with fail
    refine (impl_TypeMake _ _ _).mono ?_
    rintro e W4 ⟨a_q, n_q, c_q, rfl, o_q, b_q⟩
    have O_q := Lib.hid o_q
    have L_q := Lib.hid o_q.len
    have Z_W4 : W2.heap.size ≤ W4.heap.size := b_q.size
    replace O_p := Lib.hid (O_p.out.below b_q)
    replace B := Lib.hid (B.out.trans (b_q.mono B.out.size))
    clear o_q b_q
    rw [TM.out] at O_q L_q
    have h_q : n_q ≤ 5 := by rw [← L_q.out, L_p.out]; exact h_p
    have e1 := eqB_self zs
    go_wp2_with fail
    refine (laws_loInts _ _ _ _ _ _ _ _ _ O_q.out.sl O_p.out.sl (by omega) (by omega)).mono ?_
    rintro e W5 hd
    obtain ⟨rfl, b_d⟩ := hd.below
    have Z_W5 : W4.heap.size ≤ W5.heap.size := b_d.size
    clear hd
    replace O_p := Lib.hid (O_p.out.below b_d)
    replace O_q := Lib.hid (O_q.out.below b_d)
    replace B := Lib.hid (B.out.trans (b_d.mono B.out.size))
    clear b_d
    go_wp2
    go_ret
    exact ⟨rfl, B.out⟩

/-! ### THE ROW's STEP: WRITTEN OUT: LEAVE IT -/
set_option maxRecDepth 100000 in
theorem lifted (os : Os) (started : os.Started) (H : Type) (enc : TypeId × Value → H) :
    ReturnsInHanded {} Try.checked os 4 .any (Rows.fnTypeStrictSpec.pre6 enc Try.prog Try.f4 Rows.fnTypeStrictRow.domain false) (Rows.fnTypeStrictSpec.post enc Try.prog Try.f4 false true false false) := by
  refine returnsInHanded_of_change (C := Try.checked) own started (by kernel_rfl) Try.func4
    (ChangeSpec.witness6 (enc := enc) (C := Try.checked) false ⟨#[], #[.slice none 0 0], []⟩ 8 (by kernel_rfl) (by kernel_rfl) (by kernel_rfl) (by kernel_rfl)) ?_
  intro W base args ds gs before hval0 hW hcnd _
  have hval : ∀ (j : Nat) t v, Try.f4.params[j]? = some t → args[j]? = some v → Value.okWide Try.prog W .any base t v := hval0
  have hW' := hW
  obtain ⟨p, q, hA0, hV, rfl, hfz, hnd⟩ := hW
  have hA : DataW.TrodAll enc Try.prog W 0 (fun _ => true) true Try.f4.params.toList args.toList ds p := hA0
  rw [Try.params4] at hA hval
  obtain ⟨v0, vs0, d0, ds0, p0, q0, hargs, rfl, rfl, h0, r0⟩ := trodAll_cons hA
  obtain ⟨rfl, rfl, rfl⟩ := trodAll_nil r0
  obtain rfl : args = #[v0] := by cases args; simp_all
  obtain ⟨rfl, rfl⟩ := trodVars_none hV
  obtain ⟨a0, len0, cap0, rfl⟩ := okWide_slice Try.underlying22 (hval 0 22 v0 rfl rfl)
  have k0 := h0
  have lt0 : ∀ x ∈ p0, x.block < W.heap.size := by obtain ⟨m, hm⟩ := k0; exact DataW.trod_lt m _ _ _ hm
  obtain ⟨z0, w0⟩ : ∃ zs, IsRow .u8 W a0 len0 cap0 zs := by
    obtain ⟨fuel, hf⟩ := h0
    rcases open_ints Try.underlying22 Try.underlying5 (by kernel_rfl) hf with ⟨hcs, _⟩ | ⟨x, l, c, zs, hcs, _, hl, hm, hz, _, hcell, hwz⟩
    · simp [Value.cells] at hcs
      obtain ⟨rfl, rfl, rfl⟩ := hcs
      exact ⟨[], .inl ⟨rfl, rfl, rfl, rfl⟩⟩
    · simp [Value.cells] at hcs
      obtain ⟨rfl, rfl, rfl⟩ := hcs
      exact ⟨zs, .inr ⟨_, rfl, hl, hm, by simpa using hz, hcell, hwz⟩⟩
  clear hA0 hval0
  refine (walk a0 len0 cap0 z0 W w0).mono fun e W' ⟨he, bel⟩ => ?_
  subst he
  exact ⟨_, rfl, _, _, _, [], _, [], hW', trodAll_mk1 (shut_bool Try.underlying4 _), (trodAll_cons_mk (Below.trod laidOut (by kernel_rfl) (of_decide_eq_true (by kernel_rfl)) k0 bel lt0) trodAll_mk0), rfl, bel.frame _, fun h => by cases h⟩

theorem over : Rows.fnTypeStrictRow.holds Try.pinned (OpenSpec.ofChange Rows.fnTypeStrictSpec) :=
  OpenClaim.holds_of_wide 4 Try.f4 rfl rfl rfl rfl rfl rfl rfl ⟨rfl, rfl, rfl, rfl, rfl⟩ rfl rfl rfl rfl rfl (by kernel_rfl) Try.func4 (by kernel_rfl)
    (of_decide_eq_true (by kernel_rfl)) (by unfold Func.isWrapper; first | (rw [if_pos (by decide +kernel)]; kernel_rfl) | (rw [if_neg (by decide +kernel)]; exact ⟨rfl, rfl⟩))
    (fun os started H enc _ => lifted os started H enc)

/-- ████ THE STATEMENT ████ -/
theorem proved : Rows.FnTypeStrictSaid := over
#print axioms proved
end Go.Proofs.Ytlpfogkfjjbklab.fnTypeStrict
