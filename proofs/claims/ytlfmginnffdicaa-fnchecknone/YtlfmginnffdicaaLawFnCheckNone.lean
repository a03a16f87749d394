/-
  Of numbers of a value the check is 0, whatever is drawn: the law FnCheckNone returns true for every code.
  Conditions: none but the statement's own. Proved: Rows.FnCheckNoneSaid.
-/
import Derived.Test.YtlfmginnffdicaaRows
import Derived.WalkKit
import Derived.ProofKit
import Derived.OpenShut
import Derived.ShutString
import Derived.ChangeOld
import Derived.Below
import Derived.Test.YtlfmginnffdicaaFp
import Derived.Test.YtlfmginnffdicaaBase
import Derived.Test.YtlfmginnffdicaaField
import Derived.Test.YtlfmginnffdicaaSl
import Derived.Test.YtlfmginnffdicaaLw
import Derived.Test.YtlfmginnffdicaaPm
import Derived.Test.YtlfmginnffdicaaShok
import Derived.Test.YtlfmginnffdicaaTy
import Derived.Test.YtlfmginnffdicaaTym
import Derived.Test.YtlfmginnffdicaaTyn
import Derived.Test.YtlfmginnffdicaaTyc
import Derived.Test.YtlfmginnffdicaaTys
import Derived.Test.YtlfmginnffdicaaTyr
import Derived.Test.YtlfmginnffdicaaDraw
import Derived.Test.YtlfmginnffdicaaDlist
import Derived.Test.YtlfmginnffdicaaTyd
namespace Go.Proofs.Ytlfmginnffdicaa.fnCheckNone
open Go.ChangeShapes Go.WideShapes Go.ChangeAt Go.RowKit
open Go.ChangeMaps (open_string shut_string)
set_option linter.unusedVariables false
set_option linter.unusedSimpArgs false

theorem own : ownKnob Try.prog.godebug = none := by kernel_rfl
theorem laidOut : laidOutB Try.prog = true := by kernel_rfl

set_option maxHeartbeats 1000000 in
set_option maxRecDepth 100000 in
theorem walk (a0 : Option Addr) (len0 cap0 : Nat) (z0 : List Int) (w : World) (w0 : IsRow .u8 w a0 len0 cap0 z0) :
    Calls Try.prog 4 #[.slice a0 len0 cap0] w fun e w' => e = .returned (.bool true) ∧ Below w.heap.size w w' := by
  obtain ⟨c1, c2⟩ := w0.sizes
  have Hb := Lib.hid (Bys.of_row w0)
  clear w0
  by_cases hl : 1048576 < len0
  · go_enter Try.func4, Try.ntmps4
    go_wp2
    go_ret
    exact ⟨rfl, Below.refl _ _⟩
  have B := Lib.hid (Below.refl w.heap.size w)
  go_enter Try.func4, Try.ntmps4
  go_wp2_with fail
  refine (spec_DrawTypeCheck a0 len0 cap0 w Hb.out c1 c2).mono ?_
  rintro e W1 ⟨k, a_p, n_p, c_p, zs, x, k1, k2, h_p, x1, x2, rfl, o_p, b_d⟩
  have Z_W1 : w.heap.size ≤ W1.heap.size := b_d.size
  have O_p := Lib.hid o_p
  have L_p := Lib.hid o_p.len
  replace B := Lib.hid (B.out.trans (b_d.mono B.out.size))
  clear b_d o_p
  clear c1 c2
  have b1 : (Fp.tchk k zs x != Fp.tchk k zs x) = false := by simp
  have b2 : (Fp.tchk k zs x == Fp.tchk k zs x) = true := by simp
  go_wp2_with fail
  refine (impl_TypeCheck _ _ _ _ _ _ _ O_p.out.sl).mono ?_
  rintro e W2 hd
  obtain ⟨rfl, b_d⟩ := hd.below
  have Z_W2 : W1.heap.size ≤ W2.heap.size := b_d.size
  clear hd
  replace O_p := Lib.hid (O_p.out.below b_d)
  replace B := Lib.hid (B.out.trans (b_d.mono B.out.size))
  clear b_d
  go_wp2_with fail
  refine (spec_TypeCheck _ _ _ _ _ _ _ O_p.out.sl (by omega)).mono ?_
  rintro e W3 hd
  obtain ⟨rfl, b_d⟩ := hd.below
  have Z_W3 : W2.heap.size ≤ W3.heap.size := b_d.size
  clear hd
  replace O_p := Lib.hid (O_p.out.below b_d)
  replace B := Lib.hid (B.out.trans (b_d.mono B.out.size))
  clear b_d
  go_wp2_with fail
  refine (spec_TypeOk _ _ _ _ _ _ O_p.out.sl (by omega)).mono ?_
  rintro e w' ⟨rfl, rfl⟩
  cases hz : Fp.tok k zs
  · skip
    go_wp2_with fail
    refine (spec_TypeCheck _ _ _ _ _ _ _ O_p.out.sl (by omega)).mono ?_
    rintro e W4 hd
    obtain ⟨rfl, b_d⟩ := hd.below
    have Z_W4 : W3.heap.size ≤ W4.heap.size := b_d.size
    clear hd
    replace O_p := Lib.hid (O_p.out.below b_d)
    replace B := Lib.hid (B.out.trans (b_d.mono B.out.size))
    clear b_d
    go_wp2
    go_ret
    exact ⟨rfl, B.out⟩
  · skip
    go_wp2
    go_loopw [7] (fun i wr => ∃ (j : Nat), j ≤ 31 ∧ i = .int .i64 j ∧ Hid (Own w.heap.size W1.heap.size wr a_p n_p c_p zs) ∧ Hid (Below w.heap.size w wr)) (fun i _ => 31 - (intOf i).toNat)
    case atStart => exact ⟨0, by omega, rfl, O_p.out, B.out⟩
    case round =>
      clear O_p B
      obtain ⟨j, hj, rfl, O_p, B⟩ := hrel
      by_cases hjt : j < 31
      · have hjo : Fp.ok (j : Int) = true := (Fp.ok_iff _).2 ⟨by omega, by omega⟩
        have zb := Fp.tchk_none hz hjo
        go_wp2_with fail
        refine (impl_TypeCheck _ _ _ _ _ _ _ O_p.out.sl).mono ?_
        rintro e W5 hd
        obtain ⟨rfl, b_d⟩ := hd.below
        have Z_W5 : wr.heap.size ≤ W5.heap.size := b_d.size
        clear hd
        replace O_p := Lib.hid (O_p.out.below b_d)
        replace B := Lib.hid (B.out.trans (b_d.mono B.out.size))
        clear b_d
        rw [zb]
        go_wp2
        go_roundw
        case rel => exact ⟨j + 1, by omega, by go_num, O_p.out, B.out⟩
        case measure => simp [intOf]; omega
      · go_wp2
        go_ret
        exact ⟨rfl, B.out⟩

/-! ### THE ROW's STEP: WRITTEN OUT: LEAVE IT -/
set_option maxRecDepth 100000 in
theorem lifted (os : Os) (started : os.Started) (H : Type) (enc : TypeId × Value → H) :
    ReturnsInHanded {} Try.checked os 4 .any (Rows.fnCheckNoneSpec.pre6 enc Try.prog Try.f4 Rows.fnCheckNoneRow.domain false) (Rows.fnCheckNoneSpec.post enc Try.prog Try.f4 false true false false) := by
  refine returnsInHanded_of_change (C := Try.checked) own started (by kernel_rfl) Try.func4
    (ChangeSpec.witness6 (enc := enc) (C := Try.checked) false ⟨#[], #[.slice none 0 0], []⟩ 8 (by kernel_rfl) (by kernel_rfl) (by kernel_rfl) (by kernel_rfl)) ?_
  intro W base args ds gs before hval0 hW hcnd _
  have hval : ∀ (j : Nat) t v, Try.f4.params[j]? = some t → args[j]? = some v → Value.okWide Try.prog W .any base t v := hval0
  have hW' := hW
  obtain ⟨p, q, hA0, hV, rfl, hfz, hnd⟩ := hW
  have hA : DataW.TrodAll enc Try.prog W 0 (fun _ => true) true Try.f4.params.toList args.toList ds p := hA0
  rw [Try.params4] at hA hval
  obtain ⟨v0, vs0, d0, ds0, p0, q0, hargs, rfl, rfl, h0, r0⟩ := trodAll_cons hA
  obtain ⟨rfl, rfl, rfl⟩ := trodAll_nil r0
  obtain rfl : args = #[v0] := by cases args; simp_all
  obtain ⟨rfl, rfl⟩ := trodVars_none hV
  obtain ⟨a0, len0, cap0, rfl⟩ := okWide_slice Try.underlying27 (hval 0 27 v0 rfl rfl)
  have k0 := h0
  have lt0 : ∀ x ∈ p0, x.block < W.heap.size := by obtain ⟨m, hm⟩ := k0; exact DataW.trod_lt m _ _ _ hm
  obtain ⟨z0, w0⟩ : ∃ zs, IsRow .u8 W a0 len0 cap0 zs := by
    obtain ⟨fuel, hf⟩ := h0
    rcases open_ints Try.underlying27 Try.underlying5 (by kernel_rfl) hf with ⟨hcs, _⟩ | ⟨x, l, c, zs, hcs, _, hl, hm, hz, _, hcell, hwz⟩
    · simp [Value.cells] at hcs
      obtain ⟨rfl, rfl, rfl⟩ := hcs
      exact ⟨[], .inl ⟨rfl, rfl, rfl, rfl⟩⟩
    · simp [Value.cells] at hcs
      obtain ⟨rfl, rfl, rfl⟩ := hcs
      exact ⟨zs, .inr ⟨_, rfl, hl, hm, by simpa using hz, hcell, hwz⟩⟩
  clear hA0 hval0
  refine (walk a0 len0 cap0 z0 W w0).mono fun e W' ⟨he, bel⟩ => ?_
  subst he
  exact ⟨_, rfl, _, _, _, [], _, [], hW', trodAll_mk1 (shut_bool Try.underlying4 _), (trodAll_cons_mk (Below.trod laidOut (by kernel_rfl) (of_decide_eq_true (by kernel_rfl)) k0 bel lt0) trodAll_mk0), rfl, bel.frame _, fun h => by cases h⟩

theorem over : Rows.fnCheckNoneRow.holds Try.pinned (OpenSpec.ofChange Rows.fnCheckNoneSpec) :=
  OpenClaim.holds_of_wide 4 Try.f4 rfl rfl rfl rfl rfl rfl rfl ⟨rfl, rfl, rfl, rfl, rfl⟩ rfl rfl rfl rfl rfl (by kernel_rfl) Try.func4 (by kernel_rfl)
    (of_decide_eq_true (by kernel_rfl)) (by unfold Func.isWrapper; first | (rw [if_pos (by decide +kernel)]; kernel_rfl) | (rw [if_neg (by decide +kernel)]; exact ⟨rfl, rfl⟩))
    (fun os started H enc _ => lifted os started H enc)

/-- ████ THE STATEMENT ████ -/
theorem proved : Rows.FnCheckNoneSaid := over
#print axioms proved
end Go.Proofs.Ytlfmginnffdicaa.fnCheckNone
