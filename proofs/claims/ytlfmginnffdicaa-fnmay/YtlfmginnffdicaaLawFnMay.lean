/-
  One may ask where nothing is told of the numbers, and nowhere else: the law FnMay returns true for every code.
  Conditions: none but the statement's own. Proved: Rows.FnMaySaid.
-/
import Derived.Test.YtlfmginnffdicaaRows
import Derived.WalkKit
import Derived.ProofKit
import Derived.OpenShut
import Derived.ShutString
import Derived.ChangeOld
import Derived.Below
import Derived.Test.YtlfmginnffdicaaFp
import Derived.Test.YtlfmginnffdicaaBase
import Derived.Test.YtlfmginnffdicaaField
import Derived.Test.YtlfmginnffdicaaDraw
import Derived.Test.YtlfmginnffdicaaSl
import Derived.Test.YtlfmginnffdicaaLw
import Derived.Test.YtlfmginnffdicaaPm
import Derived.Test.YtlfmginnffdicaaShok
import Derived.Test.YtlfmginnffdicaaDlist
import Derived.Test.YtlfmginnffdicaaTy
import Derived.Test.YtlfmginnffdicaaTym
import Derived.Test.YtlfmginnffdicaaTyn
import Derived.Test.YtlfmginnffdicaaTys
import Derived.Test.YtlfmginnffdicaaTyr
import Derived.Test.YtlfmginnffdicaaTyd
import Derived.Test.YtlfmginnffdicaaQm
namespace Go.Proofs.Ytlfmginnffdicaa.fnMay
open Go.ChangeShapes Go.WideShapes Go.ChangeAt Go.RowKit
open Go.ChangeMaps (open_string shut_string)
set_option linter.unusedVariables false
set_option linter.unusedSimpArgs false

theorem own : ownKnob Try.prog.godebug = none := by kernel_rfl
theorem laidOut : laidOutB Try.prog = true := by kernel_rfl

set_option maxHeartbeats 1000000 in
set_option maxRecDepth 100000 in
theorem walk (a0 : Option Addr) (len0 cap0 : Nat) (z0 : List Int) (w : World) (w0 : IsRow .u8 w a0 len0 cap0 z0) :
    Calls Try.prog 7 #[.slice a0 len0 cap0] w fun e w' => e = .returned (.bool true) ∧ Below w.heap.size w w' := by
  obtain ⟨c1, c2⟩ := w0.sizes
  have Hb := Lib.hid (Bys.of_row w0)
  clear w0
  by_cases hl : 1048576 < len0
  · go_enter Try.func7, Try.ntmps7
    go_wp2
    go_ret
    exact ⟨rfl, Below.refl _ _⟩
  have B := Lib.hid (Below.refl w.heap.size w)
  go_enter Try.func7, Try.ntmps7
  go_wp2_with fail
  refine (spec_DrawQueryMay a0 len0 cap0 w Hb.out c1 c2).mono ?_
  rintro e W1 ⟨k, x, k1, k2, x1, x2, rfl, b_d⟩
  have Z_W1 : w.heap.size ≤ W1.heap.size := b_d.size
  replace B := Lib.hid (B.out.trans (b_d.mono B.out.size))
  clear b_d
  clear c1 c2 Hb
  have TL := Fp.tlen_le k
  have EQ := Lib.hid (show Fp.qmay k x = (decide (0 < (Fp.tlen k : Int)) && decide ((Fp.tlen k : Int) < x) && decide (x < 31)) from rfl)
  go_wp2_with fail
  refine (impl_QueryMay _ _ _).mono ?_
  rintro e W2 ⟨rfl, b_d⟩
  have Z_W2 : W1.heap.size ≤ W2.heap.size := b_d.size
  replace B := Lib.hid (B.out.trans (b_d.mono B.out.size))
  clear b_d
  go_wp2_with fail
  refine (spec_QueryMay _ _ _).mono ?_
  rintro e w' ⟨rfl, rfl⟩
  go_wp2_with fail
  refine (impl_TypeLen _ _).mono ?_
  rintro e W3 ⟨rfl, b_d⟩
  have Z_W3 : W2.heap.size ≤ W3.heap.size := b_d.size
  replace B := Lib.hid (B.out.trans (b_d.mono B.out.size))
  clear b_d
  by_cases h1 : 0 < (Fp.tlen k : Int) <;> by_cases h2 : (Fp.tlen k : Int) < x <;> by_cases h3 : x < 31
  all_goals
    have e := EQ.out
    simp only [h1, h2, h3, decide_true, decide_false, Bool.and_true, Bool.and_false, Bool.true_and, Bool.false_and] at e
    rw [e]
    try have d1 : decide (0 < (Fp.tlen k : Int)) = false := decide_eq_false h1
    try have d1 : decide (0 < (Fp.tlen k : Int)) = true := decide_eq_true h1
    try have d2 : decide ((Fp.tlen k : Int) < x) = false := decide_eq_false h2
    try have d2 : decide ((Fp.tlen k : Int) < x) = true := decide_eq_true h2
    try have d3 : decide (x < 31) = false := decide_eq_false h3
    try have d3 : decide (x < 31) = true := decide_eq_true h3
    clear EQ e
    go_wp2
    first | done | (go_ret; exact ⟨rfl, B.out⟩)

/-! ### THE ROW's STEP: WRITTEN OUT: LEAVE IT -/
set_option maxRecDepth 100000 in
theorem lifted (os : Os) (started : os.Started) (H : Type) (enc : TypeId × Value → H) :
    ReturnsInHanded {} Try.checked os 7 .any (Rows.fnMaySpec.pre6 enc Try.prog Try.f7 Rows.fnMayRow.domain false) (Rows.fnMaySpec.post enc Try.prog Try.f7 false true false false) := by
  refine returnsInHanded_of_change (C := Try.checked) own started (by kernel_rfl) Try.func7
    (ChangeSpec.witness6 (enc := enc) (C := Try.checked) false ⟨#[], #[.slice none 0 0], []⟩ 8 (by kernel_rfl) (by kernel_rfl) (by kernel_rfl) (by kernel_rfl)) ?_
  intro W base args ds gs before hval0 hW hcnd _
  have hval : ∀ (j : Nat) t v, Try.f7.params[j]? = some t → args[j]? = some v → Value.okWide Try.prog W .any base t v := hval0
  have hW' := hW
  obtain ⟨p, q, hA0, hV, rfl, hfz, hnd⟩ := hW
  have hA : DataW.TrodAll enc Try.prog W 0 (fun _ => true) true Try.f7.params.toList args.toList ds p := hA0
  rw [Try.params7] at hA hval
  obtain ⟨v0, vs0, d0, ds0, p0, q0, hargs, rfl, rfl, h0, r0⟩ := trodAll_cons hA
  obtain ⟨rfl, rfl, rfl⟩ := trodAll_nil r0
  obtain rfl : args = #[v0] := by cases args; simp_all
  obtain ⟨rfl, rfl⟩ := trodVars_none hV
  obtain ⟨a0, len0, cap0, rfl⟩ := okWide_slice Try.underlying27 (hval 0 27 v0 rfl rfl)
  have k0 := h0
  have lt0 : ∀ x ∈ p0, x.block < W.heap.size := by obtain ⟨m, hm⟩ := k0; exact DataW.trod_lt m _ _ _ hm
  obtain ⟨z0, w0⟩ : ∃ zs, IsRow .u8 W a0 len0 cap0 zs := by
    obtain ⟨fuel, hf⟩ := h0
    rcases open_ints Try.underlying27 Try.underlying5 (by kernel_rfl) hf with ⟨hcs, _⟩ | ⟨x, l, c, zs, hcs, _, hl, hm, hz, _, hcell, hwz⟩
    · simp [Value.cells] at hcs
      obtain ⟨rfl, rfl, rfl⟩ := hcs
      exact ⟨[], .inl ⟨rfl, rfl, rfl, rfl⟩⟩
    · simp [Value.cells] at hcs
      obtain ⟨rfl, rfl, rfl⟩ := hcs
      exact ⟨zs, .inr ⟨_, rfl, hl, hm, by simpa using hz, hcell, hwz⟩⟩
  clear hA0 hval0
  refine (walk a0 len0 cap0 z0 W w0).mono fun e W' ⟨he, bel⟩ => ?_
  subst he
  exact ⟨_, rfl, _, _, _, [], _, [], hW', trodAll_mk1 (shut_bool Try.underlying4 _), (trodAll_cons_mk (Below.trod laidOut (by kernel_rfl) (of_decide_eq_true (by kernel_rfl)) k0 bel lt0) trodAll_mk0), rfl, bel.frame _, fun h => by cases h⟩

theorem over : Rows.fnMayRow.holds Try.pinned (OpenSpec.ofChange Rows.fnMaySpec) :=
  OpenClaim.holds_of_wide 7 Try.f7 rfl rfl rfl rfl rfl rfl rfl ⟨rfl, rfl, rfl, rfl, rfl⟩ rfl rfl rfl rfl rfl (by kernel_rfl) Try.func7 (by kernel_rfl)
    (of_decide_eq_true (by kernel_rfl)) (by unfold Func.isWrapper; first | (rw [if_pos (by decide +kernel)]; kernel_rfl) | (rw [if_neg (by decide +kernel)]; exact ⟨rfl, rfl⟩))
    (fun os started H enc _ => lifted os started H enc)

/-- ████ THE STATEMENT ████ -/
theorem proved : Rows.FnMaySaid := over
#print axioms proved
end Go.Proofs.Ytlfmginnffdicaa.fnMay
