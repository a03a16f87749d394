/-
  A list has as many numbers as the model says, none of what is no kind: the law FnProofLen returns true for every code.
  Conditions: none but the statement's own. Proved: Rows.FnProofLenSaid.
-/
import Derived.Test.YtamikccedcffeaaRows
import Derived.WalkKit
import Derived.ProofKit
import Derived.OpenShut
import Derived.ShutString
import Derived.ChangeOld
import Derived.Below
import Derived.Test.YtamikccedcffeaaFp
import Derived.Test.YtamikccedcffeaaBase
import Derived.Test.YtamikccedcffeaaField
import Derived.Test.YtamikccedcffeaaSl
import Derived.Test.YtamikccedcffeaaLw
import Derived.Test.YtamikccedcffeaaPm
import Derived.Test.YtamikccedcffeaaShok
import Derived.Test.YtamikccedcffeaaPn
import Derived.Test.YtamikccedcffeaaPq
import Derived.Test.YtamikccedcffeaaPr
import Derived.Test.YtamikccedcffeaaPoly
import Derived.Test.YtamikccedcffeaaPline
import Derived.Test.YtamikccedcffeaaPmul
import Derived.Test.YtamikccedcffeaaPthr
import Derived.Test.YtamikccedcffeaaPths
import Derived.Test.YtamikccedcffeaaTy
import Derived.Test.YtamikccedcffeaaTym
import Derived.Test.YtamikccedcffeaaTyn
import Derived.Test.YtamikccedcffeaaTys
import Derived.Test.YtamikccedcffeaaCat
import Derived.Test.YtamikccedcffeaaPfp
import Derived.Test.YtamikccedcffeaaPf
import Derived.Test.YtamikccedcffeaaPfs
import Derived.Test.YtamikccedcffeaaDraw
import Derived.Test.YtamikccedcffeaaDlist
import Derived.Test.YtamikccedcffeaaTyd
import Derived.Test.YtamikccedcffeaaPft
import Derived.Test.YtamikccedcffeaaPfd
namespace Go.Proofs.Ytamikccedcffeaa.fnProofLen
open Go.ChangeShapes Go.WideShapes Go.ChangeAt Go.RowKit
open Go.ChangeMaps (open_string shut_string)
set_option linter.unusedVariables false
set_option linter.unusedSimpArgs false

theorem own : ownKnob Try.prog.godebug = none := by kernel_rfl
theorem laidOut : laidOutB Try.prog = true := by kernel_rfl

set_option maxHeartbeats 1000000 in
set_option maxRecDepth 100000 in
theorem walk (a0 : Option Addr) (len0 cap0 : Nat) (z0 : List Int) (w : World) (w0 : IsRow .u8 w a0 len0 cap0 z0) :
    Calls Try.prog 3 #[.slice a0 len0 cap0] w fun e w' => e = .returned (.bool true) ∧ Below w.heap.size w w' := by
  obtain ⟨c1, c2⟩ := w0.sizes
  have Hb := Lib.hid (Bys.of_row w0)
  clear w0
  by_cases hl : 1048576 < len0
  · go_enter Try.func3, Try.ntmps3
    go_wp2
    go_ret
    exact ⟨rfl, Below.refl _ _⟩
  have B := Lib.hid (Below.refl w.heap.size w)
  go_enter Try.func3, Try.ntmps3
  go_wp2_with fail
  refine (spec_DrawProofLen a0 len0 cap0 w Hb.out c1 c2).mono ?_
  rintro e W1 ⟨k, k1, k2, rfl, b_d⟩
  have Z_W1 : w.heap.size ≤ W1.heap.size := b_d.size
  replace B := Lib.hid (B.out.trans (b_d.mono B.out.size))
  clear b_d
  clear c1 c2
  cases hk : Fp.tk k
  · skip
    have TL : ((Fp.tlen k : Nat) : Int) = 0 := by rw [Fp.tlen_no hk]; rfl
    have PL : ((Fp.plen k : Nat) : Int) = 0 := by rw [Fp.plen_no hk]; rfl
    clear hk
    go_wp2_with fail
    refine (impl_ProofLen _ _).mono ?_
    rintro e W2 hd
    obtain ⟨rfl, b_d⟩ := hd.below
    have Z_W2 : W1.heap.size ≤ W2.heap.size := b_d.size
    clear hd
    replace B := Lib.hid (B.out.trans (b_d.mono B.out.size))
    clear b_d
    rw [PL]
    go_wp2_with fail
    refine (spec_ProofLen _ _).mono ?_
    rintro e w' ⟨rfl, rfl⟩
    rw [PL]
    go_wp2_with fail
    refine (impl_TypeLen _ _).mono ?_
    rintro e W3 hd
    obtain ⟨rfl, b_d⟩ := hd.below
    have Z_W3 : W2.heap.size ≤ W3.heap.size := b_d.size
    clear hd
    replace B := Lib.hid (B.out.trans (b_d.mono B.out.size))
    clear b_d
    rw [TL]
    go_wp2
    go_ret
    exact ⟨rfl, B.out⟩
  · skip
    rcases Fp.tk_cases hk with rfl | rfl | rfl
    · skip
      go_wp2_with fail
      refine (impl_ProofLen _ _).mono ?_
      rintro e W4 hd
      obtain ⟨rfl, b_d⟩ := hd.below
      have Z_W4 : W1.heap.size ≤ W4.heap.size := b_d.size
      clear hd
      replace B := Lib.hid (B.out.trans (b_d.mono B.out.size))
      clear b_d
      rw [show ((Fp.plen 1 : Nat) : Int) = 6 from rfl]
      go_wp2_with fail
      refine (spec_ProofLen _ _).mono ?_
      rintro e w' ⟨rfl, rfl⟩
      rw [show ((Fp.plen 1 : Nat) : Int) = 6 from rfl]
      go_wp2_with fail
      refine (impl_TypeLen _ _).mono ?_
      rintro e W5 hd
      obtain ⟨rfl, b_d⟩ := hd.below
      have Z_W5 : W4.heap.size ≤ W5.heap.size := b_d.size
      clear hd
      replace B := Lib.hid (B.out.trans (b_d.mono B.out.size))
      clear b_d
      rw [show ((Fp.tlen 1 : Nat) : Int) = 1 from rfl]
      go_wp2
      go_ret
      exact ⟨rfl, B.out⟩
    · skip
      go_wp2_with fail
      refine (impl_ProofLen _ _).mono ?_
      rintro e W6 hd
      obtain ⟨rfl, b_d⟩ := hd.below
      have Z_W6 : W1.heap.size ≤ W6.heap.size := b_d.size
      clear hd
      replace B := Lib.hid (B.out.trans (b_d.mono B.out.size))
      clear b_d
      rw [show ((Fp.plen 2 : Nat) : Int) = 15 from rfl]
      go_wp2_with fail
      refine (spec_ProofLen _ _).mono ?_
      rintro e w' ⟨rfl, rfl⟩
      rw [show ((Fp.plen 2 : Nat) : Int) = 15 from rfl]
      go_wp2_with fail
      refine (impl_TypeLen _ _).mono ?_
      rintro e W7 hd
      obtain ⟨rfl, b_d⟩ := hd.below
      have Z_W7 : W6.heap.size ≤ W7.heap.size := b_d.size
      clear hd
      replace B := Lib.hid (B.out.trans (b_d.mono B.out.size))
      clear b_d
      rw [show ((Fp.tlen 2 : Nat) : Int) = 4 from rfl]
      go_wp2
      go_ret
      exact ⟨rfl, B.out⟩
    · skip
      go_wp2_with fail
      refine (impl_ProofLen _ _).mono ?_
      rintro e W8 hd
      obtain ⟨rfl, b_d⟩ := hd.below
      have Z_W8 : W1.heap.size ≤ W8.heap.size := b_d.size
      clear hd
      replace B := Lib.hid (B.out.trans (b_d.mono B.out.size))
      clear b_d
      rw [show ((Fp.plen 3 : Nat) : Int) = 12 from rfl]
      go_wp2_with fail
      refine (spec_ProofLen _ _).mono ?_
      rintro e w' ⟨rfl, rfl⟩
      rw [show ((Fp.plen 3 : Nat) : Int) = 12 from rfl]
      go_wp2_with fail
      refine (impl_TypeLen _ _).mono ?_
      rintro e W9 hd
      obtain ⟨rfl, b_d⟩ := hd.below
      have Z_W9 : W8.heap.size ≤ W9.heap.size := b_d.size
      clear hd
      replace B := Lib.hid (B.out.trans (b_d.mono B.out.size))
      clear b_d
      rw [show ((Fp.tlen 3 : Nat) : Int) = 3 from rfl]
      go_wp2
      go_ret
      exact ⟨rfl, B.out⟩

/-! ### THE ROW's STEP: WRITTEN OUT: LEAVE IT -/
set_option maxRecDepth 100000 in
theorem lifted (os : Os) (started : os.Started) (H : Type) (enc : TypeId × Value → H) :
    ReturnsInHanded {} Try.checked os 3 .any (Rows.fnProofLenSpec.pre6 enc Try.prog Try.f3 Rows.fnProofLenRow.domain false) (Rows.fnProofLenSpec.post enc Try.prog Try.f3 false true false false) := by
  refine returnsInHanded_of_change (C := Try.checked) own started (by kernel_rfl) Try.func3
    (ChangeSpec.witness6 (enc := enc) (C := Try.checked) false ⟨#[], #[.slice none 0 0], []⟩ 8 (by kernel_rfl) (by kernel_rfl) (by kernel_rfl) (by kernel_rfl)) ?_
  intro W base args ds gs before hval0 hW hcnd _
  have hval : ∀ (j : Nat) t v, Try.f3.params[j]? = some t → args[j]? = some v → Value.okWide Try.prog W .any base t v := hval0
  have hW' := hW
  obtain ⟨p, q, hA0, hV, rfl, hfz, hnd⟩ := hW
  have hA : DataW.TrodAll enc Try.prog W 0 (fun _ => true) true Try.f3.params.toList args.toList ds p := hA0
  rw [Try.params3] at hA hval
  obtain ⟨v0, vs0, d0, ds0, p0, q0, hargs, rfl, rfl, h0, r0⟩ := trodAll_cons hA
  obtain ⟨rfl, rfl, rfl⟩ := trodAll_nil r0
  obtain rfl : args = #[v0] := by cases args; simp_all
  obtain ⟨rfl, rfl⟩ := trodVars_none hV
  obtain ⟨a0, len0, cap0, rfl⟩ := okWide_slice Try.underlying22 (hval 0 22 v0 rfl rfl)
  have k0 := h0
  have lt0 : ∀ x ∈ p0, x.block < W.heap.size := by obtain ⟨m, hm⟩ := k0; exact DataW.trod_lt m _ _ _ hm
  obtain ⟨z0, w0⟩ : ∃ zs, IsRow .u8 W a0 len0 cap0 zs := by
    obtain ⟨fuel, hf⟩ := h0
    rcases open_ints Try.underlying22 Try.underlying5 (by kernel_rfl) hf with ⟨hcs, _⟩ | ⟨x, l, c, zs, hcs, _, hl, hm, hz, _, hcell, hwz⟩
    · simp [Value.cells] at hcs
      obtain ⟨rfl, rfl, rfl⟩ := hcs
      exact ⟨[], .inl ⟨rfl, rfl, rfl, rfl⟩⟩
    · simp [Value.cells] at hcs
      obtain ⟨rfl, rfl, rfl⟩ := hcs
      exact ⟨zs, .inr ⟨_, rfl, hl, hm, by simpa using hz, hcell, hwz⟩⟩
  clear hA0 hval0
  refine (walk a0 len0 cap0 z0 W w0).mono fun e W' ⟨he, bel⟩ => ?_
  subst he
  exact ⟨_, rfl, _, _, _, [], _, [], hW', trodAll_mk1 (shut_bool Try.underlying4 _), (trodAll_cons_mk (Below.trod laidOut (by kernel_rfl) (of_decide_eq_true (by kernel_rfl)) k0 bel lt0) trodAll_mk0), rfl, bel.frame _, fun h => by cases h⟩

theorem over : Rows.fnProofLenRow.holds Try.pinned (OpenSpec.ofChange Rows.fnProofLenSpec) :=
  OpenClaim.holds_of_wide 3 Try.f3 rfl rfl rfl rfl rfl rfl rfl ⟨rfl, rfl, rfl, rfl, rfl⟩ rfl rfl rfl rfl rfl (by kernel_rfl) Try.func3 (by kernel_rfl)
    (of_decide_eq_true (by kernel_rfl)) (by unfold Func.isWrapper; first | (rw [if_pos (by decide +kernel)]; kernel_rfl) | (rw [if_neg (by decide +kernel)]; exact ⟨rfl, rfl⟩))
    (fun os started H enc _ => lifted os started H enc)

/-- ████ THE STATEMENT ████ -/
theorem proved : Rows.FnProofLenSaid := over
#print axioms proved
end Go.Proofs.Ytamikccedcffeaa.fnProofLen
