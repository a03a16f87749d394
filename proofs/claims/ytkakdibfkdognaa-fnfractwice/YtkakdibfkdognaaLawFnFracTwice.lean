/-
  Twice as much is twice as much: the law FnFracTwice returns true for every code.
  Conditions: none but the statement's own. Proved: Rows.FnFracTwiceSaid.
-/
import Derived.Test.YtkakdibfkdognaaRows
import Derived.WalkKit
import Derived.ProofKit
import Derived.OpenShut
import Derived.ShutString
import Derived.ChangeOld
import Derived.Below
import Derived.Test.YtkakdibfkdognaaFp
import Derived.Test.YtkakdibfkdognaaBase
import Derived.Test.YtkakdibfkdognaaField
import Derived.Test.YtkakdibfkdognaaSl
import Derived.Test.YtkakdibfkdognaaTri
import Derived.Test.YtkakdibfkdognaaFr
import Derived.Test.YtkakdibfkdognaaFrl
import Derived.Test.YtkakdibfkdognaaFrc
import Derived.Test.YtkakdibfkdognaaFrd
import Derived.Test.YtkakdibfkdognaaFre
import Derived.Test.YtkakdibfkdognaaFrf
import Derived.Test.YtkakdibfkdognaaDraw
import Derived.Test.YtkakdibfkdognaaFrg
namespace Go.Proofs.Ytkakdibfkdognaa.fnFracTwice
open Go.ChangeShapes Go.WideShapes Go.ChangeAt Go.RowKit
open Go.ChangeMaps (open_string shut_string)
set_option linter.unusedVariables false
set_option linter.unusedSimpArgs false

theorem own : ownKnob Try.prog.godebug = none := by kernel_rfl
theorem laidOut : laidOutB Try.prog = true := by kernel_rfl

set_option maxHeartbeats 1000000 in
set_option maxRecDepth 100000 in
theorem walk (a0 : Option Addr) (len0 cap0 : Nat) (z0 : List Int) (w : World) (w0 : IsRow .u8 w a0 len0 cap0 z0) :
    Calls Try.prog 9 #[.slice a0 len0 cap0] w fun e w' => e = .returned (.bool true) ∧ Below w.heap.size w w' := by
  obtain ⟨c1, c2⟩ := w0.sizes
  have Hb := Lib.hid (Bys.of_row w0)
  clear w0
  by_cases hl : 1048576 < len0
  · go_enter Try.func9, Try.ntmps9
    go_wp2
    go_ret
    exact ⟨rfl, Below.refl _ _⟩
  have B := Lib.hid (Below.refl w.heap.size w)
  go_enter Try.func9, Try.ntmps9
  go_wp2_with fail
  refine (spec_DrawFracSum a0 len0 cap0 w Hb.out c1 c2).mono ?_
  rintro e W1 ⟨a, b, c, d, rfl, b_d⟩
  have Z_W1 : w.heap.size ≤ W1.heap.size := b_d.size
  replace B := Lib.hid (B.out.trans (b_d.mono B.out.size))
  clear b_d
  clear c1 c2
  obtain ⟨W2, W3, hw_x, hw_y, zz_x, z_h, p_h⟩ := pair_box W1 (a) (b) (c) (d) 26
  have Z_W3 : W1.heap.size + 1 < W3.heap.size := by omega
  have b_h := p_h.bel
  have D_x := Lib.hid p_h.one
  have D_y := Lib.hid p_h.two
  replace B := Lib.hid (B.out.trans (b_h.mono B.out.size))
  clear b_h p_h z_h
  obtain ⟨k0_x, k1_x, -, -⟩ := duo_at D_x.out
  obtain ⟨k0_y, k1_y, -, -⟩ := duo_at D_y.out
  go_wp2_with fail
  clear k0_x k1_x
  clear k0_y k1_y
  clear hw_x hw_y zz_x
  refine (spec_FracSum _ _ _ _ _).mono ?_
  rintro e W4 ⟨rfl, b_d⟩
  have Z_W4 : W3.heap.size ≤ W4.heap.size := b_d.size
  replace D_x := Lib.hid (Tri.below D_x.out b_d (by omega))
  replace D_y := Lib.hid (Tri.below D_y.out b_d (by omega))
  replace B := Lib.hid (B.out.trans (b_d.mono B.out.size))
  clear b_d
  obtain ⟨W5, hw_p, z_h, b_h, t_h⟩ := duo_box W4 (Fr.sN a b c d) (Fr.sD a b c d) 26
  have Z_W5 : W4.heap.size < W5.heap.size := by omega
  replace D_x := Lib.hid (Tri.below D_x.out b_h (by omega))
  replace D_y := Lib.hid (Tri.below D_y.out b_h (by omega))
  have D_p := Lib.hid t_h
  replace B := Lib.hid (B.out.trans (b_h.mono B.out.size))
  clear b_h t_h z_h
  obtain ⟨k0_x, k1_x, -, -⟩ := duo_at D_x.out
  obtain ⟨k0_y, k1_y, -, -⟩ := duo_at D_y.out
  obtain ⟨k0_p, k1_p, -, -⟩ := duo_at D_p.out
  go_wp2_with fail
  clear k0_x k1_x
  clear k0_y k1_y
  clear k0_p k1_p
  clear hw_p
  refine (impl_FracSum _ _ _ _ _).mono ?_
  rintro e W6 ⟨rfl, b_d⟩
  have Z_W6 : W5.heap.size ≤ W6.heap.size := b_d.size
  replace D_x := Lib.hid (Tri.below D_x.out b_d (by omega))
  replace D_y := Lib.hid (Tri.below D_y.out b_d (by omega))
  replace D_p := Lib.hid (Tri.below D_p.out b_d (by omega))
  replace B := Lib.hid (B.out.trans (b_d.mono B.out.size))
  clear b_d
  obtain ⟨W7, hw_q, z_h, b_h, t_h⟩ := duo_box W6 (Fr.sN a b c d) (Fr.sD a b c d) 26
  have Z_W7 : W6.heap.size < W7.heap.size := by omega
  replace D_x := Lib.hid (Tri.below D_x.out b_h (by omega))
  replace D_y := Lib.hid (Tri.below D_y.out b_h (by omega))
  replace D_p := Lib.hid (Tri.below D_p.out b_h (by omega))
  have D_q := Lib.hid t_h
  replace B := Lib.hid (B.out.trans (b_h.mono B.out.size))
  clear b_h t_h z_h
  have n1 := nes_impl_Frac (Fr.sN a b c d) (Fr.sD a b c d)
  have n2 := eqs_impl_Frac (Fr.sN a b c d) (Fr.sD a b c d)
  have n3 : (Fr.sB a b c d != Fr.sB a b c d) = false := by simp
  have n4 : (Fr.sB a b c d == Fr.sB a b c d) = true := by simp
  obtain ⟨k0_x, k1_x, -, -⟩ := duo_at D_x.out
  obtain ⟨k0_y, k1_y, -, -⟩ := duo_at D_y.out
  obtain ⟨k0_p, k1_p, -, -⟩ := duo_at D_p.out
  obtain ⟨k0_q, k1_q, -, -⟩ := duo_at D_q.out
  go_wp2_with fail
  clear k0_x k1_x
  clear k0_y k1_y
  clear k0_p k1_p
  clear k0_q k1_q
  clear hw_q
  refine (spec_FracOk a b _).mono ?_
  rintro e W8 ⟨rfl, b_d⟩
  have Z_W8 : W7.heap.size ≤ W8.heap.size := b_d.size
  replace D_x := Lib.hid (Tri.below D_x.out b_d (by omega))
  replace D_y := Lib.hid (Tri.below D_y.out b_d (by omega))
  replace D_p := Lib.hid (Tri.below D_p.out b_d (by omega))
  replace D_q := Lib.hid (Tri.below D_q.out b_d (by omega))
  replace B := Lib.hid (B.out.trans (b_d.mono B.out.size))
  clear b_d
  cases hk : Fr.ok a b
  · skip
    obtain ⟨k0_x, k1_x, -, -⟩ := duo_at D_x.out
    obtain ⟨k0_y, k1_y, -, -⟩ := duo_at D_y.out
    obtain ⟨k0_p, k1_p, -, -⟩ := duo_at D_p.out
    obtain ⟨k0_q, k1_q, -, -⟩ := duo_at D_q.out
    go_wp2_with fail
    clear k0_x k1_x
    clear k0_y k1_y
    clear k0_p k1_p
    clear k0_q k1_q
    go_ret
    exact ⟨rfl, B.out⟩
  · skip
    clear n1 n2 n3 n4
    obtain ⟨a, b, rfl, rfl, l1, l2, l3, -⟩ := Fr.ok_nat hk
    obtain ⟨t1, t2, t3⟩ := Fr.s_twice' hk
    have T1 := Lib.hid t1
    have T2 := Lib.hid t2
    have T3 := Lib.hid t3
    clear t1 t2 t3
    obtain ⟨k0_x, k1_x, -, -⟩ := duo_at D_x.out
    obtain ⟨k0_y, k1_y, -, -⟩ := duo_at D_y.out
    obtain ⟨k0_p, k1_p, -, -⟩ := duo_at D_p.out
    obtain ⟨k0_q, k1_q, -, -⟩ := duo_at D_q.out
    go_wp2_with fail
    clear k0_x k1_x
    clear k0_y k1_y
    clear k0_p k1_p
    clear k0_q k1_q
    refine (impl_FracSum a b a b _).mono ?_
    rintro e W9 ⟨rfl, b_d⟩
    have Z_W9 : W8.heap.size ≤ W9.heap.size := b_d.size
    replace D_x := Lib.hid (Tri.below D_x.out b_d (by omega))
    replace D_y := Lib.hid (Tri.below D_y.out b_d (by omega))
    replace D_p := Lib.hid (Tri.below D_p.out b_d (by omega))
    replace D_q := Lib.hid (Tri.below D_q.out b_d (by omega))
    replace B := Lib.hid (B.out.trans (b_d.mono B.out.size))
    clear b_d
    rw [T1.out, T2.out, T3.out]
    obtain ⟨W10, hw_r, z_h, b_h, t_h⟩ := duo_box W9 (Fr.ofN (2 * (a : Int)) b) (Fr.ofD (2 * (a : Int)) b) 26
    have Z_W10 : W9.heap.size < W10.heap.size := by omega
    replace D_x := Lib.hid (Tri.below D_x.out b_h (by omega))
    replace D_y := Lib.hid (Tri.below D_y.out b_h (by omega))
    replace D_p := Lib.hid (Tri.below D_p.out b_h (by omega))
    replace D_q := Lib.hid (Tri.below D_q.out b_h (by omega))
    have D_r := Lib.hid t_h
    replace B := Lib.hid (B.out.trans (b_h.mono B.out.size))
    clear b_h t_h z_h
    obtain ⟨k0_x, k1_x, -, -⟩ := duo_at D_x.out
    obtain ⟨k0_y, k1_y, -, -⟩ := duo_at D_y.out
    obtain ⟨k0_p, k1_p, -, -⟩ := duo_at D_p.out
    obtain ⟨k0_q, k1_q, -, -⟩ := duo_at D_q.out
    obtain ⟨k0_r, k1_r, -, -⟩ := duo_at D_r.out
    go_wp2_with fail
    clear k0_x k1_x
    clear k0_y k1_y
    clear k0_p k1_p
    clear k0_q k1_q
    clear k0_r k1_r
    clear hw_r
    refine (impl_FracOf (2 * (a : Int)) b _).mono ?_
    rintro e W11 ⟨rfl, b_d⟩
    have Z_W11 : W10.heap.size ≤ W11.heap.size := b_d.size
    replace D_x := Lib.hid (Tri.below D_x.out b_d (by omega))
    replace D_y := Lib.hid (Tri.below D_y.out b_d (by omega))
    replace D_p := Lib.hid (Tri.below D_p.out b_d (by omega))
    replace D_q := Lib.hid (Tri.below D_q.out b_d (by omega))
    replace D_r := Lib.hid (Tri.below D_r.out b_d (by omega))
    replace B := Lib.hid (B.out.trans (b_d.mono B.out.size))
    clear b_d
    obtain ⟨W12, hw_s, z_h, b_h, t_h⟩ := duo_box W11 (Fr.ofN (2 * (a : Int)) b) (Fr.ofD (2 * (a : Int)) b) 26
    have Z_W12 : W11.heap.size < W12.heap.size := by omega
    replace D_x := Lib.hid (Tri.below D_x.out b_h (by omega))
    replace D_y := Lib.hid (Tri.below D_y.out b_h (by omega))
    replace D_p := Lib.hid (Tri.below D_p.out b_h (by omega))
    replace D_q := Lib.hid (Tri.below D_q.out b_h (by omega))
    replace D_r := Lib.hid (Tri.below D_r.out b_h (by omega))
    have D_s := Lib.hid t_h
    replace B := Lib.hid (B.out.trans (b_h.mono B.out.size))
    clear b_h t_h z_h
    have n1 := eqs_impl_Frac (Fr.ofN (2 * (a : Int)) b) (Fr.ofD (2 * (a : Int)) b)
    have n2 : (Fr.ofB (2 * (a : Int)) b == Fr.ofB (2 * (a : Int)) b) = true := by simp
    obtain ⟨k0_x, k1_x, -, -⟩ := duo_at D_x.out
    obtain ⟨k0_y, k1_y, -, -⟩ := duo_at D_y.out
    obtain ⟨k0_p, k1_p, -, -⟩ := duo_at D_p.out
    obtain ⟨k0_q, k1_q, -, -⟩ := duo_at D_q.out
    obtain ⟨k0_r, k1_r, -, -⟩ := duo_at D_r.out
    obtain ⟨k0_s, k1_s, -, -⟩ := duo_at D_s.out
    go_wp2_with fail
    clear k0_x k1_x
    clear k0_y k1_y
    clear k0_p k1_p
    clear k0_q k1_q
    clear k0_r k1_r
    clear k0_s k1_s
    clear hw_s
    go_ret
    exact ⟨rfl, B.out⟩

/-! ### THE ROW's STEP: WRITTEN OUT: LEAVE IT -/
set_option maxRecDepth 100000 in
theorem lifted (os : Os) (started : os.Started) (H : Type) (enc : TypeId × Value → H) :
    ReturnsInHanded {} Try.checked os 9 .any (Rows.fnFracTwiceSpec.pre6 enc Try.prog Try.f9 Rows.fnFracTwiceRow.domain false) (Rows.fnFracTwiceSpec.post enc Try.prog Try.f9 false true false false) := by
  refine returnsInHanded_of_change (C := Try.checked) own started (by kernel_rfl) Try.func9
    (ChangeSpec.witness6 (enc := enc) (C := Try.checked) false ⟨#[], #[.slice none 0 0], []⟩ 8 (by kernel_rfl) (by kernel_rfl) (by kernel_rfl) (by kernel_rfl)) ?_
  intro W base args ds gs before hval0 hW hcnd _
  have hval : ∀ (j : Nat) t v, Try.f9.params[j]? = some t → args[j]? = some v → Value.okWide Try.prog W .any base t v := hval0
  have hW' := hW
  obtain ⟨p, q, hA0, hV, rfl, hfz, hnd⟩ := hW
  have hA : DataW.TrodAll enc Try.prog W 0 (fun _ => true) true Try.f9.params.toList args.toList ds p := hA0
  rw [Try.params9] at hA hval
  obtain ⟨v0, vs0, d0, ds0, p0, q0, hargs, rfl, rfl, h0, r0⟩ := trodAll_cons hA
  obtain ⟨rfl, rfl, rfl⟩ := trodAll_nil r0
  obtain rfl : args = #[v0] := by cases args; simp_all
  obtain ⟨rfl, rfl⟩ := trodVars_none hV
  obtain ⟨a0, len0, cap0, rfl⟩ := okWide_slice Try.underlying22 (hval 0 22 v0 rfl rfl)
  have k0 := h0
  have lt0 : ∀ x ∈ p0, x.block < W.heap.size := by obtain ⟨m, hm⟩ := k0; exact DataW.trod_lt m _ _ _ hm
  obtain ⟨z0, w0⟩ : ∃ zs, IsRow .u8 W a0 len0 cap0 zs := by
    obtain ⟨fuel, hf⟩ := h0
    rcases open_ints Try.underlying22 Try.underlying5 (by kernel_rfl) hf with ⟨hcs, _⟩ | ⟨x, l, c, zs, hcs, _, hl, hm, hz, _, hcell, hwz⟩
    · simp [Value.cells] at hcs
      obtain ⟨rfl, rfl, rfl⟩ := hcs
      exact ⟨[], .inl ⟨rfl, rfl, rfl, rfl⟩⟩
    · simp [Value.cells] at hcs
      obtain ⟨rfl, rfl, rfl⟩ := hcs
      exact ⟨zs, .inr ⟨_, rfl, hl, hm, by simpa using hz, hcell, hwz⟩⟩
  clear hA0 hval0
  refine (walk a0 len0 cap0 z0 W w0).mono fun e W' ⟨he, bel⟩ => ?_
  subst he
  exact ⟨_, rfl, _, _, _, [], _, [], hW', trodAll_mk1 (shut_bool Try.underlying4 _), (trodAll_cons_mk (Below.trod laidOut (by kernel_rfl) (of_decide_eq_true (by kernel_rfl)) k0 bel lt0) trodAll_mk0), rfl, bel.frame _, fun h => by cases h⟩

theorem over : Rows.fnFracTwiceRow.holds Try.pinned (OpenSpec.ofChange Rows.fnFracTwiceSpec) :=
  OpenClaim.holds_of_wide 9 Try.f9 rfl rfl rfl rfl rfl rfl rfl ⟨rfl, rfl, rfl, rfl, rfl⟩ rfl rfl rfl rfl rfl (by kernel_rfl) Try.func9 (by kernel_rfl)
    (of_decide_eq_true (by kernel_rfl)) (by unfold Func.isWrapper; first | (rw [if_pos (by decide +kernel)]; kernel_rfl) | (rw [if_neg (by decide +kernel)]; exact ⟨rfl, rfl⟩))
    (fun os started H enc _ => lifted os started H enc)

/-- ████ THE STATEMENT ████ -/
theorem proved : Rows.FnFracTwiceSaid := over
#print axioms proved
end Go.Proofs.Ytkakdibfkdognaa.fnFracTwice
