/-
  It does not matter which fractions are put together first, and the sum is exact: the law FnFracSum returns true for every code.
  Conditions: none but the statement's own. Proved: Rows.FnFracSumSaid.
-/
import Derived.Test.YtkakdibfkdognaaRows
import Derived.WalkKit
import Derived.ProofKit
import Derived.OpenShut
import Derived.ShutString
import Derived.ChangeOld
import Derived.Below
import Derived.Test.YtkakdibfkdognaaFp
import Derived.Test.YtkakdibfkdognaaBase
import Derived.Test.YtkakdibfkdognaaField
import Derived.Test.YtkakdibfkdognaaSl
import Derived.Test.YtkakdibfkdognaaTri
import Derived.Test.YtkakdibfkdognaaFr
import Derived.Test.YtkakdibfkdognaaFrl
import Derived.Test.YtkakdibfkdognaaFrc
import Derived.Test.YtkakdibfkdognaaFrd
import Derived.Test.YtkakdibfkdognaaFre
import Derived.Test.YtkakdibfkdognaaFrf
import Derived.Test.YtkakdibfkdognaaDraw
import Derived.Test.YtkakdibfkdognaaFrg
namespace Go.Proofs.Ytkakdibfkdognaa.fnFracSum
open Go.ChangeShapes Go.WideShapes Go.ChangeAt Go.RowKit
open Go.ChangeMaps (open_string shut_string)
set_option linter.unusedVariables false
set_option linter.unusedSimpArgs false

theorem own : ownKnob Try.prog.godebug = none := by kernel_rfl
theorem laidOut : laidOutB Try.prog = true := by kernel_rfl

set_option maxHeartbeats 1000000 in
set_option maxRecDepth 100000 in
theorem walk (a0 : Option Addr) (len0 cap0 : Nat) (z0 : List Int) (w : World) (w0 : IsRow .u8 w a0 len0 cap0 z0) :
    Calls Try.prog 4 #[.slice a0 len0 cap0] w fun e w' => e = .returned (.bool true) ∧ Below w.heap.size w w' := by
  obtain ⟨c1, c2⟩ := w0.sizes
  have Hb := Lib.hid (Bys.of_row w0)
  clear w0
  by_cases hl : 1048576 < len0
  · go_enter Try.func4, Try.ntmps4
    go_wp2
    go_ret
    exact ⟨rfl, Below.refl _ _⟩
  have B := Lib.hid (Below.refl w.heap.size w)
  go_enter Try.func4, Try.ntmps4
  go_wp2_with fail
  refine (spec_DrawFracSum a0 len0 cap0 w Hb.out c1 c2).mono ?_
  rintro e W1 ⟨a, b, c, d, rfl, b_d⟩
  have Z_W1 : w.heap.size ≤ W1.heap.size := b_d.size
  replace B := Lib.hid (B.out.trans (b_d.mono B.out.size))
  clear b_d
  clear c1 c2
  obtain ⟨W2, W3, hw_x, hw_y, zz_x, z_h, p_h⟩ := pair_box W1 (a) (b) (c) (d) 26
  have Z_W3 : W1.heap.size + 1 < W3.heap.size := by omega
  have b_h := p_h.bel
  have D_x := Lib.hid p_h.one
  have D_y := Lib.hid p_h.two
  replace B := Lib.hid (B.out.trans (b_h.mono B.out.size))
  clear b_h p_h z_h
  obtain ⟨k0_x, k1_x, -, -⟩ := duo_at D_x.out
  obtain ⟨k0_y, k1_y, -, -⟩ := duo_at D_y.out
  go_wp2_with fail
  clear k0_x k1_x
  clear k0_y k1_y
  clear hw_x hw_y zz_x
  refine (spec_FracSum _ _ _ _ _).mono ?_
  rintro e W4 ⟨rfl, b_d⟩
  have Z_W4 : W3.heap.size ≤ W4.heap.size := b_d.size
  replace D_x := Lib.hid (Tri.below D_x.out b_d (by omega))
  replace D_y := Lib.hid (Tri.below D_y.out b_d (by omega))
  replace B := Lib.hid (B.out.trans (b_d.mono B.out.size))
  clear b_d
  obtain ⟨W5, hw_p, z_h, b_h, t_h⟩ := duo_box W4 (Fr.sN a b c d) (Fr.sD a b c d) 26
  have Z_W5 : W4.heap.size < W5.heap.size := by omega
  replace D_x := Lib.hid (Tri.below D_x.out b_h (by omega))
  replace D_y := Lib.hid (Tri.below D_y.out b_h (by omega))
  have D_p := Lib.hid t_h
  replace B := Lib.hid (B.out.trans (b_h.mono B.out.size))
  clear b_h t_h z_h
  obtain ⟨k0_x, k1_x, -, -⟩ := duo_at D_x.out
  obtain ⟨k0_y, k1_y, -, -⟩ := duo_at D_y.out
  obtain ⟨k0_p, k1_p, -, -⟩ := duo_at D_p.out
  go_wp2_with fail
  clear k0_x k1_x
  clear k0_y k1_y
  clear k0_p k1_p
  clear hw_p
  refine (impl_FracSum _ _ _ _ _).mono ?_
  rintro e W6 ⟨rfl, b_d⟩
  have Z_W6 : W5.heap.size ≤ W6.heap.size := b_d.size
  replace D_x := Lib.hid (Tri.below D_x.out b_d (by omega))
  replace D_y := Lib.hid (Tri.below D_y.out b_d (by omega))
  replace D_p := Lib.hid (Tri.below D_p.out b_d (by omega))
  replace B := Lib.hid (B.out.trans (b_d.mono B.out.size))
  clear b_d
  obtain ⟨W7, hw_q, z_h, b_h, t_h⟩ := duo_box W6 (Fr.sN a b c d) (Fr.sD a b c d) 26
  have Z_W7 : W6.heap.size < W7.heap.size := by omega
  replace D_x := Lib.hid (Tri.below D_x.out b_h (by omega))
  replace D_y := Lib.hid (Tri.below D_y.out b_h (by omega))
  replace D_p := Lib.hid (Tri.below D_p.out b_h (by omega))
  have D_q := Lib.hid t_h
  replace B := Lib.hid (B.out.trans (b_h.mono B.out.size))
  clear b_h t_h z_h
  have n1 := nes_impl_Frac (Fr.sN a b c d) (Fr.sD a b c d)
  have n2 := eqs_impl_Frac (Fr.sN a b c d) (Fr.sD a b c d)
  cases hb : Fr.sB a b c d
  · skip
    obtain ⟨k0_x, k1_x, -, -⟩ := duo_at D_x.out
    obtain ⟨k0_y, k1_y, -, -⟩ := duo_at D_y.out
    obtain ⟨k0_p, k1_p, -, -⟩ := duo_at D_p.out
    obtain ⟨k0_q, k1_q, -, -⟩ := duo_at D_q.out
    go_wp2_with fail
    clear k0_x k1_x
    clear k0_y k1_y
    clear k0_p k1_p
    clear k0_q k1_q
    clear hw_q
    go_ret
    exact ⟨rfl, B.out⟩
  · skip
    clear n1 n2
    obtain ⟨g1, g2⟩ := Fr.s_two hb
    obtain ⟨a, b, rfl, rfl, l1, l2, l3, -⟩ := Fr.ok_nat g1
    obtain ⟨c, d, rfl, rfl, m1, m2, m3, -⟩ := Fr.ok_nat g2
    obtain ⟨-, -, u, v, e1, e2, h3, h4⟩ := Fr.s_get hb
    obtain ⟨i1, i2, i3⟩ := Fr.ok_bd h3
    rw [e1, e2] at D_p D_q hw_q
    have E1 := Lib.hid e1
    have E2 := Lib.hid e2
    obtain ⟨s1, s2, s3⟩ := Fr.s_comm hb
    rw [e1] at s2
    rw [e2] at s3
    have S1 := Lib.hid s1
    have S2 := Lib.hid s2
    have S3 := Lib.hid s3
    obtain ⟨z1, z2, z3⟩ := Fr.s_zero' g1
    have Z1 := Lib.hid z1
    have Z2 := Lib.hid z2
    have Z3 := Lib.hid z3
    have G := Fr.c_ge g1 g2 h3 h4
    have X := beqT (Fr.exact_i h4)
    rw [e1, e2]
    have n0 := nes_impl_Frac u v
    have n1 := eqs_impl_Frac u v
    have n2 := eqs_impl_Frac a b
    obtain ⟨p0, p1⟩ := Fr.prod_bd i1 l3
    obtain ⟨p2, p3⟩ := Fr.prod3_bd i1 l3 m3
    obtain ⟨p4, p5⟩ := Fr.prod_bd l1 m3
    obtain ⟨p6, p7⟩ := Fr.prod_bd m1 l3
    obtain ⟨s1', -⟩ := sum_bd l1 l3 m1 m3
    have p8 : 0 ≤ ((a : Int) * (d : Int) + (c : Int) * (b : Int)) * (v : Int) := by rw [← Fr.exact_i h4]; exact p2
    have p9 : ((a : Int) * (d : Int) + (c : Int) * (b : Int)) * (v : Int) ≤ 3596400 := by rw [← Fr.exact_i h4]; exact p3
    clear e1 e2 s1 s2 s3 z1 z2 z3 h4 hb g1 g2 h3 s1'
    obtain ⟨k0_x, k1_x, -, -⟩ := duo_at D_x.out
    obtain ⟨k0_y, k1_y, -, -⟩ := duo_at D_y.out
    obtain ⟨k0_p, k1_p, -, -⟩ := duo_at D_p.out
    obtain ⟨k0_q, k1_q, -, -⟩ := duo_at D_q.out
    go_wp2_with fail
    clear k0_x k1_x
    clear k0_y k1_y
    clear k0_p k1_p
    clear k0_q k1_q
    clear hw_q
    refine (impl_FracSum c d a b _).mono ?_
    rintro e W8 ⟨rfl, b_d⟩
    have Z_W8 : W7.heap.size ≤ W8.heap.size := b_d.size
    replace D_x := Lib.hid (Tri.below D_x.out b_d (by omega))
    replace D_y := Lib.hid (Tri.below D_y.out b_d (by omega))
    replace D_p := Lib.hid (Tri.below D_p.out b_d (by omega))
    replace D_q := Lib.hid (Tri.below D_q.out b_d (by omega))
    replace B := Lib.hid (B.out.trans (b_d.mono B.out.size))
    clear b_d
    rw [S1.out, S2.out, S3.out]
    obtain ⟨W9, hw_g, z_h, b_h, t_h⟩ := duo_box W8 (u) (v) 26
    have Z_W9 : W8.heap.size < W9.heap.size := by omega
    replace D_x := Lib.hid (Tri.below D_x.out b_h (by omega))
    replace D_y := Lib.hid (Tri.below D_y.out b_h (by omega))
    replace D_p := Lib.hid (Tri.below D_p.out b_h (by omega))
    replace D_q := Lib.hid (Tri.below D_q.out b_h (by omega))
    have D_g := Lib.hid t_h
    replace B := Lib.hid (B.out.trans (b_h.mono B.out.size))
    clear b_h t_h z_h
    obtain ⟨k0_x, k1_x, -, -⟩ := duo_at D_x.out
    obtain ⟨k0_y, k1_y, -, -⟩ := duo_at D_y.out
    obtain ⟨k0_p, k1_p, -, -⟩ := duo_at D_p.out
    obtain ⟨k0_q, k1_q, -, -⟩ := duo_at D_q.out
    obtain ⟨k0_g, k1_g, -, -⟩ := duo_at D_g.out
    go_wp2_with fail
    clear k0_x k1_x
    clear k0_y k1_y
    clear k0_p k1_p
    clear k0_q k1_q
    clear k0_g k1_g
    clear hw_g
    refine (impl_FracSum a b 0 1 _).mono ?_
    rintro e W10 ⟨rfl, b_d⟩
    have Z_W10 : W9.heap.size ≤ W10.heap.size := b_d.size
    replace D_x := Lib.hid (Tri.below D_x.out b_d (by omega))
    replace D_y := Lib.hid (Tri.below D_y.out b_d (by omega))
    replace D_p := Lib.hid (Tri.below D_p.out b_d (by omega))
    replace D_q := Lib.hid (Tri.below D_q.out b_d (by omega))
    replace D_g := Lib.hid (Tri.below D_g.out b_d (by omega))
    replace B := Lib.hid (B.out.trans (b_d.mono B.out.size))
    clear b_d
    rw [Z1.out, Z2.out, Z3.out]
    obtain ⟨W11, hw_n, z_h, b_h, t_h⟩ := duo_box W10 (a) (b) 26
    have Z_W11 : W10.heap.size < W11.heap.size := by omega
    replace D_x := Lib.hid (Tri.below D_x.out b_h (by omega))
    replace D_y := Lib.hid (Tri.below D_y.out b_h (by omega))
    replace D_p := Lib.hid (Tri.below D_p.out b_h (by omega))
    replace D_q := Lib.hid (Tri.below D_q.out b_h (by omega))
    replace D_g := Lib.hid (Tri.below D_g.out b_h (by omega))
    have D_n := Lib.hid t_h
    replace B := Lib.hid (B.out.trans (b_h.mono B.out.size))
    clear b_h t_h z_h
    obtain ⟨k0_x, k1_x, -, -⟩ := duo_at D_x.out
    obtain ⟨k0_y, k1_y, -, -⟩ := duo_at D_y.out
    obtain ⟨k0_p, k1_p, -, -⟩ := duo_at D_p.out
    obtain ⟨k0_q, k1_q, -, -⟩ := duo_at D_q.out
    obtain ⟨k0_g, k1_g, -, -⟩ := duo_at D_g.out
    obtain ⟨k0_n, k1_n, -, -⟩ := duo_at D_n.out
    go_wp2_with fail
    clear k0_x k1_x
    clear k0_y k1_y
    clear k0_p k1_p
    clear k0_q k1_q
    clear k0_g k1_g
    clear k0_n k1_n
    clear hw_n
    refine (impl_FracCmp u v a b _).mono ?_
    rintro e W12 ⟨rfl, b_d⟩
    have Z_W12 : W11.heap.size ≤ W12.heap.size := b_d.size
    replace D_x := Lib.hid (Tri.below D_x.out b_d (by omega))
    replace D_y := Lib.hid (Tri.below D_y.out b_d (by omega))
    replace D_p := Lib.hid (Tri.below D_p.out b_d (by omega))
    replace D_q := Lib.hid (Tri.below D_q.out b_d (by omega))
    replace D_g := Lib.hid (Tri.below D_g.out b_d (by omega))
    replace D_n := Lib.hid (Tri.below D_n.out b_d (by omega))
    replace B := Lib.hid (B.out.trans (b_d.mono B.out.size))
    clear b_d
    obtain ⟨k0_x, k1_x, -, -⟩ := duo_at D_x.out
    obtain ⟨k0_y, k1_y, -, -⟩ := duo_at D_y.out
    obtain ⟨k0_p, k1_p, -, -⟩ := duo_at D_p.out
    obtain ⟨k0_q, k1_q, -, -⟩ := duo_at D_q.out
    obtain ⟨k0_g, k1_g, -, -⟩ := duo_at D_g.out
    obtain ⟨k0_n, k1_n, -, -⟩ := duo_at D_n.out
    go_wp2_with fail
    clear k0_x k1_x
    clear k0_y k1_y
    clear k0_p k1_p
    clear k0_q k1_q
    clear k0_g k1_g
    clear k0_n k1_n
    go_ret
    exact ⟨rfl, B.out⟩

/-! ### THE ROW's STEP: WRITTEN OUT: LEAVE IT -/
set_option maxRecDepth 100000 in
theorem lifted (os : Os) (started : os.Started) (H : Type) (enc : TypeId × Value → H) :
    ReturnsInHanded {} Try.checked os 4 .any (Rows.fnFracSumSpec.pre6 enc Try.prog Try.f4 Rows.fnFracSumRow.domain false) (Rows.fnFracSumSpec.post enc Try.prog Try.f4 false true false false) := by
  refine returnsInHanded_of_change (C := Try.checked) own started (by kernel_rfl) Try.func4
    (ChangeSpec.witness6 (enc := enc) (C := Try.checked) false ⟨#[], #[.slice none 0 0], []⟩ 8 (by kernel_rfl) (by kernel_rfl) (by kernel_rfl) (by kernel_rfl)) ?_
  intro W base args ds gs before hval0 hW hcnd _
  have hval : ∀ (j : Nat) t v, Try.f4.params[j]? = some t → args[j]? = some v → Value.okWide Try.prog W .any base t v := hval0
  have hW' := hW
  obtain ⟨p, q, hA0, hV, rfl, hfz, hnd⟩ := hW
  have hA : DataW.TrodAll enc Try.prog W 0 (fun _ => true) true Try.f4.params.toList args.toList ds p := hA0
  rw [Try.params4] at hA hval
  obtain ⟨v0, vs0, d0, ds0, p0, q0, hargs, rfl, rfl, h0, r0⟩ := trodAll_cons hA
  obtain ⟨rfl, rfl, rfl⟩ := trodAll_nil r0
  obtain rfl : args = #[v0] := by cases args; simp_all
  obtain ⟨rfl, rfl⟩ := trodVars_none hV
  obtain ⟨a0, len0, cap0, rfl⟩ := okWide_slice Try.underlying22 (hval 0 22 v0 rfl rfl)
  have k0 := h0
  have lt0 : ∀ x ∈ p0, x.block < W.heap.size := by obtain ⟨m, hm⟩ := k0; exact DataW.trod_lt m _ _ _ hm
  obtain ⟨z0, w0⟩ : ∃ zs, IsRow .u8 W a0 len0 cap0 zs := by
    obtain ⟨fuel, hf⟩ := h0
    rcases open_ints Try.underlying22 Try.underlying5 (by kernel_rfl) hf with ⟨hcs, _⟩ | ⟨x, l, c, zs, hcs, _, hl, hm, hz, _, hcell, hwz⟩
    · simp [Value.cells] at hcs
      obtain ⟨rfl, rfl, rfl⟩ := hcs
      exact ⟨[], .inl ⟨rfl, rfl, rfl, rfl⟩⟩
    · simp [Value.cells] at hcs
      obtain ⟨rfl, rfl, rfl⟩ := hcs
      exact ⟨zs, .inr ⟨_, rfl, hl, hm, by simpa using hz, hcell, hwz⟩⟩
  clear hA0 hval0
  refine (walk a0 len0 cap0 z0 W w0).mono fun e W' ⟨he, bel⟩ => ?_
  subst he
  exact ⟨_, rfl, _, _, _, [], _, [], hW', trodAll_mk1 (shut_bool Try.underlying4 _), (trodAll_cons_mk (Below.trod laidOut (by kernel_rfl) (of_decide_eq_true (by kernel_rfl)) k0 bel lt0) trodAll_mk0), rfl, bel.frame _, fun h => by cases h⟩

theorem over : Rows.fnFracSumRow.holds Try.pinned (OpenSpec.ofChange Rows.fnFracSumSpec) :=
  OpenClaim.holds_of_wide 4 Try.f4 rfl rfl rfl rfl rfl rfl rfl ⟨rfl, rfl, rfl, rfl, rfl⟩ rfl rfl rfl rfl rfl (by kernel_rfl) Try.func4 (by kernel_rfl)
    (of_decide_eq_true (by kernel_rfl)) (by unfold Func.isWrapper; first | (rw [if_pos (by decide +kernel)]; kernel_rfl) | (rw [if_neg (by decide +kernel)]; exact ⟨rfl, rfl⟩))
    (fun os started H enc _ => lifted os started H enc)

/-- ████ THE STATEMENT ████ -/
theorem proved : Rows.FnFracSumSaid := over
#print axioms proved
end Go.Proofs.Ytkakdibfkdognaa.fnFracSum
