/-
  Of two fractions one is less, unless they are the same: the law FnFracCmp returns true for every two codes.
  Conditions: none but the statement's own. Proved: Rows.FnFracCmpSaid.
-/
import Derived.Test.YtkakdibfkdognaaRows
import Derived.WalkKit
import Derived.ProofKit
import Derived.OpenShut
import Derived.ShutString
import Derived.ChangeOld
import Derived.Below
import Derived.Test.YtkakdibfkdognaaFp
import Derived.Test.YtkakdibfkdognaaBase
import Derived.Test.YtkakdibfkdognaaField
import Derived.Test.YtkakdibfkdognaaSl
import Derived.Test.YtkakdibfkdognaaTri
import Derived.Test.YtkakdibfkdognaaFr
import Derived.Test.YtkakdibfkdognaaFrl
import Derived.Test.YtkakdibfkdognaaFrc
import Derived.Test.YtkakdibfkdognaaFrd
import Derived.Test.YtkakdibfkdognaaFre
import Derived.Test.YtkakdibfkdognaaFrf
import Derived.Test.YtkakdibfkdognaaDraw
import Derived.Test.YtkakdibfkdognaaFrg
namespace Go.Proofs.Ytkakdibfkdognaa.fnFracCmp
open Go.ChangeShapes Go.WideShapes Go.ChangeAt Go.RowKit
open Go.ChangeMaps (open_string shut_string)
set_option linter.unusedVariables false
set_option linter.unusedSimpArgs false

theorem own : ownKnob Try.prog.godebug = none := by kernel_rfl
theorem laidOut : laidOutB Try.prog = true := by kernel_rfl

set_option maxHeartbeats 1000000 in
set_option maxRecDepth 100000 in
theorem walk (a0 : Option Addr) (len0 cap0 : Nat) (z0 : List Int) (a1 : Option Addr) (len1 cap1 : Nat) (z1 : List Int) (w : World) (w0 : IsRow .u8 w a0 len0 cap0 z0) (w1 : IsRow .u8 w a1 len1 cap1 z1) :
    Calls Try.prog 5 #[.slice a0 len0 cap0, .slice a1 len1 cap1] w fun e w' => e = .returned (.bool true) ∧ Below w.heap.size w w' := by
  obtain ⟨c1, c2⟩ := w0.sizes
  obtain ⟨d1, d2⟩ := w1.sizes
  have Hb := Lib.hid (Bys.of_row w0)
  clear w0 w1
  by_cases hl : 1048576 < len0
  · go_enter Try.func5, Try.ntmps5
    go_wp2
    go_ret
    exact ⟨rfl, Below.refl _ _⟩
  by_cases hl1 : 1048576 < len1
  · go_enter Try.func5, Try.ntmps5
    go_wp2
    go_ret
    exact ⟨rfl, Below.refl _ _⟩
  have B := Lib.hid (Below.refl w.heap.size w)
  go_enter Try.func5, Try.ntmps5
  go_wp2_with fail
  refine (spec_DrawFracCmp a0 len0 cap0 w Hb.out c1 c2).mono ?_
  rintro e W1 ⟨a, b, c, d, rfl, b_d⟩
  have Z_W1 : w.heap.size ≤ W1.heap.size := b_d.size
  replace B := Lib.hid (B.out.trans (b_d.mono B.out.size))
  clear b_d
  clear c1 c2 d1 d2
  obtain ⟨W2, W3, hw_x, hw_y, zz_x, z_h, p_h⟩ := pair_box W1 (a) (b) (c) (d) 26
  have Z_W3 : W1.heap.size + 1 < W3.heap.size := by omega
  have b_h := p_h.bel
  have D_x := Lib.hid p_h.one
  have D_y := Lib.hid p_h.two
  replace B := Lib.hid (B.out.trans (b_h.mono B.out.size))
  clear b_h p_h z_h
  obtain ⟨k0_x, k1_x, -, -⟩ := duo_at D_x.out
  obtain ⟨k0_y, k1_y, -, -⟩ := duo_at D_y.out
  go_wp2_with fail
  clear k0_x k1_x
  clear k0_y k1_y
  clear hw_x hw_y zz_x
  refine (impl_FracCmp _ _ _ _ _).mono ?_
  rintro e W4 ⟨rfl, b_d⟩
  have Z_W4 : W3.heap.size ≤ W4.heap.size := b_d.size
  replace D_x := Lib.hid (Tri.below D_x.out b_d (by omega))
  replace D_y := Lib.hid (Tri.below D_y.out b_d (by omega))
  replace B := Lib.hid (B.out.trans (b_d.mono B.out.size))
  clear b_d
  obtain ⟨k0_x, k1_x, -, -⟩ := duo_at D_x.out
  obtain ⟨k0_y, k1_y, -, -⟩ := duo_at D_y.out
  go_wp2_with fail
  clear k0_x k1_x
  clear k0_y k1_y
  refine (spec_FracCmp _ _ _ _ _).mono ?_
  rintro e W5 ⟨rfl, b_d⟩
  have Z_W5 : W4.heap.size ≤ W5.heap.size := b_d.size
  replace D_x := Lib.hid (Tri.below D_x.out b_d (by omega))
  replace D_y := Lib.hid (Tri.below D_y.out b_d (by omega))
  replace B := Lib.hid (B.out.trans (b_d.mono B.out.size))
  clear b_d
  have m1 : (Fr.cmp a b c d != Fr.cmp a b c d) = false := by simp
  have m2 : (Fr.cmp a b c d == Fr.cmp a b c d) = true := by simp
  obtain ⟨k0_x, k1_x, -, -⟩ := duo_at D_x.out
  obtain ⟨k0_y, k1_y, -, -⟩ := duo_at D_y.out
  go_wp2_with fail
  clear k0_x k1_x
  clear k0_y k1_y
  refine (spec_FracOk a b _).mono ?_
  rintro e W6 ⟨rfl, b_d⟩
  have Z_W6 : W5.heap.size ≤ W6.heap.size := b_d.size
  replace D_x := Lib.hid (Tri.below D_x.out b_d (by omega))
  replace D_y := Lib.hid (Tri.below D_y.out b_d (by omega))
  replace B := Lib.hid (B.out.trans (b_d.mono B.out.size))
  clear b_d
  cases g1 : Fr.ok a b
  · skip
    obtain ⟨k0_x, k1_x, -, -⟩ := duo_at D_x.out
    obtain ⟨k0_y, k1_y, -, -⟩ := duo_at D_y.out
    go_wp2_with fail
    clear k0_x k1_x
    clear k0_y k1_y
    refine (spec_FracCmp _ _ _ _ _).mono ?_
    rintro e W7 ⟨rfl, b_d⟩
    have Z_W7 : W6.heap.size ≤ W7.heap.size := b_d.size
    replace D_x := Lib.hid (Tri.below D_x.out b_d (by omega))
    replace D_y := Lib.hid (Tri.below D_y.out b_d (by omega))
    replace B := Lib.hid (B.out.trans (b_d.mono B.out.size))
    clear b_d
    obtain ⟨k0_x, k1_x, -, -⟩ := duo_at D_x.out
    obtain ⟨k0_y, k1_y, -, -⟩ := duo_at D_y.out
    go_wp2_with fail
    clear k0_x k1_x
    clear k0_y k1_y
    go_ret
    exact ⟨rfl, B.out⟩
  · skip
    obtain ⟨k0_x, k1_x, -, -⟩ := duo_at D_x.out
    obtain ⟨k0_y, k1_y, -, -⟩ := duo_at D_y.out
    go_wp2_with fail
    clear k0_x k1_x
    clear k0_y k1_y
    refine (spec_FracOk c d _).mono ?_
    rintro e W8 ⟨rfl, b_d⟩
    have Z_W8 : W6.heap.size ≤ W8.heap.size := b_d.size
    replace D_x := Lib.hid (Tri.below D_x.out b_d (by omega))
    replace D_y := Lib.hid (Tri.below D_y.out b_d (by omega))
    replace B := Lib.hid (B.out.trans (b_d.mono B.out.size))
    clear b_d
    cases g2 : Fr.ok c d
    · skip
      obtain ⟨k0_x, k1_x, -, -⟩ := duo_at D_x.out
      obtain ⟨k0_y, k1_y, -, -⟩ := duo_at D_y.out
      go_wp2_with fail
      clear k0_x k1_x
      clear k0_y k1_y
      refine (spec_FracCmp _ _ _ _ _).mono ?_
      rintro e W9 ⟨rfl, b_d⟩
      have Z_W9 : W8.heap.size ≤ W9.heap.size := b_d.size
      replace D_x := Lib.hid (Tri.below D_x.out b_d (by omega))
      replace D_y := Lib.hid (Tri.below D_y.out b_d (by omega))
      replace B := Lib.hid (B.out.trans (b_d.mono B.out.size))
      clear b_d
      obtain ⟨k0_x, k1_x, -, -⟩ := duo_at D_x.out
      obtain ⟨k0_y, k1_y, -, -⟩ := duo_at D_y.out
      go_wp2_with fail
      clear k0_x k1_x
      clear k0_y k1_y
      go_ret
      exact ⟨rfl, B.out⟩
    · skip
      clear m1 m2
      obtain ⟨a, b, rfl, rfl, -, -, -, -⟩ := Fr.ok_nat g1
      obtain ⟨c, d, rfl, rfl, -, -, -, -⟩ := Fr.ok_nat g2
      have HZ := Lib.hid (Fr.c_zero_eq g1 g2)
      have HG := Lib.hid (Fr.c_neg g1 g2)
      obtain ⟨k, hk⟩ : ∃ k : Nat, (len1 : Int) % 5 = (k : Int) := ⟨len1 % 5, by omega⟩
      have k7 : k < 5 := by omega
      have HS := Lib.hid (fun hx hy => Fr.shift_i (k := k) g1 g2 hx hy)
      have HR := Lib.hid (Fr.c_range a b c d)
      obtain ⟨t1, t2, t3⟩ := Fr.of_int (k := k) (by omega)
      have T1 := Lib.hid t1
      have T2 := Lib.hid t2
      have T3 := Lib.hid t3
      clear t1 t2 t3 g1 g2
      obtain ⟨N, hN⟩ : ∃ N, Fr.cmp a b c d = N := ⟨_, rfl⟩
      rw [hN] at HZ HG HS HR ⊢
      have r0 : -1 ≤ N := by have := HR.out; omega
      have r1 : N ≤ 1 := by have := HR.out; omega
      clear hN HR
      obtain ⟨k0_x, k1_x, -, -⟩ := duo_at D_x.out
      obtain ⟨k0_y, k1_y, -, -⟩ := duo_at D_y.out
      go_wp2_with fail
      clear k0_x k1_x
      clear k0_y k1_y
      refine (impl_FracOf (k : Int) 1 _).mono ?_
      rintro e W10 ⟨rfl, b_d⟩
      have Z_W10 : W8.heap.size ≤ W10.heap.size := b_d.size
      replace D_x := Lib.hid (Tri.below D_x.out b_d (by omega))
      replace D_y := Lib.hid (Tri.below D_y.out b_d (by omega))
      replace B := Lib.hid (B.out.trans (b_d.mono B.out.size))
      clear b_d
      rw [T1.out, T2.out, T3.out]
      obtain ⟨W11, hw_z, z_h, b_h, t_h⟩ := duo_box W10 ((k : Int)) (1) 26
      have Z_W11 : W10.heap.size < W11.heap.size := by omega
      replace D_x := Lib.hid (Tri.below D_x.out b_h (by omega))
      replace D_y := Lib.hid (Tri.below D_y.out b_h (by omega))
      have D_z := Lib.hid t_h
      replace B := Lib.hid (B.out.trans (b_h.mono B.out.size))
      clear b_h t_h z_h
      obtain ⟨k0_x, k1_x, -, -⟩ := duo_at D_x.out
      obtain ⟨k0_y, k1_y, -, -⟩ := duo_at D_y.out
      obtain ⟨k0_z, k1_z, -, -⟩ := duo_at D_z.out
      go_wp2_with fail
      clear k0_x k1_x
      clear k0_y k1_y
      clear k0_z k1_z
      clear hw_z
      refine (impl_FracSum a b k 1 _).mono ?_
      rintro e W12 ⟨rfl, b_d⟩
      have Z_W12 : W11.heap.size ≤ W12.heap.size := b_d.size
      replace D_x := Lib.hid (Tri.below D_x.out b_d (by omega))
      replace D_y := Lib.hid (Tri.below D_y.out b_d (by omega))
      replace D_z := Lib.hid (Tri.below D_z.out b_d (by omega))
      replace B := Lib.hid (B.out.trans (b_d.mono B.out.size))
      clear b_d
      obtain ⟨W13, hw_u, z_h, b_h, t_h⟩ := duo_box W12 (Fr.sN a b k 1) (Fr.sD a b k 1) 26
      have Z_W13 : W12.heap.size < W13.heap.size := by omega
      replace D_x := Lib.hid (Tri.below D_x.out b_h (by omega))
      replace D_y := Lib.hid (Tri.below D_y.out b_h (by omega))
      replace D_z := Lib.hid (Tri.below D_z.out b_h (by omega))
      have D_u := Lib.hid t_h
      replace B := Lib.hid (B.out.trans (b_h.mono B.out.size))
      clear b_h t_h z_h
      obtain ⟨k0_x, k1_x, -, -⟩ := duo_at D_x.out
      obtain ⟨k0_y, k1_y, -, -⟩ := duo_at D_y.out
      obtain ⟨k0_z, k1_z, -, -⟩ := duo_at D_z.out
      obtain ⟨k0_u, k1_u, -, -⟩ := duo_at D_u.out
      go_wp2_with fail
      clear k0_x k1_x
      clear k0_y k1_y
      clear k0_z k1_z
      clear k0_u k1_u
      clear hw_u
      refine (impl_FracSum c d k 1 _).mono ?_
      rintro e W14 ⟨rfl, b_d⟩
      have Z_W14 : W13.heap.size ≤ W14.heap.size := b_d.size
      replace D_x := Lib.hid (Tri.below D_x.out b_d (by omega))
      replace D_y := Lib.hid (Tri.below D_y.out b_d (by omega))
      replace D_z := Lib.hid (Tri.below D_z.out b_d (by omega))
      replace D_u := Lib.hid (Tri.below D_u.out b_d (by omega))
      replace B := Lib.hid (B.out.trans (b_d.mono B.out.size))
      clear b_d
      obtain ⟨W15, hw_v, z_h, b_h, t_h⟩ := duo_box W14 (Fr.sN c d k 1) (Fr.sD c d k 1) 26
      have Z_W15 : W14.heap.size < W15.heap.size := by omega
      replace D_x := Lib.hid (Tri.below D_x.out b_h (by omega))
      replace D_y := Lib.hid (Tri.below D_y.out b_h (by omega))
      replace D_z := Lib.hid (Tri.below D_z.out b_h (by omega))
      replace D_u := Lib.hid (Tri.below D_u.out b_h (by omega))
      have D_v := Lib.hid t_h
      replace B := Lib.hid (B.out.trans (b_h.mono B.out.size))
      clear b_h t_h z_h
      obtain ⟨k0_x, k1_x, -, -⟩ := duo_at D_x.out
      obtain ⟨k0_y, k1_y, -, -⟩ := duo_at D_y.out
      obtain ⟨k0_z, k1_z, -, -⟩ := duo_at D_z.out
      obtain ⟨k0_u, k1_u, -, -⟩ := duo_at D_u.out
      obtain ⟨k0_v, k1_v, -, -⟩ := duo_at D_v.out
      go_wp2_with fail
      clear k0_x k1_x
      clear k0_y k1_y
      clear k0_z k1_z
      clear k0_u k1_u
      clear k0_v k1_v
      clear hw_v
      refine (impl_FracCmp c d a b _).mono ?_
      rintro e W16 ⟨rfl, b_d⟩
      have Z_W16 : W15.heap.size ≤ W16.heap.size := b_d.size
      replace D_x := Lib.hid (Tri.below D_x.out b_d (by omega))
      replace D_y := Lib.hid (Tri.below D_y.out b_d (by omega))
      replace D_z := Lib.hid (Tri.below D_z.out b_d (by omega))
      replace D_u := Lib.hid (Tri.below D_u.out b_d (by omega))
      replace D_v := Lib.hid (Tri.below D_v.out b_d (by omega))
      replace B := Lib.hid (B.out.trans (b_d.mono B.out.size))
      clear b_d
      rw [HG.out]
      have i1 : (-N == -N) = true := by simp
      have i2 : ((N == 0) == (N == 0)) = true := by simp
      have i3 : ∀ w : World, (binOp .eql 26 (.agg #[.int .i64 (a : Int), .int .i64 (b : Int)]) (.agg #[.int .i64 (c : Int), .int .i64 (d : Int)])).run Try.prog w = .ok (.bool (N == 0)) w := fun w => by rw [eq_impl_Frac, HZ.out]
      have i4 : (N == N) = true := by simp
      cases hx : Fr.sB a b k 1
      · skip
        obtain ⟨k0_x, k1_x, -, -⟩ := duo_at D_x.out
        obtain ⟨k0_y, k1_y, -, -⟩ := duo_at D_y.out
        obtain ⟨k0_z, k1_z, -, -⟩ := duo_at D_z.out
        obtain ⟨k0_u, k1_u, -, -⟩ := duo_at D_u.out
        obtain ⟨k0_v, k1_v, -, -⟩ := duo_at D_v.out
        go_wp2_with fail
        clear k0_x k1_x
        clear k0_y k1_y
        clear k0_z k1_z
        clear k0_u k1_u
        clear k0_v k1_v
        go_ret
        exact ⟨rfl, B.out⟩
      · skip
        cases hy : Fr.sB c d k 1
        · skip
          obtain ⟨k0_x, k1_x, -, -⟩ := duo_at D_x.out
          obtain ⟨k0_y, k1_y, -, -⟩ := duo_at D_y.out
          obtain ⟨k0_z, k1_z, -, -⟩ := duo_at D_z.out
          obtain ⟨k0_u, k1_u, -, -⟩ := duo_at D_u.out
          obtain ⟨k0_v, k1_v, -, -⟩ := duo_at D_v.out
          go_wp2_with fail
          clear k0_x k1_x
          clear k0_y k1_y
          clear k0_z k1_z
          clear k0_u k1_u
          clear k0_v k1_v
          go_ret
          exact ⟨rfl, B.out⟩
        · skip
          have HT := Lib.hid (HS.out hx hy)
          clear hx hy
          obtain ⟨k0_x, k1_x, -, -⟩ := duo_at D_x.out
          obtain ⟨k0_y, k1_y, -, -⟩ := duo_at D_y.out
          obtain ⟨k0_z, k1_z, -, -⟩ := duo_at D_z.out
          obtain ⟨k0_u, k1_u, -, -⟩ := duo_at D_u.out
          obtain ⟨k0_v, k1_v, -, -⟩ := duo_at D_v.out
          go_wp2_with fail
          clear k0_x k1_x
          clear k0_y k1_y
          clear k0_z k1_z
          clear k0_u k1_u
          clear k0_v k1_v
          refine (impl_FracCmp _ _ _ _ _).mono ?_
          rintro e W17 ⟨rfl, b_d⟩
          have Z_W17 : W16.heap.size ≤ W17.heap.size := b_d.size
          replace D_x := Lib.hid (Tri.below D_x.out b_d (by omega))
          replace D_y := Lib.hid (Tri.below D_y.out b_d (by omega))
          replace D_z := Lib.hid (Tri.below D_z.out b_d (by omega))
          replace D_u := Lib.hid (Tri.below D_u.out b_d (by omega))
          replace D_v := Lib.hid (Tri.below D_v.out b_d (by omega))
          replace B := Lib.hid (B.out.trans (b_d.mono B.out.size))
          clear b_d
          rw [HT.out]
          obtain ⟨k0_x, k1_x, -, -⟩ := duo_at D_x.out
          obtain ⟨k0_y, k1_y, -, -⟩ := duo_at D_y.out
          obtain ⟨k0_z, k1_z, -, -⟩ := duo_at D_z.out
          obtain ⟨k0_u, k1_u, -, -⟩ := duo_at D_u.out
          obtain ⟨k0_v, k1_v, -, -⟩ := duo_at D_v.out
          go_wp2_with fail
          clear k0_x k1_x
          clear k0_y k1_y
          clear k0_z k1_z
          clear k0_u k1_u
          clear k0_v k1_v
          go_ret
          exact ⟨rfl, B.out⟩

/-! ### THE ROW's STEP: WRITTEN OUT: LEAVE IT -/
set_option maxRecDepth 100000 in
theorem lifted (os : Os) (started : os.Started) (H : Type) (enc : TypeId × Value → H) :
    ReturnsInHanded {} Try.checked os 5 .any (Rows.fnFracCmpSpec.pre6 enc Try.prog Try.f5 Rows.fnFracCmpRow.domain false) (Rows.fnFracCmpSpec.post enc Try.prog Try.f5 false true false false) := by
  refine returnsInHanded_of_change (C := Try.checked) own started (by kernel_rfl) Try.func5
    (ChangeSpec.witness6 (enc := enc) (C := Try.checked) false ⟨#[], #[.slice none 0 0, .slice none 0 0], []⟩ 8 (by kernel_rfl) (by kernel_rfl) (by kernel_rfl) (by kernel_rfl)) ?_
  intro W base args ds gs before hval0 hW hcnd _
  have hval : ∀ (j : Nat) t v, Try.f5.params[j]? = some t → args[j]? = some v → Value.okWide Try.prog W .any base t v := hval0
  have hW' := hW
  obtain ⟨p, q, hA0, hV, rfl, hfz, hnd⟩ := hW
  have hA : DataW.TrodAll enc Try.prog W 0 (fun _ => true) true Try.f5.params.toList args.toList ds p := hA0
  rw [Try.params5] at hA hval
  obtain ⟨v0, vs0, d0, ds0, p0, q0, hargs, rfl, rfl, h0, r0⟩ := trodAll_cons hA
  obtain ⟨v1, vs1, d1, ds1, p1, q1, rfl, rfl, rfl, h1, r1⟩ := trodAll_cons r0
  obtain ⟨rfl, rfl, rfl⟩ := trodAll_nil r1
  obtain rfl : args = #[v0, v1] := by cases args; simp_all
  obtain ⟨rfl, rfl⟩ := trodVars_none hV
  obtain ⟨a0, len0, cap0, rfl⟩ := okWide_slice Try.underlying22 (hval 0 22 v0 rfl rfl)
  have k0 := h0
  have lt0 : ∀ x ∈ p0, x.block < W.heap.size := by obtain ⟨m, hm⟩ := k0; exact DataW.trod_lt m _ _ _ hm
  obtain ⟨z0, w0⟩ : ∃ zs, IsRow .u8 W a0 len0 cap0 zs := by
    obtain ⟨fuel, hf⟩ := h0
    rcases open_ints Try.underlying22 Try.underlying5 (by kernel_rfl) hf with ⟨hcs, _⟩ | ⟨x, l, c, zs, hcs, _, hl, hm, hz, _, hcell, hwz⟩
    · simp [Value.cells] at hcs
      obtain ⟨rfl, rfl, rfl⟩ := hcs
      exact ⟨[], .inl ⟨rfl, rfl, rfl, rfl⟩⟩
    · simp [Value.cells] at hcs
      obtain ⟨rfl, rfl, rfl⟩ := hcs
      exact ⟨zs, .inr ⟨_, rfl, hl, hm, by simpa using hz, hcell, hwz⟩⟩
  obtain ⟨a1, len1, cap1, rfl⟩ := okWide_slice Try.underlying22 (hval 1 22 v1 rfl rfl)
  have k1 := h1
  have lt1 : ∀ x ∈ p1, x.block < W.heap.size := by obtain ⟨m, hm⟩ := k1; exact DataW.trod_lt m _ _ _ hm
  obtain ⟨z1, w1⟩ : ∃ zs, IsRow .u8 W a1 len1 cap1 zs := by
    obtain ⟨fuel, hf⟩ := h1
    rcases open_ints Try.underlying22 Try.underlying5 (by kernel_rfl) hf with ⟨hcs, _⟩ | ⟨x, l, c, zs, hcs, _, hl, hm, hz, _, hcell, hwz⟩
    · simp [Value.cells] at hcs
      obtain ⟨rfl, rfl, rfl⟩ := hcs
      exact ⟨[], .inl ⟨rfl, rfl, rfl, rfl⟩⟩
    · simp [Value.cells] at hcs
      obtain ⟨rfl, rfl, rfl⟩ := hcs
      exact ⟨zs, .inr ⟨_, rfl, hl, hm, by simpa using hz, hcell, hwz⟩⟩
  clear hA0 hval0
  refine (walk a0 len0 cap0 z0 a1 len1 cap1 z1 W w0 w1).mono fun e W' ⟨he, bel⟩ => ?_
  subst he
  exact ⟨_, rfl, _, _, _, [], _, [], hW', trodAll_mk1 (shut_bool Try.underlying4 _), (trodAll_cons_mk (Below.trod laidOut (by kernel_rfl) (of_decide_eq_true (by kernel_rfl)) k0 bel lt0) (trodAll_cons_mk (Below.trod laidOut (by kernel_rfl) (of_decide_eq_true (by kernel_rfl)) k1 bel lt1) trodAll_mk0)), rfl, bel.frame _, fun h => by cases h⟩

theorem over : Rows.fnFracCmpRow.holds Try.pinned (OpenSpec.ofChange Rows.fnFracCmpSpec) :=
  OpenClaim.holds_of_wide 5 Try.f5 rfl rfl rfl rfl rfl rfl rfl ⟨rfl, rfl, rfl, rfl, rfl⟩ rfl rfl rfl rfl rfl (by kernel_rfl) Try.func5 (by kernel_rfl)
    (of_decide_eq_true (by kernel_rfl)) (by unfold Func.isWrapper; first | (rw [if_pos (by decide +kernel)]; kernel_rfl) | (rw [if_neg (by decide +kernel)]; exact ⟨rfl, rfl⟩))
    (fun os started H enc _ => lifted os started H enc)

/-- ████ THE STATEMENT ████ -/
theorem proved : Rows.FnFracCmpSaid := over
#print axioms proved
end Go.Proofs.Ytkakdibfkdognaa.fnFracCmp
