/-
  Of three fractions it does not matter which are put together first: the law FnFracThree returns true for every two codes.
  Conditions: none but the statement's own. Proved: Rows.FnFracThreeSaid.
-/
import Derived.Test.YtkakdibfkdognaaRows
import Derived.WalkKit
import Derived.ProofKit
import Derived.OpenShut
import Derived.ShutString
import Derived.ChangeOld
import Derived.Below
import Derived.Test.YtkakdibfkdognaaFp
import Derived.Test.YtkakdibfkdognaaBase
import Derived.Test.YtkakdibfkdognaaField
import Derived.Test.YtkakdibfkdognaaSl
import Derived.Test.YtkakdibfkdognaaTri
import Derived.Test.YtkakdibfkdognaaFr
import Derived.Test.YtkakdibfkdognaaFrl
import Derived.Test.YtkakdibfkdognaaFrc
import Derived.Test.YtkakdibfkdognaaFrd
import Derived.Test.YtkakdibfkdognaaFre
import Derived.Test.YtkakdibfkdognaaFrf
import Derived.Test.YtkakdibfkdognaaDraw
import Derived.Test.YtkakdibfkdognaaFrg
namespace Go.Proofs.Ytkakdibfkdognaa.fnFracThree
open Go.ChangeShapes Go.WideShapes Go.ChangeAt Go.RowKit
open Go.ChangeMaps (open_string shut_string)
set_option linter.unusedVariables false
set_option linter.unusedSimpArgs false

theorem own : ownKnob Try.prog.godebug = none := by kernel_rfl
theorem laidOut : laidOutB Try.prog = true := by kernel_rfl

set_option maxHeartbeats 1000000 in
set_option maxRecDepth 100000 in
theorem walk (a0 : Option Addr) (len0 cap0 : Nat) (z0 : List Int) (a1 : Option Addr) (len1 cap1 : Nat) (z1 : List Int) (w : World) (w0 : IsRow .u8 w a0 len0 cap0 z0) (w1 : IsRow .u8 w a1 len1 cap1 z1) :
    Calls Try.prog 7 #[.slice a0 len0 cap0, .slice a1 len1 cap1] w fun e w' => e = .returned (.bool true) ∧ Below w.heap.size w w' := by
  obtain ⟨c1, c2⟩ := w0.sizes
  obtain ⟨d1, d2⟩ := w1.sizes
  have Hb := Lib.hid (Bys.of_row w0)
  clear w0 w1
  by_cases hl : 1048576 < len0
  · go_enter Try.func7, Try.ntmps7
    go_wp2
    go_ret
    exact ⟨rfl, Below.refl _ _⟩
  by_cases hl1 : 1048576 < len1
  · go_enter Try.func7, Try.ntmps7
    go_wp2
    go_ret
    exact ⟨rfl, Below.refl _ _⟩
  have B := Lib.hid (Below.refl w.heap.size w)
  go_enter Try.func7, Try.ntmps7
  go_wp2_with fail
  refine (spec_DrawFracSum a0 len0 cap0 w Hb.out c1 c2).mono ?_
  rintro e W1 ⟨a, b, c, d, rfl, b_d⟩
  have Z_W1 : w.heap.size ≤ W1.heap.size := b_d.size
  replace B := Lib.hid (B.out.trans (b_d.mono B.out.size))
  clear b_d
  clear c1 c2
  obtain ⟨W2, W3, hw_x, hw_y, zz_x, z_h, p_h⟩ := pair_box W1 (a) (b) (c) (d) 26
  have Z_W3 : W1.heap.size + 1 < W3.heap.size := by omega
  have b_h := p_h.bel
  have D_x := Lib.hid p_h.one
  have D_y := Lib.hid p_h.two
  replace B := Lib.hid (B.out.trans (b_h.mono B.out.size))
  clear b_h p_h z_h
  obtain ⟨k0_x, k1_x, -, -⟩ := duo_at D_x.out
  obtain ⟨k0_y, k1_y, -, -⟩ := duo_at D_y.out
  go_wp2_with fail
  clear k0_x k1_x
  clear k0_y k1_y
  clear hw_x hw_y zz_x
  refine (spec_FracSum _ _ _ _ _).mono ?_
  rintro e W4 ⟨rfl, b_d⟩
  have Z_W4 : W3.heap.size ≤ W4.heap.size := b_d.size
  replace D_x := Lib.hid (Tri.below D_x.out b_d (by omega))
  replace D_y := Lib.hid (Tri.below D_y.out b_d (by omega))
  replace B := Lib.hid (B.out.trans (b_d.mono B.out.size))
  clear b_d
  obtain ⟨W5, hw_p, z_h, b_h, t_h⟩ := duo_box W4 (Fr.sN a b c d) (Fr.sD a b c d) 26
  have Z_W5 : W4.heap.size < W5.heap.size := by omega
  replace D_x := Lib.hid (Tri.below D_x.out b_h (by omega))
  replace D_y := Lib.hid (Tri.below D_y.out b_h (by omega))
  have D_p := Lib.hid t_h
  replace B := Lib.hid (B.out.trans (b_h.mono B.out.size))
  clear b_h t_h z_h
  obtain ⟨k0_x, k1_x, -, -⟩ := duo_at D_x.out
  obtain ⟨k0_y, k1_y, -, -⟩ := duo_at D_y.out
  obtain ⟨k0_p, k1_p, -, -⟩ := duo_at D_p.out
  go_wp2_with fail
  clear k0_x k1_x
  clear k0_y k1_y
  clear k0_p k1_p
  clear hw_p
  refine (impl_FracSum _ _ _ _ _).mono ?_
  rintro e W6 ⟨rfl, b_d⟩
  have Z_W6 : W5.heap.size ≤ W6.heap.size := b_d.size
  replace D_x := Lib.hid (Tri.below D_x.out b_d (by omega))
  replace D_y := Lib.hid (Tri.below D_y.out b_d (by omega))
  replace D_p := Lib.hid (Tri.below D_p.out b_d (by omega))
  replace B := Lib.hid (B.out.trans (b_d.mono B.out.size))
  clear b_d
  obtain ⟨W7, hw_q, z_h, b_h, t_h⟩ := duo_box W6 (Fr.sN a b c d) (Fr.sD a b c d) 26
  have Z_W7 : W6.heap.size < W7.heap.size := by omega
  replace D_x := Lib.hid (Tri.below D_x.out b_h (by omega))
  replace D_y := Lib.hid (Tri.below D_y.out b_h (by omega))
  replace D_p := Lib.hid (Tri.below D_p.out b_h (by omega))
  have D_q := Lib.hid t_h
  replace B := Lib.hid (B.out.trans (b_h.mono B.out.size))
  clear b_h t_h z_h
  have n1 := nes_impl_Frac (Fr.sN a b c d) (Fr.sD a b c d)
  have n2 := eqs_impl_Frac (Fr.sN a b c d) (Fr.sD a b c d)
  cases hb : Fr.sB a b c d
  · skip
    obtain ⟨k0_x, k1_x, -, -⟩ := duo_at D_x.out
    obtain ⟨k0_y, k1_y, -, -⟩ := duo_at D_y.out
    obtain ⟨k0_p, k1_p, -, -⟩ := duo_at D_p.out
    obtain ⟨k0_q, k1_q, -, -⟩ := duo_at D_q.out
    go_wp2_with fail
    clear k0_x k1_x
    clear k0_y k1_y
    clear k0_p k1_p
    clear k0_q k1_q
    clear hw_q
    go_ret
    exact ⟨rfl, B.out⟩
  · skip
    clear d1 d2
    obtain ⟨k, hk⟩ : ∃ k : Nat, (len1 : Int) % 7 = (k : Int) := ⟨len1 % 7, by omega⟩
    obtain ⟨j, hj⟩ : ∃ j : Nat, (len1 : Int) % 5 = (j : Int) := ⟨len1 % 5, by omega⟩
    have k7 : k < 7 := by omega
    have j5 : j < 5 := by omega
    obtain ⟨e, he⟩ : ∃ e, Fr.ofN (1 + (k : Int)) (1 + (j : Int)) = e := ⟨_, rfl⟩
    obtain ⟨f, hf⟩ : ∃ f, Fr.ofD (1 + (k : Int)) (1 + (j : Int)) = f := ⟨_, rfl⟩
    have C := impl_FracOf (1 + (k : Int)) (1 + (j : Int))
    rw [he, hf] at C
    have CC := Lib.hid C
    obtain ⟨u, hu⟩ : ∃ u, Fr.sN a b c d = u := ⟨_, rfl⟩
    obtain ⟨v, hv⟩ : ∃ v, Fr.sD a b c d = v := ⟨_, rfl⟩
    have HB := Lib.hid hb
    have HU := Lib.hid hu
    have HV := Lib.hid hv
    rw [hu, hv] at D_p D_q n1 n2 hw_q
    rw [hu, hv]
    clear hb hu hv C he hf
    obtain ⟨k0_x, k1_x, -, -⟩ := duo_at D_x.out
    obtain ⟨k0_y, k1_y, -, -⟩ := duo_at D_y.out
    obtain ⟨k0_p, k1_p, -, -⟩ := duo_at D_p.out
    obtain ⟨k0_q, k1_q, -, -⟩ := duo_at D_q.out
    go_wp2_with fail
    clear k0_x k1_x
    clear k0_y k1_y
    clear k0_p k1_p
    clear k0_q k1_q
    clear hw_q
    refine (CC.out _).mono ?_
    rintro e W8 ⟨rfl, b_d⟩
    have Z_W8 : W7.heap.size ≤ W8.heap.size := b_d.size
    replace D_x := Lib.hid (Tri.below D_x.out b_d (by omega))
    replace D_y := Lib.hid (Tri.below D_y.out b_d (by omega))
    replace D_p := Lib.hid (Tri.below D_p.out b_d (by omega))
    replace D_q := Lib.hid (Tri.below D_q.out b_d (by omega))
    replace B := Lib.hid (B.out.trans (b_d.mono B.out.size))
    clear b_d
    obtain ⟨W9, hw_c3, z_h, b_h, t_h⟩ := duo_box W8 (e) (f) 26
    have Z_W9 : W8.heap.size < W9.heap.size := by omega
    replace D_x := Lib.hid (Tri.below D_x.out b_h (by omega))
    replace D_y := Lib.hid (Tri.below D_y.out b_h (by omega))
    replace D_p := Lib.hid (Tri.below D_p.out b_h (by omega))
    replace D_q := Lib.hid (Tri.below D_q.out b_h (by omega))
    have D_c3 := Lib.hid t_h
    replace B := Lib.hid (B.out.trans (b_h.mono B.out.size))
    clear b_h t_h z_h
    obtain ⟨k0_x, k1_x, -, -⟩ := duo_at D_x.out
    obtain ⟨k0_y, k1_y, -, -⟩ := duo_at D_y.out
    obtain ⟨k0_p, k1_p, -, -⟩ := duo_at D_p.out
    obtain ⟨k0_q, k1_q, -, -⟩ := duo_at D_q.out
    obtain ⟨k0_c3, k1_c3, -, -⟩ := duo_at D_c3.out
    go_wp2_with fail
    clear k0_x k1_x
    clear k0_y k1_y
    clear k0_p k1_p
    clear k0_q k1_q
    clear k0_c3 k1_c3
    clear hw_c3
    refine (impl_FracSum u v e f _).mono ?_
    rintro e W10 ⟨rfl, b_d⟩
    have Z_W10 : W9.heap.size ≤ W10.heap.size := b_d.size
    replace D_x := Lib.hid (Tri.below D_x.out b_d (by omega))
    replace D_y := Lib.hid (Tri.below D_y.out b_d (by omega))
    replace D_p := Lib.hid (Tri.below D_p.out b_d (by omega))
    replace D_q := Lib.hid (Tri.below D_q.out b_d (by omega))
    replace D_c3 := Lib.hid (Tri.below D_c3.out b_d (by omega))
    replace B := Lib.hid (B.out.trans (b_d.mono B.out.size))
    clear b_d
    obtain ⟨W11, hw_x3, z_h, b_h, t_h⟩ := duo_box W10 (Fr.sN u v e f) (Fr.sD u v e f) 26
    have Z_W11 : W10.heap.size < W11.heap.size := by omega
    replace D_x := Lib.hid (Tri.below D_x.out b_h (by omega))
    replace D_y := Lib.hid (Tri.below D_y.out b_h (by omega))
    replace D_p := Lib.hid (Tri.below D_p.out b_h (by omega))
    replace D_q := Lib.hid (Tri.below D_q.out b_h (by omega))
    replace D_c3 := Lib.hid (Tri.below D_c3.out b_h (by omega))
    have D_x3 := Lib.hid t_h
    replace B := Lib.hid (B.out.trans (b_h.mono B.out.size))
    clear b_h t_h z_h
    obtain ⟨k0_x, k1_x, -, -⟩ := duo_at D_x.out
    obtain ⟨k0_y, k1_y, -, -⟩ := duo_at D_y.out
    obtain ⟨k0_p, k1_p, -, -⟩ := duo_at D_p.out
    obtain ⟨k0_q, k1_q, -, -⟩ := duo_at D_q.out
    obtain ⟨k0_c3, k1_c3, -, -⟩ := duo_at D_c3.out
    obtain ⟨k0_x3, k1_x3, -, -⟩ := duo_at D_x3.out
    go_wp2_with fail
    clear k0_x k1_x
    clear k0_y k1_y
    clear k0_p k1_p
    clear k0_q k1_q
    clear k0_c3 k1_c3
    clear k0_x3 k1_x3
    clear hw_x3
    refine (impl_FracSum c d e f _).mono ?_
    rintro e W12 ⟨rfl, b_d⟩
    have Z_W12 : W11.heap.size ≤ W12.heap.size := b_d.size
    replace D_x := Lib.hid (Tri.below D_x.out b_d (by omega))
    replace D_y := Lib.hid (Tri.below D_y.out b_d (by omega))
    replace D_p := Lib.hid (Tri.below D_p.out b_d (by omega))
    replace D_q := Lib.hid (Tri.below D_q.out b_d (by omega))
    replace D_c3 := Lib.hid (Tri.below D_c3.out b_d (by omega))
    replace D_x3 := Lib.hid (Tri.below D_x3.out b_d (by omega))
    replace B := Lib.hid (B.out.trans (b_d.mono B.out.size))
    clear b_d
    obtain ⟨W13, hw_y3, z_h, b_h, t_h⟩ := duo_box W12 (Fr.sN c d e f) (Fr.sD c d e f) 26
    have Z_W13 : W12.heap.size < W13.heap.size := by omega
    replace D_x := Lib.hid (Tri.below D_x.out b_h (by omega))
    replace D_y := Lib.hid (Tri.below D_y.out b_h (by omega))
    replace D_p := Lib.hid (Tri.below D_p.out b_h (by omega))
    replace D_q := Lib.hid (Tri.below D_q.out b_h (by omega))
    replace D_c3 := Lib.hid (Tri.below D_c3.out b_h (by omega))
    replace D_x3 := Lib.hid (Tri.below D_x3.out b_h (by omega))
    have D_y3 := Lib.hid t_h
    replace B := Lib.hid (B.out.trans (b_h.mono B.out.size))
    clear b_h t_h z_h
    obtain ⟨k0_x, k1_x, -, -⟩ := duo_at D_x.out
    obtain ⟨k0_y, k1_y, -, -⟩ := duo_at D_y.out
    obtain ⟨k0_p, k1_p, -, -⟩ := duo_at D_p.out
    obtain ⟨k0_q, k1_q, -, -⟩ := duo_at D_q.out
    obtain ⟨k0_c3, k1_c3, -, -⟩ := duo_at D_c3.out
    obtain ⟨k0_x3, k1_x3, -, -⟩ := duo_at D_x3.out
    obtain ⟨k0_y3, k1_y3, -, -⟩ := duo_at D_y3.out
    go_wp2_with fail
    clear k0_x k1_x
    clear k0_y k1_y
    clear k0_p k1_p
    clear k0_q k1_q
    clear k0_c3 k1_c3
    clear k0_x3 k1_x3
    clear k0_y3 k1_y3
    clear hw_y3
    refine (impl_FracSum a b (Fr.sN c d e f) (Fr.sD c d e f) _).mono ?_
    rintro e W14 ⟨rfl, b_d⟩
    have Z_W14 : W13.heap.size ≤ W14.heap.size := b_d.size
    replace D_x := Lib.hid (Tri.below D_x.out b_d (by omega))
    replace D_y := Lib.hid (Tri.below D_y.out b_d (by omega))
    replace D_p := Lib.hid (Tri.below D_p.out b_d (by omega))
    replace D_q := Lib.hid (Tri.below D_q.out b_d (by omega))
    replace D_c3 := Lib.hid (Tri.below D_c3.out b_d (by omega))
    replace D_x3 := Lib.hid (Tri.below D_x3.out b_d (by omega))
    replace D_y3 := Lib.hid (Tri.below D_y3.out b_d (by omega))
    replace B := Lib.hid (B.out.trans (b_d.mono B.out.size))
    clear b_d
    obtain ⟨W15, hw_z3, z_h, b_h, t_h⟩ := duo_box W14 (Fr.sN a b (Fr.sN c d e f) (Fr.sD c d e f)) (Fr.sD a b (Fr.sN c d e f) (Fr.sD c d e f)) 26
    have Z_W15 : W14.heap.size < W15.heap.size := by omega
    replace D_x := Lib.hid (Tri.below D_x.out b_h (by omega))
    replace D_y := Lib.hid (Tri.below D_y.out b_h (by omega))
    replace D_p := Lib.hid (Tri.below D_p.out b_h (by omega))
    replace D_q := Lib.hid (Tri.below D_q.out b_h (by omega))
    replace D_c3 := Lib.hid (Tri.below D_c3.out b_h (by omega))
    replace D_x3 := Lib.hid (Tri.below D_x3.out b_h (by omega))
    replace D_y3 := Lib.hid (Tri.below D_y3.out b_h (by omega))
    have D_z3 := Lib.hid t_h
    replace B := Lib.hid (B.out.trans (b_h.mono B.out.size))
    clear b_h t_h z_h
    cases h2 : Fr.sB u v e f
    · skip
      obtain ⟨k0_x, k1_x, -, -⟩ := duo_at D_x.out
      obtain ⟨k0_y, k1_y, -, -⟩ := duo_at D_y.out
      obtain ⟨k0_p, k1_p, -, -⟩ := duo_at D_p.out
      obtain ⟨k0_q, k1_q, -, -⟩ := duo_at D_q.out
      obtain ⟨k0_c3, k1_c3, -, -⟩ := duo_at D_c3.out
      obtain ⟨k0_x3, k1_x3, -, -⟩ := duo_at D_x3.out
      obtain ⟨k0_y3, k1_y3, -, -⟩ := duo_at D_y3.out
      obtain ⟨k0_z3, k1_z3, -, -⟩ := duo_at D_z3.out
      go_wp2_with fail
      clear k0_x k1_x
      clear k0_y k1_y
      clear k0_p k1_p
      clear k0_q k1_q
      clear k0_c3 k1_c3
      clear k0_x3 k1_x3
      clear k0_y3 k1_y3
      clear k0_z3 k1_z3
      clear hw_z3
      go_ret
      exact ⟨rfl, B.out⟩
    · skip
      cases h3 : Fr.sB c d e f
      · skip
        obtain ⟨k0_x, k1_x, -, -⟩ := duo_at D_x.out
        obtain ⟨k0_y, k1_y, -, -⟩ := duo_at D_y.out
        obtain ⟨k0_p, k1_p, -, -⟩ := duo_at D_p.out
        obtain ⟨k0_q, k1_q, -, -⟩ := duo_at D_q.out
        obtain ⟨k0_c3, k1_c3, -, -⟩ := duo_at D_c3.out
        obtain ⟨k0_x3, k1_x3, -, -⟩ := duo_at D_x3.out
        obtain ⟨k0_y3, k1_y3, -, -⟩ := duo_at D_y3.out
        obtain ⟨k0_z3, k1_z3, -, -⟩ := duo_at D_z3.out
        go_wp2_with fail
        clear k0_x k1_x
        clear k0_y k1_y
        clear k0_p k1_p
        clear k0_q k1_q
        clear k0_c3 k1_c3
        clear k0_x3 k1_x3
        clear k0_y3 k1_y3
        clear k0_z3 k1_z3
        clear hw_z3
        go_ret
        exact ⟨rfl, B.out⟩
      · skip
        cases h4 : Fr.sB a b (Fr.sN c d e f) (Fr.sD c d e f)
        · skip
          obtain ⟨k0_x, k1_x, -, -⟩ := duo_at D_x.out
          obtain ⟨k0_y, k1_y, -, -⟩ := duo_at D_y.out
          obtain ⟨k0_p, k1_p, -, -⟩ := duo_at D_p.out
          obtain ⟨k0_q, k1_q, -, -⟩ := duo_at D_q.out
          obtain ⟨k0_c3, k1_c3, -, -⟩ := duo_at D_c3.out
          obtain ⟨k0_x3, k1_x3, -, -⟩ := duo_at D_x3.out
          obtain ⟨k0_y3, k1_y3, -, -⟩ := duo_at D_y3.out
          obtain ⟨k0_z3, k1_z3, -, -⟩ := duo_at D_z3.out
          go_wp2_with fail
          clear k0_x k1_x
          clear k0_y k1_y
          clear k0_p k1_p
          clear k0_q k1_q
          clear k0_c3 k1_c3
          clear k0_x3 k1_x3
          clear k0_y3 k1_y3
          clear k0_z3 k1_z3
          clear hw_z3
          go_ret
          exact ⟨rfl, B.out⟩
        · skip
          obtain ⟨t1, t2⟩ := Fr.three_same HB.out HU.out HV.out h2 h3 rfl rfl h4 rfl rfl rfl rfl
          have n3 : ∀ w : World, (binOp .eql 26 (.agg #[.int .i64 (Fr.sN u v e f), .int .i64 (Fr.sD u v e f)]) (.agg #[.int .i64 (Fr.sN a b (Fr.sN c d e f) (Fr.sD c d e f)), .int .i64 (Fr.sD a b (Fr.sN c d e f) (Fr.sD c d e f))])).run Try.prog w = .ok (.bool true) w := fun w => by rw [t1, t2]; exact eqs_impl_Frac _ _ w
          clear h2 h3 h4 t1 t2
          obtain ⟨k0_x, k1_x, -, -⟩ := duo_at D_x.out
          obtain ⟨k0_y, k1_y, -, -⟩ := duo_at D_y.out
          obtain ⟨k0_p, k1_p, -, -⟩ := duo_at D_p.out
          obtain ⟨k0_q, k1_q, -, -⟩ := duo_at D_q.out
          obtain ⟨k0_c3, k1_c3, -, -⟩ := duo_at D_c3.out
          obtain ⟨k0_x3, k1_x3, -, -⟩ := duo_at D_x3.out
          obtain ⟨k0_y3, k1_y3, -, -⟩ := duo_at D_y3.out
          obtain ⟨k0_z3, k1_z3, -, -⟩ := duo_at D_z3.out
          go_wp2_with fail
          clear k0_x k1_x
          clear k0_y k1_y
          clear k0_p k1_p
          clear k0_q k1_q
          clear k0_c3 k1_c3
          clear k0_x3 k1_x3
          clear k0_y3 k1_y3
          clear k0_z3 k1_z3
          clear hw_z3
          go_ret
          exact ⟨rfl, B.out⟩

/-! ### THE ROW's STEP: WRITTEN OUT: LEAVE IT -/
set_option maxRecDepth 100000 in
theorem lifted (os : Os) (started : os.Started) (H : Type) (enc : TypeId × Value → H) :
    ReturnsInHanded {} Try.checked os 7 .any (Rows.fnFracThreeSpec.pre6 enc Try.prog Try.f7 Rows.fnFracThreeRow.domain false) (Rows.fnFracThreeSpec.post enc Try.prog Try.f7 false true false false) := by
  refine returnsInHanded_of_change (C := Try.checked) own started (by kernel_rfl) Try.func7
    (ChangeSpec.witness6 (enc := enc) (C := Try.checked) false ⟨#[], #[.slice none 0 0, .slice none 0 0], []⟩ 8 (by kernel_rfl) (by kernel_rfl) (by kernel_rfl) (by kernel_rfl)) ?_
  intro W base args ds gs before hval0 hW hcnd _
  have hval : ∀ (j : Nat) t v, Try.f7.params[j]? = some t → args[j]? = some v → Value.okWide Try.prog W .any base t v := hval0
  have hW' := hW
  obtain ⟨p, q, hA0, hV, rfl, hfz, hnd⟩ := hW
  have hA : DataW.TrodAll enc Try.prog W 0 (fun _ => true) true Try.f7.params.toList args.toList ds p := hA0
  rw [Try.params7] at hA hval
  obtain ⟨v0, vs0, d0, ds0, p0, q0, hargs, rfl, rfl, h0, r0⟩ := trodAll_cons hA
  obtain ⟨v1, vs1, d1, ds1, p1, q1, rfl, rfl, rfl, h1, r1⟩ := trodAll_cons r0
  obtain ⟨rfl, rfl, rfl⟩ := trodAll_nil r1
  obtain rfl : args = #[v0, v1] := by cases args; simp_all
  obtain ⟨rfl, rfl⟩ := trodVars_none hV
  obtain ⟨a0, len0, cap0, rfl⟩ := okWide_slice Try.underlying22 (hval 0 22 v0 rfl rfl)
  have k0 := h0
  have lt0 : ∀ x ∈ p0, x.block < W.heap.size := by obtain ⟨m, hm⟩ := k0; exact DataW.trod_lt m _ _ _ hm
  obtain ⟨z0, w0⟩ : ∃ zs, IsRow .u8 W a0 len0 cap0 zs := by
    obtain ⟨fuel, hf⟩ := h0
    rcases open_ints Try.underlying22 Try.underlying5 (by kernel_rfl) hf with ⟨hcs, _⟩ | ⟨x, l, c, zs, hcs, _, hl, hm, hz, _, hcell, hwz⟩
    · simp [Value.cells] at hcs
      obtain ⟨rfl, rfl, rfl⟩ := hcs
      exact ⟨[], .inl ⟨rfl, rfl, rfl, rfl⟩⟩
    · simp [Value.cells] at hcs
      obtain ⟨rfl, rfl, rfl⟩ := hcs
      exact ⟨zs, .inr ⟨_, rfl, hl, hm, by simpa using hz, hcell, hwz⟩⟩
  obtain ⟨a1, len1, cap1, rfl⟩ := okWide_slice Try.underlying22 (hval 1 22 v1 rfl rfl)
  have k1 := h1
  have lt1 : ∀ x ∈ p1, x.block < W.heap.size := by obtain ⟨m, hm⟩ := k1; exact DataW.trod_lt m _ _ _ hm
  obtain ⟨z1, w1⟩ : ∃ zs, IsRow .u8 W a1 len1 cap1 zs := by
    obtain ⟨fuel, hf⟩ := h1
    rcases open_ints Try.underlying22 Try.underlying5 (by kernel_rfl) hf with ⟨hcs, _⟩ | ⟨x, l, c, zs, hcs, _, hl, hm, hz, _, hcell, hwz⟩
    · simp [Value.cells] at hcs
      obtain ⟨rfl, rfl, rfl⟩ := hcs
      exact ⟨[], .inl ⟨rfl, rfl, rfl, rfl⟩⟩
    · simp [Value.cells] at hcs
      obtain ⟨rfl, rfl, rfl⟩ := hcs
      exact ⟨zs, .inr ⟨_, rfl, hl, hm, by simpa using hz, hcell, hwz⟩⟩
  clear hA0 hval0
  refine (walk a0 len0 cap0 z0 a1 len1 cap1 z1 W w0 w1).mono fun e W' ⟨he, bel⟩ => ?_
  subst he
  exact ⟨_, rfl, _, _, _, [], _, [], hW', trodAll_mk1 (shut_bool Try.underlying4 _), (trodAll_cons_mk (Below.trod laidOut (by kernel_rfl) (of_decide_eq_true (by kernel_rfl)) k0 bel lt0) (trodAll_cons_mk (Below.trod laidOut (by kernel_rfl) (of_decide_eq_true (by kernel_rfl)) k1 bel lt1) trodAll_mk0)), rfl, bel.frame _, fun h => by cases h⟩

theorem over : Rows.fnFracThreeRow.holds Try.pinned (OpenSpec.ofChange Rows.fnFracThreeSpec) :=
  OpenClaim.holds_of_wide 7 Try.f7 rfl rfl rfl rfl rfl rfl rfl ⟨rfl, rfl, rfl, rfl, rfl⟩ rfl rfl rfl rfl rfl (by kernel_rfl) Try.func7 (by kernel_rfl)
    (of_decide_eq_true (by kernel_rfl)) (by unfold Func.isWrapper; first | (rw [if_pos (by decide +kernel)]; kernel_rfl) | (rw [if_neg (by decide +kernel)]; exact ⟨rfl, rfl⟩))
    (fun os started H enc _ => lifted os started H enc)

/-- ████ THE STATEMENT ████ -/
theorem proved : Rows.FnFracThreeSaid := over
#print axioms proved
end Go.Proofs.Ytkakdibfkdognaa.fnFracThree
