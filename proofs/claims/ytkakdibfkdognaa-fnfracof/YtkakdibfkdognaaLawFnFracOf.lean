/-
  A fraction is as short as can be: the law FnFracOf returns true for every two codes.
  Conditions: none but the statement's own. Proved: Rows.FnFracOfSaid.
-/
import Derived.Test.YtkakdibfkdognaaRows
import Derived.WalkKit
import Derived.ProofKit
import Derived.OpenShut
import Derived.ShutString
import Derived.ChangeOld
import Derived.Below
import Derived.Test.YtkakdibfkdognaaFp
import Derived.Test.YtkakdibfkdognaaBase
import Derived.Test.YtkakdibfkdognaaField
import Derived.Test.YtkakdibfkdognaaSl
import Derived.Test.YtkakdibfkdognaaTri
import Derived.Test.YtkakdibfkdognaaFr
import Derived.Test.YtkakdibfkdognaaFrl
import Derived.Test.YtkakdibfkdognaaFrc
import Derived.Test.YtkakdibfkdognaaFrd
import Derived.Test.YtkakdibfkdognaaFre
import Derived.Test.YtkakdibfkdognaaFrf
import Derived.Test.YtkakdibfkdognaaDraw
import Derived.Test.YtkakdibfkdognaaFrg
namespace Go.Proofs.Ytkakdibfkdognaa.fnFracOf
open Go.ChangeShapes Go.WideShapes Go.ChangeAt Go.RowKit
open Go.ChangeMaps (open_string shut_string)
set_option linter.unusedVariables false
set_option linter.unusedSimpArgs false

theorem own : ownKnob Try.prog.godebug = none := by kernel_rfl
theorem laidOut : laidOutB Try.prog = true := by kernel_rfl

set_option maxHeartbeats 1000000 in
set_option maxRecDepth 100000 in
theorem walk (a0 : Option Addr) (len0 cap0 : Nat) (z0 : List Int) (a1 : Option Addr) (len1 cap1 : Nat) (z1 : List Int) (w : World) (w0 : IsRow .u8 w a0 len0 cap0 z0) (w1 : IsRow .u8 w a1 len1 cap1 z1) :
    Calls Try.prog 3 #[.slice a0 len0 cap0, .slice a1 len1 cap1] w fun e w' => e = .returned (.bool true) ∧ Below w.heap.size w w' := by
  obtain ⟨c1, c2⟩ := w0.sizes
  obtain ⟨d1, d2⟩ := w1.sizes
  have Hb := Lib.hid (Bys.of_row w0)
  clear w0 w1
  by_cases hl : 1048576 < len0
  · go_enter Try.func3, Try.ntmps3
    go_wp2
    go_ret
    exact ⟨rfl, Below.refl _ _⟩
  by_cases hl1 : 1048576 < len1
  · go_enter Try.func3, Try.ntmps3
    go_wp2
    go_ret
    exact ⟨rfl, Below.refl _ _⟩
  have B := Lib.hid (Below.refl w.heap.size w)
  go_enter Try.func3, Try.ntmps3
  go_wp2_with fail
  refine (spec_DrawFracOf a0 len0 cap0 w Hb.out c1 c2).mono ?_
  rintro e W1 ⟨x, y, x1, x2, y1, y2, rfl, b_d⟩
  have Z_W1 : w.heap.size ≤ W1.heap.size := b_d.size
  replace B := Lib.hid (B.out.trans (b_d.mono B.out.size))
  clear b_d
  clear c1 c2 d1 d2
  go_wp2_with fail
  refine (spec_FracOf _ _ _).mono ?_
  rintro e W2 ⟨rfl, b_d⟩
  have Z_W2 : W1.heap.size ≤ W2.heap.size := b_d.size
  replace B := Lib.hid (B.out.trans (b_d.mono B.out.size))
  clear b_d
  obtain ⟨W3, hw_p, z_h, b_h, t_h⟩ := duo_box W2 (Fr.ofN x y) (Fr.ofD x y) 26
  have Z_W3 : W2.heap.size < W3.heap.size := by omega
  have D_p := Lib.hid t_h
  replace B := Lib.hid (B.out.trans (b_h.mono B.out.size))
  clear b_h t_h z_h
  obtain ⟨k0_p, k1_p, -, -⟩ := duo_at D_p.out
  go_wp2_with fail
  clear k0_p k1_p
  clear hw_p
  refine (impl_FracOf _ _ _).mono ?_
  rintro e W4 ⟨rfl, b_d⟩
  have Z_W4 : W3.heap.size ≤ W4.heap.size := b_d.size
  replace D_p := Lib.hid (Tri.below D_p.out b_d (by omega))
  replace B := Lib.hid (B.out.trans (b_d.mono B.out.size))
  clear b_d
  obtain ⟨W5, hw_q, z_h, b_h, t_h⟩ := duo_box W4 (Fr.ofN x y) (Fr.ofD x y) 26
  have Z_W5 : W4.heap.size < W5.heap.size := by omega
  replace D_p := Lib.hid (Tri.below D_p.out b_h (by omega))
  have D_q := Lib.hid t_h
  replace B := Lib.hid (B.out.trans (b_h.mono B.out.size))
  clear b_h t_h z_h
  have n1 := nes_impl_Frac (Fr.ofN x y) (Fr.ofD x y)
  have n2 := eqs_impl_Frac (Fr.ofN x y) (Fr.ofD x y)
  cases hb : Fr.ofB x y
  · skip
    obtain ⟨k0_p, k1_p, -, -⟩ := duo_at D_p.out
    obtain ⟨k0_q, k1_q, -, -⟩ := duo_at D_q.out
    go_wp2_with fail
    clear k0_p k1_p
    clear k0_q k1_q
    clear hw_q
    go_ret
    exact ⟨rfl, B.out⟩
  · skip
    clear n2
    obtain ⟨a, b, rfl, rfl, hb0⟩ := Fr.of_nats hb
    obtain ⟨-, -, -, u, v, e1, e2, h3, h4⟩ := Fr.of_get hb
    obtain ⟨i1, i2, i3⟩ := Fr.ok_bd h3
    obtain ⟨j, hj⟩ : ∃ j : Nat, (len1 : Int) % 20 = (j : Int) := ⟨len1 % 20, by omega⟩
    have j20 : j < 20 := by omega
    obtain ⟨t1, t2, t3⟩ := Fr.of_times' (j := j) hb (by omega) (by omega) j20
    rw [e1] at t2
    rw [e2] at t3
    rw [e1, e2] at D_p D_q hw_q n1
    rw [e1, e2]
    have T1 := Lib.hid t1
    have T2 := Lib.hid t2
    have T3 := Lib.hid t3
    have HK := Lib.hid h3
    have X : ((u : Int) * (b : Int) == (a : Int) * (v : Int)) = true := beqT (by exact_mod_cast h4)
    obtain ⟨p0, p1⟩ := Fr.prod_bd (a := u) (b := b) (A := 999) (B := 59) i1 (by omega)
    obtain ⟨p2, p3⟩ := Fr.prod_bd (a := a) (b := v) (A := 59) (B := 60) (by omega) i3
    obtain ⟨p4, p5⟩ := Fr.prod_bd (a := a) (b := 1 + j) (A := 59) (B := 20) (by omega) (by omega)
    obtain ⟨p6, p7⟩ := Fr.prod_bd (a := b) (b := 1 + j) (A := 59) (B := 20) (by omega) (by omega)
    rw [show (((1 + j : Nat)) : Int) = 1 + (j : Int) by push_cast; rfl] at p4 p5 p6 p7
    clear hb e1 e2 t1 t2 t3 h3 h4 x1 x2 y1 y2
    obtain ⟨k0_p, k1_p, -, -⟩ := duo_at D_p.out
    obtain ⟨k0_q, k1_q, -, -⟩ := duo_at D_q.out
    go_wp2_with fail
    clear k0_p k1_p
    clear k0_q k1_q
    clear hw_q
    refine (impl_FracOf ((a : Int) * (1 + (j : Int))) ((b : Int) * (1 + (j : Int))) _).mono ?_
    rintro e W6 ⟨rfl, b_d⟩
    have Z_W6 : W5.heap.size ≤ W6.heap.size := b_d.size
    replace D_p := Lib.hid (Tri.below D_p.out b_d (by omega))
    replace D_q := Lib.hid (Tri.below D_q.out b_d (by omega))
    replace B := Lib.hid (B.out.trans (b_d.mono B.out.size))
    clear b_d
    rw [T1.out, T2.out, T3.out]
    obtain ⟨W7, hw_g, z_h, b_h, t_h⟩ := duo_box W6 (u) (v) 26
    have Z_W7 : W6.heap.size < W7.heap.size := by omega
    replace D_p := Lib.hid (Tri.below D_p.out b_h (by omega))
    replace D_q := Lib.hid (Tri.below D_q.out b_h (by omega))
    have D_g := Lib.hid t_h
    replace B := Lib.hid (B.out.trans (b_h.mono B.out.size))
    clear b_h t_h z_h
    clear p4 p5 p6 p7 T1 T2 T3 n1
    obtain ⟨k0_p, k1_p, -, -⟩ := duo_at D_p.out
    obtain ⟨k0_q, k1_q, -, -⟩ := duo_at D_q.out
    obtain ⟨k0_g, k1_g, -, -⟩ := duo_at D_g.out
    go_wp2_with fail
    clear k0_p k1_p
    clear k0_q k1_q
    clear k0_g k1_g
    clear hw_g
    obtain ⟨k0, k1, -, -⟩ := duo_at D_q.out
    clear hj
    go_loop [14] (fun i => ∃ d : Nat, 2 ≤ d ∧ d ≤ v + 2 ∧ i = .int .i64 (d : Int)) (fun i => (62 - intOf i).toNat)
    case atStart => exact ⟨2, by omega, by omega, rfl⟩
    case round =>
      obtain ⟨d, hd, hd2, rfl⟩ := hrel
      by_cases hlt : d ≤ v
      · by_cases m1 : u % d = 0
        · have m2 : ¬ v % d = 0 := fun h => Fr.none_both HK.out hd m1 h
          have r1 : ((u : Int) % (d : Int) == 0) = true := beqT (by omega)
          have r2 : ((v : Int) % (d : Int) == 0) = false := beqF (by omega)
          clear m1 m2
          go_wp2
          go_round
          case rel => exact ⟨d + 1, by omega, by omega, by go_num⟩
          case measure => simp [intOf]; omega
        · have r1 : ((u : Int) % (d : Int) == 0) = false := beqF (by omega)
          clear m1
          go_wp2
          go_round
          case rel => exact ⟨d + 1, by omega, by omega, by go_num⟩
          case measure => simp [intOf]; omega
      · have n2 := eqs_impl_Frac u v
        clear k0 k1
        obtain ⟨k0_p, k1_p, -, -⟩ := duo_at D_p.out
        obtain ⟨k0_q, k1_q, -, -⟩ := duo_at D_q.out
        obtain ⟨k0_g, k1_g, -, -⟩ := duo_at D_g.out
        go_wp2_with fail
        clear k0_p k1_p
        clear k0_q k1_q
        clear k0_g k1_g
        refine (impl_FracOk u v _).mono ?_
        rintro e W8 ⟨rfl, b_d⟩
        have Z_W8 : W7.heap.size ≤ W8.heap.size := b_d.size
        replace D_p := Lib.hid (Tri.below D_p.out b_d (by omega))
        replace D_q := Lib.hid (Tri.below D_q.out b_d (by omega))
        replace D_g := Lib.hid (Tri.below D_g.out b_d (by omega))
        replace B := Lib.hid (B.out.trans (b_d.mono B.out.size))
        clear b_d
        rw [HK.out]
        obtain ⟨k0_p, k1_p, -, -⟩ := duo_at D_p.out
        obtain ⟨k0_q, k1_q, -, -⟩ := duo_at D_q.out
        obtain ⟨k0_g, k1_g, -, -⟩ := duo_at D_g.out
        go_wp2_with fail
        clear k0_p k1_p
        clear k0_q k1_q
        clear k0_g k1_g
        go_ret
        exact ⟨rfl, B.out⟩

/-! ### THE ROW's STEP: WRITTEN OUT: LEAVE IT -/
set_option maxRecDepth 100000 in
theorem lifted (os : Os) (started : os.Started) (H : Type) (enc : TypeId × Value → H) :
    ReturnsInHanded {} Try.checked os 3 .any (Rows.fnFracOfSpec.pre6 enc Try.prog Try.f3 Rows.fnFracOfRow.domain false) (Rows.fnFracOfSpec.post enc Try.prog Try.f3 false true false false) := by
  refine returnsInHanded_of_change (C := Try.checked) own started (by kernel_rfl) Try.func3
    (ChangeSpec.witness6 (enc := enc) (C := Try.checked) false ⟨#[], #[.slice none 0 0, .slice none 0 0], []⟩ 8 (by kernel_rfl) (by kernel_rfl) (by kernel_rfl) (by kernel_rfl)) ?_
  intro W base args ds gs before hval0 hW hcnd _
  have hval : ∀ (j : Nat) t v, Try.f3.params[j]? = some t → args[j]? = some v → Value.okWide Try.prog W .any base t v := hval0
  have hW' := hW
  obtain ⟨p, q, hA0, hV, rfl, hfz, hnd⟩ := hW
  have hA : DataW.TrodAll enc Try.prog W 0 (fun _ => true) true Try.f3.params.toList args.toList ds p := hA0
  rw [Try.params3] at hA hval
  obtain ⟨v0, vs0, d0, ds0, p0, q0, hargs, rfl, rfl, h0, r0⟩ := trodAll_cons hA
  obtain ⟨v1, vs1, d1, ds1, p1, q1, rfl, rfl, rfl, h1, r1⟩ := trodAll_cons r0
  obtain ⟨rfl, rfl, rfl⟩ := trodAll_nil r1
  obtain rfl : args = #[v0, v1] := by cases args; simp_all
  obtain ⟨rfl, rfl⟩ := trodVars_none hV
  obtain ⟨a0, len0, cap0, rfl⟩ := okWide_slice Try.underlying22 (hval 0 22 v0 rfl rfl)
  have k0 := h0
  have lt0 : ∀ x ∈ p0, x.block < W.heap.size := by obtain ⟨m, hm⟩ := k0; exact DataW.trod_lt m _ _ _ hm
  obtain ⟨z0, w0⟩ : ∃ zs, IsRow .u8 W a0 len0 cap0 zs := by
    obtain ⟨fuel, hf⟩ := h0
    rcases open_ints Try.underlying22 Try.underlying5 (by kernel_rfl) hf with ⟨hcs, _⟩ | ⟨x, l, c, zs, hcs, _, hl, hm, hz, _, hcell, hwz⟩
    · simp [Value.cells] at hcs
      obtain ⟨rfl, rfl, rfl⟩ := hcs
      exact ⟨[], .inl ⟨rfl, rfl, rfl, rfl⟩⟩
    · simp [Value.cells] at hcs
      obtain ⟨rfl, rfl, rfl⟩ := hcs
      exact ⟨zs, .inr ⟨_, rfl, hl, hm, by simpa using hz, hcell, hwz⟩⟩
  obtain ⟨a1, len1, cap1, rfl⟩ := okWide_slice Try.underlying22 (hval 1 22 v1 rfl rfl)
  have k1 := h1
  have lt1 : ∀ x ∈ p1, x.block < W.heap.size := by obtain ⟨m, hm⟩ := k1; exact DataW.trod_lt m _ _ _ hm
  obtain ⟨z1, w1⟩ : ∃ zs, IsRow .u8 W a1 len1 cap1 zs := by
    obtain ⟨fuel, hf⟩ := h1
    rcases open_ints Try.underlying22 Try.underlying5 (by kernel_rfl) hf with ⟨hcs, _⟩ | ⟨x, l, c, zs, hcs, _, hl, hm, hz, _, hcell, hwz⟩
    · simp [Value.cells] at hcs
      obtain ⟨rfl, rfl, rfl⟩ := hcs
      exact ⟨[], .inl ⟨rfl, rfl, rfl, rfl⟩⟩
    · simp [Value.cells] at hcs
      obtain ⟨rfl, rfl, rfl⟩ := hcs
      exact ⟨zs, .inr ⟨_, rfl, hl, hm, by simpa using hz, hcell, hwz⟩⟩
  clear hA0 hval0
  refine (walk a0 len0 cap0 z0 a1 len1 cap1 z1 W w0 w1).mono fun e W' ⟨he, bel⟩ => ?_
  subst he
  exact ⟨_, rfl, _, _, _, [], _, [], hW', trodAll_mk1 (shut_bool Try.underlying4 _), (trodAll_cons_mk (Below.trod laidOut (by kernel_rfl) (of_decide_eq_true (by kernel_rfl)) k0 bel lt0) (trodAll_cons_mk (Below.trod laidOut (by kernel_rfl) (of_decide_eq_true (by kernel_rfl)) k1 bel lt1) trodAll_mk0)), rfl, bel.frame _, fun h => by cases h⟩

theorem over : Rows.fnFracOfRow.holds Try.pinned (OpenSpec.ofChange Rows.fnFracOfSpec) :=
  OpenClaim.holds_of_wide 3 Try.f3 rfl rfl rfl rfl rfl rfl rfl ⟨rfl, rfl, rfl, rfl, rfl⟩ rfl rfl rfl rfl rfl (by kernel_rfl) Try.func3 (by kernel_rfl)
    (of_decide_eq_true (by kernel_rfl)) (by unfold Func.isWrapper; first | (rw [if_pos (by decide +kernel)]; kernel_rfl) | (rw [if_neg (by decide +kernel)]; exact ⟨rfl, rfl⟩))
    (fun os started H enc _ => lifted os started H enc)

/-- ████ THE STATEMENT ████ -/
theorem proved : Rows.FnFracOfSaid := over
#print axioms proved
end Go.Proofs.Ytkakdibfkdognaa.fnFracOf
