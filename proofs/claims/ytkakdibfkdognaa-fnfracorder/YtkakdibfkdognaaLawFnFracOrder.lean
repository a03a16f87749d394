/-
  What is less than what is less is less: the law FnFracOrder returns true for every two codes.
  Conditions: none but the statement's own. Proved: Rows.FnFracOrderSaid.
-/
import Derived.Test.YtkakdibfkdognaaRows
import Derived.WalkKit
import Derived.ProofKit
import Derived.OpenShut
import Derived.ShutString
import Derived.ChangeOld
import Derived.Below
import Derived.Test.YtkakdibfkdognaaFp
import Derived.Test.YtkakdibfkdognaaBase
import Derived.Test.YtkakdibfkdognaaField
import Derived.Test.YtkakdibfkdognaaSl
import Derived.Test.YtkakdibfkdognaaTri
import Derived.Test.YtkakdibfkdognaaFr
import Derived.Test.YtkakdibfkdognaaFrl
import Derived.Test.YtkakdibfkdognaaFrc
import Derived.Test.YtkakdibfkdognaaFrd
import Derived.Test.YtkakdibfkdognaaFre
import Derived.Test.YtkakdibfkdognaaFrf
import Derived.Test.YtkakdibfkdognaaDraw
import Derived.Test.YtkakdibfkdognaaFrg
namespace Go.Proofs.Ytkakdibfkdognaa.fnFracOrder
open Go.ChangeShapes Go.WideShapes Go.ChangeAt Go.RowKit
open Go.ChangeMaps (open_string shut_string)
set_option linter.unusedVariables false
set_option linter.unusedSimpArgs false

theorem own : ownKnob Try.prog.godebug = none := by kernel_rfl
theorem laidOut : laidOutB Try.prog = true := by kernel_rfl

set_option maxHeartbeats 1000000 in
set_option maxRecDepth 100000 in
theorem walk (a0 : Option Addr) (len0 cap0 : Nat) (z0 : List Int) (a1 : Option Addr) (len1 cap1 : Nat) (z1 : List Int) (w : World) (w0 : IsRow .u8 w a0 len0 cap0 z0) (w1 : IsRow .u8 w a1 len1 cap1 z1) :
    Calls Try.prog 8 #[.slice a0 len0 cap0, .slice a1 len1 cap1] w fun e w' => e = .returned (.bool true) ∧ Below w.heap.size w w' := by
  obtain ⟨c1, c2⟩ := w0.sizes
  obtain ⟨d1, d2⟩ := w1.sizes
  have Hb := Lib.hid (Bys.of_row w0)
  clear w0 w1
  by_cases hl : 1048576 < len0
  · go_enter Try.func8, Try.ntmps8
    go_wp2
    go_ret
    exact ⟨rfl, Below.refl _ _⟩
  by_cases hl1 : 1048576 < len1
  · go_enter Try.func8, Try.ntmps8
    go_wp2
    go_ret
    exact ⟨rfl, Below.refl _ _⟩
  have B := Lib.hid (Below.refl w.heap.size w)
  go_enter Try.func8, Try.ntmps8
  go_wp2_with fail
  refine (spec_DrawFracCmp a0 len0 cap0 w Hb.out c1 c2).mono ?_
  rintro e W1 ⟨a, b, c, d, rfl, b_d⟩
  have Z_W1 : w.heap.size ≤ W1.heap.size := b_d.size
  replace B := Lib.hid (B.out.trans (b_d.mono B.out.size))
  clear b_d
  clear c1 c2 d1 d2
  obtain ⟨W2, W3, hw_x, hw_y, zz_x, z_h, p_h⟩ := pair_box W1 (a) (b) (c) (d) 26
  have Z_W3 : W1.heap.size + 1 < W3.heap.size := by omega
  have b_h := p_h.bel
  have D_x := Lib.hid p_h.one
  have D_y := Lib.hid p_h.two
  replace B := Lib.hid (B.out.trans (b_h.mono B.out.size))
  clear b_h p_h z_h
  obtain ⟨k0_x, k1_x, -, -⟩ := duo_at D_x.out
  obtain ⟨k0_y, k1_y, -, -⟩ := duo_at D_y.out
  go_wp2_with fail
  clear k0_x k1_x
  clear k0_y k1_y
  clear hw_x hw_y zz_x
  refine (impl_FracCmp _ _ _ _ _).mono ?_
  rintro e W4 ⟨rfl, b_d⟩
  have Z_W4 : W3.heap.size ≤ W4.heap.size := b_d.size
  replace D_x := Lib.hid (Tri.below D_x.out b_d (by omega))
  replace D_y := Lib.hid (Tri.below D_y.out b_d (by omega))
  replace B := Lib.hid (B.out.trans (b_d.mono B.out.size))
  clear b_d
  obtain ⟨k0_x, k1_x, -, -⟩ := duo_at D_x.out
  obtain ⟨k0_y, k1_y, -, -⟩ := duo_at D_y.out
  go_wp2_with fail
  clear k0_x k1_x
  clear k0_y k1_y
  refine (spec_FracCmp _ _ _ _ _).mono ?_
  rintro e W5 ⟨rfl, b_d⟩
  have Z_W5 : W4.heap.size ≤ W5.heap.size := b_d.size
  replace D_x := Lib.hid (Tri.below D_x.out b_d (by omega))
  replace D_y := Lib.hid (Tri.below D_y.out b_d (by omega))
  replace B := Lib.hid (B.out.trans (b_d.mono B.out.size))
  clear b_d
  have m1 : (Fr.cmp a b c d != Fr.cmp a b c d) = false := by simp
  have m2 : (Fr.cmp a b c d == Fr.cmp a b c d) = true := by simp
  obtain ⟨k0_x, k1_x, -, -⟩ := duo_at D_x.out
  obtain ⟨k0_y, k1_y, -, -⟩ := duo_at D_y.out
  go_wp2_with fail
  clear k0_x k1_x
  clear k0_y k1_y
  refine (spec_FracOk a b _).mono ?_
  rintro e W6 ⟨rfl, b_d⟩
  have Z_W6 : W5.heap.size ≤ W6.heap.size := b_d.size
  replace D_x := Lib.hid (Tri.below D_x.out b_d (by omega))
  replace D_y := Lib.hid (Tri.below D_y.out b_d (by omega))
  replace B := Lib.hid (B.out.trans (b_d.mono B.out.size))
  clear b_d
  cases g1 : Fr.ok a b
  · skip
    obtain ⟨k0_x, k1_x, -, -⟩ := duo_at D_x.out
    obtain ⟨k0_y, k1_y, -, -⟩ := duo_at D_y.out
    go_wp2_with fail
    clear k0_x k1_x
    clear k0_y k1_y
    refine (spec_FracCmp _ _ _ _ _).mono ?_
    rintro e W7 ⟨rfl, b_d⟩
    have Z_W7 : W6.heap.size ≤ W7.heap.size := b_d.size
    replace D_x := Lib.hid (Tri.below D_x.out b_d (by omega))
    replace D_y := Lib.hid (Tri.below D_y.out b_d (by omega))
    replace B := Lib.hid (B.out.trans (b_d.mono B.out.size))
    clear b_d
    obtain ⟨k0_x, k1_x, -, -⟩ := duo_at D_x.out
    obtain ⟨k0_y, k1_y, -, -⟩ := duo_at D_y.out
    go_wp2_with fail
    clear k0_x k1_x
    clear k0_y k1_y
    go_ret
    exact ⟨rfl, B.out⟩
  · skip
    obtain ⟨k0_x, k1_x, -, -⟩ := duo_at D_x.out
    obtain ⟨k0_y, k1_y, -, -⟩ := duo_at D_y.out
    go_wp2_with fail
    clear k0_x k1_x
    clear k0_y k1_y
    refine (spec_FracOk c d _).mono ?_
    rintro e W8 ⟨rfl, b_d⟩
    have Z_W8 : W6.heap.size ≤ W8.heap.size := b_d.size
    replace D_x := Lib.hid (Tri.below D_x.out b_d (by omega))
    replace D_y := Lib.hid (Tri.below D_y.out b_d (by omega))
    replace B := Lib.hid (B.out.trans (b_d.mono B.out.size))
    clear b_d
    cases g2 : Fr.ok c d
    · skip
      obtain ⟨k0_x, k1_x, -, -⟩ := duo_at D_x.out
      obtain ⟨k0_y, k1_y, -, -⟩ := duo_at D_y.out
      go_wp2_with fail
      clear k0_x k1_x
      clear k0_y k1_y
      refine (spec_FracCmp _ _ _ _ _).mono ?_
      rintro e W9 ⟨rfl, b_d⟩
      have Z_W9 : W8.heap.size ≤ W9.heap.size := b_d.size
      replace D_x := Lib.hid (Tri.below D_x.out b_d (by omega))
      replace D_y := Lib.hid (Tri.below D_y.out b_d (by omega))
      replace B := Lib.hid (B.out.trans (b_d.mono B.out.size))
      clear b_d
      obtain ⟨k0_x, k1_x, -, -⟩ := duo_at D_x.out
      obtain ⟨k0_y, k1_y, -, -⟩ := duo_at D_y.out
      go_wp2_with fail
      clear k0_x k1_x
      clear k0_y k1_y
      go_ret
      exact ⟨rfl, B.out⟩
    · skip
      obtain ⟨N, hN⟩ : ∃ N, Fr.cmp a b c d = N := ⟨_, rfl⟩
      rw [hN] at m1 m2 ⊢
      obtain ⟨k, hk⟩ : ∃ k : Nat, (len1 : Int) % 13 = (k : Int) := ⟨len1 % 13, by omega⟩
      obtain ⟨j, hj⟩ : ∃ j : Nat, (len1 : Int) % 11 = (j : Int) := ⟨len1 % 11, by omega⟩
      have k7 : k < 13 := by omega
      have j5 : j < 11 := by omega
      obtain ⟨e, he⟩ : ∃ e, Fr.ofN (k : Int) (1 + (j : Int)) = e := ⟨_, rfl⟩
      obtain ⟨f, hf⟩ : ∃ f, Fr.ofD (k : Int) (1 + (j : Int)) = f := ⟨_, rfl⟩
      have HO := Lib.hid (fun h : Fr.ofB (k : Int) ((1 + j : Nat) : Int) = true => Fr.of_ok h)
      rw [show (((1 + j : Nat)) : Int) = 1 + (j : Int) by push_cast; rfl, he, hf] at HO
      have C := impl_FracOf (k : Int) (1 + (j : Int))
      rw [he, hf] at C
      have CC := Lib.hid C
      have HN := Lib.hid hN
      clear C he hf hN
      obtain ⟨k0_x, k1_x, -, -⟩ := duo_at D_x.out
      obtain ⟨k0_y, k1_y, -, -⟩ := duo_at D_y.out
      go_wp2_with fail
      clear k0_x k1_x
      clear k0_y k1_y
      refine (CC.out _).mono ?_
      rintro e W10 ⟨rfl, b_d⟩
      have Z_W10 : W8.heap.size ≤ W10.heap.size := b_d.size
      replace D_x := Lib.hid (Tri.below D_x.out b_d (by omega))
      replace D_y := Lib.hid (Tri.below D_y.out b_d (by omega))
      replace B := Lib.hid (B.out.trans (b_d.mono B.out.size))
      clear b_d
      obtain ⟨W11, hw_z, z_h, b_h, t_h⟩ := duo_box W10 (e) (f) 26
      have Z_W11 : W10.heap.size < W11.heap.size := by omega
      replace D_x := Lib.hid (Tri.below D_x.out b_h (by omega))
      replace D_y := Lib.hid (Tri.below D_y.out b_h (by omega))
      have D_z := Lib.hid t_h
      replace B := Lib.hid (B.out.trans (b_h.mono B.out.size))
      clear b_h t_h z_h
      cases hz : Fr.ofB (k : Int) (1 + (j : Int))
      · skip
        obtain ⟨k0_x, k1_x, -, -⟩ := duo_at D_x.out
        obtain ⟨k0_y, k1_y, -, -⟩ := duo_at D_y.out
        obtain ⟨k0_z, k1_z, -, -⟩ := duo_at D_z.out
        go_wp2_with fail
        clear k0_x k1_x
        clear k0_y k1_y
        clear k0_z k1_z
        clear hw_z
        go_ret
        exact ⟨rfl, B.out⟩
      · skip
        have g3 := HO.out hz
        clear HO CC hz
        by_cases h1 : N = -1
        · skip
          subst h1
          have i1 : ((-1 : Int) != -1) = false := by decide
          have i2 : ((-1 : Int) == -1) = true := by decide
          obtain ⟨k0_x, k1_x, -, -⟩ := duo_at D_x.out
          obtain ⟨k0_y, k1_y, -, -⟩ := duo_at D_y.out
          obtain ⟨k0_z, k1_z, -, -⟩ := duo_at D_z.out
          go_wp2_with fail
          clear k0_x k1_x
          clear k0_y k1_y
          clear k0_z k1_z
          clear hw_z
          refine (impl_FracCmp c d e f _).mono ?_
          rintro e W12 ⟨rfl, b_d⟩
          have Z_W12 : W11.heap.size ≤ W12.heap.size := b_d.size
          replace D_x := Lib.hid (Tri.below D_x.out b_d (by omega))
          replace D_y := Lib.hid (Tri.below D_y.out b_d (by omega))
          replace D_z := Lib.hid (Tri.below D_z.out b_d (by omega))
          replace B := Lib.hid (B.out.trans (b_d.mono B.out.size))
          clear b_d
          obtain ⟨M, hM⟩ : ∃ M, Fr.cmp c d e f = M := ⟨_, rfl⟩
          rw [hM]
          by_cases h2 : M = -1
          · skip
            subst h2
            have HM := Lib.hid hM
            clear hM
            obtain ⟨k0_x, k1_x, -, -⟩ := duo_at D_x.out
            obtain ⟨k0_y, k1_y, -, -⟩ := duo_at D_y.out
            obtain ⟨k0_z, k1_z, -, -⟩ := duo_at D_z.out
            go_wp2_with fail
            clear k0_x k1_x
            clear k0_y k1_y
            clear k0_z k1_z
            refine (impl_FracCmp a b e f _).mono ?_
            rintro e W13 ⟨rfl, b_d⟩
            have Z_W13 : W12.heap.size ≤ W13.heap.size := b_d.size
            replace D_x := Lib.hid (Tri.below D_x.out b_d (by omega))
            replace D_y := Lib.hid (Tri.below D_y.out b_d (by omega))
            replace D_z := Lib.hid (Tri.below D_z.out b_d (by omega))
            replace B := Lib.hid (B.out.trans (b_d.mono B.out.size))
            clear b_d
            rw [Fr.trans_i g1 g2 g3 HN.out HM.out]
            clear g1 g2 g3
            obtain ⟨k0_x, k1_x, -, -⟩ := duo_at D_x.out
            obtain ⟨k0_y, k1_y, -, -⟩ := duo_at D_y.out
            obtain ⟨k0_z, k1_z, -, -⟩ := duo_at D_z.out
            go_wp2_with fail
            clear k0_x k1_x
            clear k0_y k1_y
            clear k0_z k1_z
            go_ret
            exact ⟨rfl, B.out⟩
          · skip
            have i3 : (M != -1) = true := by simp [h2]
            clear h2 hM
            obtain ⟨k0_x, k1_x, -, -⟩ := duo_at D_x.out
            obtain ⟨k0_y, k1_y, -, -⟩ := duo_at D_y.out
            obtain ⟨k0_z, k1_z, -, -⟩ := duo_at D_z.out
            go_wp2_with fail
            clear k0_x k1_x
            clear k0_y k1_y
            clear k0_z k1_z
            go_ret
            exact ⟨rfl, B.out⟩
        · skip
          have i3 : (N != -1) = true := by simp [h1]
          clear h1
          obtain ⟨k0_x, k1_x, -, -⟩ := duo_at D_x.out
          obtain ⟨k0_y, k1_y, -, -⟩ := duo_at D_y.out
          obtain ⟨k0_z, k1_z, -, -⟩ := duo_at D_z.out
          go_wp2_with fail
          clear k0_x k1_x
          clear k0_y k1_y
          clear k0_z k1_z
          clear hw_z
          go_ret
          exact ⟨rfl, B.out⟩

/-! ### THE ROW's STEP: WRITTEN OUT: LEAVE IT -/
set_option maxRecDepth 100000 in
theorem lifted (os : Os) (started : os.Started) (H : Type) (enc : TypeId × Value → H) :
    ReturnsInHanded {} Try.checked os 8 .any (Rows.fnFracOrderSpec.pre6 enc Try.prog Try.f8 Rows.fnFracOrderRow.domain false) (Rows.fnFracOrderSpec.post enc Try.prog Try.f8 false true false false) := by
  refine returnsInHanded_of_change (C := Try.checked) own started (by kernel_rfl) Try.func8
    (ChangeSpec.witness6 (enc := enc) (C := Try.checked) false ⟨#[], #[.slice none 0 0, .slice none 0 0], []⟩ 8 (by kernel_rfl) (by kernel_rfl) (by kernel_rfl) (by kernel_rfl)) ?_
  intro W base args ds gs before hval0 hW hcnd _
  have hval : ∀ (j : Nat) t v, Try.f8.params[j]? = some t → args[j]? = some v → Value.okWide Try.prog W .any base t v := hval0
  have hW' := hW
  obtain ⟨p, q, hA0, hV, rfl, hfz, hnd⟩ := hW
  have hA : DataW.TrodAll enc Try.prog W 0 (fun _ => true) true Try.f8.params.toList args.toList ds p := hA0
  rw [Try.params8] at hA hval
  obtain ⟨v0, vs0, d0, ds0, p0, q0, hargs, rfl, rfl, h0, r0⟩ := trodAll_cons hA
  obtain ⟨v1, vs1, d1, ds1, p1, q1, rfl, rfl, rfl, h1, r1⟩ := trodAll_cons r0
  obtain ⟨rfl, rfl, rfl⟩ := trodAll_nil r1
  obtain rfl : args = #[v0, v1] := by cases args; simp_all
  obtain ⟨rfl, rfl⟩ := trodVars_none hV
  obtain ⟨a0, len0, cap0, rfl⟩ := okWide_slice Try.underlying22 (hval 0 22 v0 rfl rfl)
  have k0 := h0
  have lt0 : ∀ x ∈ p0, x.block < W.heap.size := by obtain ⟨m, hm⟩ := k0; exact DataW.trod_lt m _ _ _ hm
  obtain ⟨z0, w0⟩ : ∃ zs, IsRow .u8 W a0 len0 cap0 zs := by
    obtain ⟨fuel, hf⟩ := h0
    rcases open_ints Try.underlying22 Try.underlying5 (by kernel_rfl) hf with ⟨hcs, _⟩ | ⟨x, l, c, zs, hcs, _, hl, hm, hz, _, hcell, hwz⟩
    · simp [Value.cells] at hcs
      obtain ⟨rfl, rfl, rfl⟩ := hcs
      exact ⟨[], .inl ⟨rfl, rfl, rfl, rfl⟩⟩
    · simp [Value.cells] at hcs
      obtain ⟨rfl, rfl, rfl⟩ := hcs
      exact ⟨zs, .inr ⟨_, rfl, hl, hm, by simpa using hz, hcell, hwz⟩⟩
  obtain ⟨a1, len1, cap1, rfl⟩ := okWide_slice Try.underlying22 (hval 1 22 v1 rfl rfl)
  have k1 := h1
  have lt1 : ∀ x ∈ p1, x.block < W.heap.size := by obtain ⟨m, hm⟩ := k1; exact DataW.trod_lt m _ _ _ hm
  obtain ⟨z1, w1⟩ : ∃ zs, IsRow .u8 W a1 len1 cap1 zs := by
    obtain ⟨fuel, hf⟩ := h1
    rcases open_ints Try.underlying22 Try.underlying5 (by kernel_rfl) hf with ⟨hcs, _⟩ | ⟨x, l, c, zs, hcs, _, hl, hm, hz, _, hcell, hwz⟩
    · simp [Value.cells] at hcs
      obtain ⟨rfl, rfl, rfl⟩ := hcs
      exact ⟨[], .inl ⟨rfl, rfl, rfl, rfl⟩⟩
    · simp [Value.cells] at hcs
      obtain ⟨rfl, rfl, rfl⟩ := hcs
      exact ⟨zs, .inr ⟨_, rfl, hl, hm, by simpa using hz, hcell, hwz⟩⟩
  clear hA0 hval0
  refine (walk a0 len0 cap0 z0 a1 len1 cap1 z1 W w0 w1).mono fun e W' ⟨he, bel⟩ => ?_
  subst he
  exact ⟨_, rfl, _, _, _, [], _, [], hW', trodAll_mk1 (shut_bool Try.underlying4 _), (trodAll_cons_mk (Below.trod laidOut (by kernel_rfl) (of_decide_eq_true (by kernel_rfl)) k0 bel lt0) (trodAll_cons_mk (Below.trod laidOut (by kernel_rfl) (of_decide_eq_true (by kernel_rfl)) k1 bel lt1) trodAll_mk0)), rfl, bel.frame _, fun h => by cases h⟩

theorem over : Rows.fnFracOrderRow.holds Try.pinned (OpenSpec.ofChange Rows.fnFracOrderSpec) :=
  OpenClaim.holds_of_wide 8 Try.f8 rfl rfl rfl rfl rfl rfl rfl ⟨rfl, rfl, rfl, rfl, rfl⟩ rfl rfl rfl rfl rfl (by kernel_rfl) Try.func8 (by kernel_rfl)
    (of_decide_eq_true (by kernel_rfl)) (by unfold Func.isWrapper; first | (rw [if_pos (by decide +kernel)]; kernel_rfl) | (rw [if_neg (by decide +kernel)]; exact ⟨rfl, rfl⟩))
    (fun os started H enc _ => lifted os started H enc)

/-- ████ THE STATEMENT ████ -/
theorem proved : Rows.FnFracOrderSaid := over
#print axioms proved
end Go.Proofs.Ytkakdibfkdognaa.fnFracOrder
