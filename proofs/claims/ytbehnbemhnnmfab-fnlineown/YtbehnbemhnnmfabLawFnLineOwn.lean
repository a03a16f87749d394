/-
  At a place of a value Lagrange's factors take that value alone, elsewhere each counts, and they add up to 1: the law FnLineOwn returns true for every code.
  Conditions: none but the statement's own. Proved: Rows.FnLineOwnSaid.
-/
import Derived.Test.YtbehnbemhnnmfabRows
import Derived.WalkKit
import Derived.ProofKit
import Derived.OpenShut
import Derived.ShutString
import Derived.ChangeOld
import Derived.Below
import Derived.Test.YtbehnbemhnnmfabFp
import Derived.Test.YtbehnbemhnnmfabBase
import Derived.Test.YtbehnbemhnnmfabField
import Derived.Test.YtbehnbemhnnmfabSl
import Derived.Test.YtbehnbemhnnmfabLw
import Derived.Test.YtbehnbemhnnmfabPoly
import Derived.Test.YtbehnbemhnnmfabPline
import Derived.Test.YtbehnbemhnnmfabDraw
import Derived.Test.YtbehnbemhnnmfabDlist
namespace Go.Proofs.Ytbehnbemhnnmfab.fnLineOwn
open Go.ChangeShapes Go.WideShapes Go.ChangeAt Go.RowKit
open Go.ChangeMaps (open_string shut_string)
set_option linter.unusedVariables false
set_option linter.unusedSimpArgs false

theorem own : ownKnob Try.prog.godebug = none := by kernel_rfl
theorem laidOut : laidOutB Try.prog = true := by kernel_rfl

theorem prTo_nz' {x : Int} {i n : Nat} (hx : Fp.ok x = true) (h : (n : Int) ≤ x) : ∀ k, k ≤ n → Fp.prTo x i k ≠ 0 := by
  intro k hk
  induction k with
  | zero => simp [Fp.prTo]
  | succ k ih =>
    rw [Fp.prTo]
    split
    · exact ih (by omega)
    · intro e
      rw [← Fp.mul_eq (Fp.prTo_ok _ _ _) (Fp.emod_ok _), Fp.mul_none (Fp.prTo_ok _ _ _) (Fp.emod_ok _)] at e
      rcases e with e | e
      · exact ih (by omega) e
      · have := (Fp.ok_iff x).1 hx; omega
theorem lag_nz {x : Int} {i n : Nat} (hx : Fp.ok x = true) (hi : i < n) (hn : n ≤ 9) (h : (n : Int) ≤ x) : Fp.lagTo x i n ≠ 0 := by
  have ho := Fp.inv_ok (Fp.prTo_ok (i : Int) i n) (Fp.prTo_nz (show i < 31 by omega) (show n ≤ 31 by omega))
  rw [Fp.lag_pr hx (by omega) (by omega), ← Fp.mul_eq (Fp.prTo_ok _ _ _) ho.1]
  intro e
  rcases (Fp.mul_none (Fp.prTo_ok _ _ _) ho.1).1 e with e | e
  · exact prTo_nz' hx h n (Nat.le_refl _) e
  · exact ho.2.1 e
theorem ev_zeros (k : Nat) (x : Int) : Fp.ev (List.replicate k 0) x = 0 := by
  induction k with
  | zero => rfl
  | succ k ih => rw [List.replicate_succ, Fp.ev_cons, ih]; simp
theorem lag_sum {x : Int} {n : Nat} (hx : Fp.ok x = true) (h0 : 0 < n) (hn : n ≤ 9) : Fp.S (fun j => (Fp.lagL n x).getD j 0) n % 31 = 1 := by
  have hl : (List.replicate n (1 : Int)).length = n := by simp
  have hu : (1 :: List.replicate (n - 1) (0 : Int)) = Fp.thr (List.replicate n 1) := by
    refine Fp.thr_uniq (by simp; omega) (by simp; omega) ?_ fun m hm => ?_
    · intro z hz
      rcases List.mem_cons.1 hz with rfl | hz
      · rfl
      · rw [List.eq_of_mem_replicate hz]; rfl
    · rw [Fp.ev_cons, ev_zeros]
      simp at hm
      exact Fp.cg.of_eq (by simp [List.getD_eq_getElem?_getD, hm])
  have h := Fp.thr_ev (vals := List.replicate n (1 : Int)) (by simp; omega) hx
  rw [← hu, Fp.ev_cons, ev_zeros, hl] at h
  have e : Fp.S (fun j => (List.replicate n (1 : Int)).getD j 0 * Fp.lagTo x j n) n = Fp.S (fun j => (Fp.lagL n x).getD j 0) n := Fp.S_congr fun j hj => by
    rw [Fp.lagL, Fp.getD_map _ hj]; simp [List.getD_eq_getElem?_getD, hj]
  rw [e] at h
  unfold Fp.cg at h
  omega
set_option maxHeartbeats 1000000 in
set_option maxRecDepth 100000 in
theorem walk (a0 : Option Addr) (len0 cap0 : Nat) (z0 : List Int) (w : World) (w0 : IsRow .u8 w a0 len0 cap0 z0) :
    Calls Try.prog 3 #[.slice a0 len0 cap0] w fun e w' => e = .returned (.bool true) ∧ Below w.heap.size w w' := by
  obtain ⟨c1, c2⟩ := w0.sizes
  have Hb := Lib.hid (Bys.of_row w0)
  clear w0
  by_cases hl : 1048576 < len0
  · go_enter Try.func3, Try.ntmps3
    go_wp2
    go_ret
    exact ⟨rfl, Below.refl _ _⟩
  have B := Lib.hid (Below.refl w.heap.size w)
  go_enter Try.func3, Try.ntmps3
  go_wp2_with fail
  refine (spec_DrawPolyLine a0 len0 cap0 w Hb.out c1 c2).mono ?_
  rintro e W1 ⟨m, x, m1, m2, x1, x2, rfl, b_d⟩
  have Z_W1 : w.heap.size ≤ W1.heap.size := b_d.size
  replace B := Lib.hid (B.out.trans (b_d.mono B.out.size))
  clear b_d
  clear c1 c2
  have pl := Lib.hid (lineOf_len m x)
  have e1 := eqB_self (lineOf m x)
  go_wp2_with fail
  refine (impl_PolyLine _ _ _).mono ?_
  rintro e W2 ⟨a_l, n_l, c_l, rfl, o_l, b_l⟩
  have O_l := Lib.hid o_l
  have L_l := Lib.hid o_l.len
  have Z_W2 : W1.heap.size ≤ W2.heap.size := b_l.size
  replace B := Lib.hid (B.out.trans (b_l.mono B.out.size))
  clear o_l b_l
  have h_l : n_l ≤ 9 := by rw [← L_l.out]; exact pl.out
  go_wp2_with fail
  refine (spec_PolyLine _ _ _).mono ?_
  rintro e W3 ⟨a_s, n_s, c_s, rfl, o_s, b_s⟩
  have O_s := Lib.hid o_s
  have L_s := Lib.hid o_s.len
  have Z_W3 : W2.heap.size ≤ W3.heap.size := b_s.size
  replace O_l := Lib.hid (O_l.out.below b_s)
  replace B := Lib.hid (B.out.trans (b_s.mono B.out.size))
  clear o_s b_s
  have h_s : n_s ≤ 9 := by rw [← L_s.out]; exact pl.out
  go_wp2_with fail
  refine (laws_loInts _ _ _ _ _ _ _ _ _ O_l.out.sl O_s.out.sl (by omega) (by omega)).mono ?_
  rintro e W4 hd
  obtain ⟨rfl, b_d⟩ := hd.below
  have Z_W4 : W3.heap.size ≤ W4.heap.size := b_d.size
  clear hd
  replace O_l := Lib.hid (O_l.out.below b_d)
  replace O_s := Lib.hid (O_s.out.below b_d)
  replace B := Lib.hid (B.out.trans (b_d.mono B.out.size))
  clear b_d
  by_cases n0 : n_l = 0
  · subst n0
    go_wp2_with fail
    refine (spec_PolyLine _ _ _).mono ?_
    rintro e W5 ⟨a_t, n_t, c_t, rfl, o_t, b_t⟩
    have O_t := Lib.hid o_t
    have L_t := Lib.hid o_t.len
    have Z_W5 : W4.heap.size ≤ W5.heap.size := b_t.size
    replace O_l := Lib.hid (O_l.out.below b_t)
    replace O_s := Lib.hid (O_s.out.below b_t)
    replace B := Lib.hid (B.out.trans (b_t.mono B.out.size))
    clear o_t b_t
    have h_t : n_t ≤ 9 := by rw [← L_t.out]; exact pl.out
    go_wp2_with fail
    refine (laws_loInts _ _ _ _ _ _ _ _ _ O_l.out.sl O_t.out.sl (by omega) (by omega)).mono ?_
    rintro e W6 hd
    obtain ⟨rfl, b_d⟩ := hd.below
    have Z_W6 : W5.heap.size ≤ W6.heap.size := b_d.size
    clear hd
    replace O_l := Lib.hid (O_l.out.below b_d)
    replace O_s := Lib.hid (O_s.out.below b_d)
    replace O_t := Lib.hid (O_t.out.below b_d)
    replace B := Lib.hid (B.out.trans (b_d.mono B.out.size))
    clear b_d
    go_wp2
    go_ret
    exact ⟨rfl, B.out⟩
  · have nb : ((n_l : Int) == 0) = false := by simp; omega
    have hne : lineOf m x ≠ [] := fun h => by have := L_l.out; rw [h] at this; simp at this; omega
    have hm : inB m 0 9 = true := by
      cases h : inB m 0 9
      · exact absurd (lineOf_no h) hne
      · rfl
    have hx : Fp.ok x = true := by
      cases h : Fp.ok x
      · exact absurd (lineOf_nx h) hne
      · rfl
    obtain ⟨q0, q9⟩ := inB_iff.1 hm
    obtain ⟨n, rfl⟩ := Int.eq_ofNat_of_zero_le q0
    have n9 : n ≤ 9 := by omega
    have LE := Lib.hid (lineOf_yes n9 hx)
    rw [LE.out] at O_l L_l
    have en : n_l = n := by have := L_l.out; simp [Fp.lagL] at this; exact this.symm
    subst en
    have SU := Lib.hid (lag_sum (n := n_l) hx (by omega) n9)
    obtain ⟨xn, rfl⟩ := Int.eq_ofNat_of_zero_le ((Fp.ok_iff x).1 hx).1
    clear hne hm q0 q9 m1 m2 n0 x1 x2
    go_wp2
    go_loop [6, 7] (fun s i => ∃ (k : Nat) (y : Int), k ≤ n_l ∧ Fp.ok y = true ∧ Hid (y = Fp.S (fun j => (Fp.lagL n_l xn).getD j 0) k % 31) ∧ s = .int .i64 y ∧ i = .int .i64 k) (fun _ i => n_l - (intOf i).toNat)
    case atStart => exact ⟨0, 0, by omega, rfl, rfl, rfl, rfl⟩
    case round =>
      obtain ⟨k, y, hk, hy, Y, rfl, rfl⟩ := hrel
      by_cases hlt : k < n_l
      · obtain ⟨b, off, c, rfl, hc, C⟩ := O_l.out.sl.get hlt
        have C2 : Hid (c = Fp.lagTo xn k n_l) := by show _ = _; rw [C.out, Fp.lagL, Fp.getD_map _ hlt]
        have hco : Fp.ok c = true := by rw [C2.out]; exact Fp.lagTo_ok _ _ _
        have Y2 : Hid (Fp.sum y c = Fp.S (fun j => (Fp.lagL n_l xn).getD j 0) (k + 1) % 31) := by
          show _ = _
          rw [Fp.S_succ, ← C.out, Fp.sum_eq hy hco, Y.out]; omega
        by_cases hxn : xn < n_l
        · have hxd : decide ((xn : Int) < (n_l : Int)) = true := by simp; omega
          have hge : decide ((n_l : Int) ≤ (xn : Int)) = false := by simp; omega
          have OW := Lib.hid (Fp.lag_own hxn hlt (by omega))
          by_cases e : k = xn
          · subst e
            have c1 : c = 1 := by rw [C2.out, OW.out, if_pos rfl]
            subst c1
            go_wp2_with (go_at_call 9; (with_reducible refine (impl_FieldSum _ _ _).mono ?_); rintro e w' ⟨rfl, rfl⟩)
            go_round
            case rel => exact ⟨k + 1, _, by omega, Fp.sum_ok _ _, Y2.out, rfl, by go_num⟩
            case measure => simp [intOf]; omega
          · have c0 : c = 0 := by rw [C2.out, OW.out, if_neg e]
            subst c0
            have eb : ((k : Int) == (xn : Int)) = false := by simp; omega
            have ebn : ((k : Int) != (xn : Int)) = true := by simp; omega
            clear e
            go_wp2_with (go_at_call 9; (with_reducible refine (impl_FieldSum _ _ _).mono ?_); rintro e w' ⟨rfl, rfl⟩)
            go_round
            case rel => exact ⟨k + 1, _, by omega, Fp.sum_ok _ _, Y2.out, rfl, by go_num⟩
            case measure => simp [intOf]; omega
        · have hxd : decide ((xn : Int) < (n_l : Int)) = false := by simp; omega
          have hge : decide ((n_l : Int) ≤ (xn : Int)) = true := by simp; omega
          have cz : (c == 0) = false := beqF (by rw [C2.out]; exact lag_nz hx hlt n9 (by omega))
          go_wp2_with (go_at_call 9; (with_reducible refine (impl_FieldSum _ _ _).mono ?_); rintro e w' ⟨rfl, rfl⟩)
          go_round
          case rel => exact ⟨k + 1, _, by omega, Fp.sum_ok _ _, Y2.out, rfl, by go_num⟩
          case measure => simp [intOf]; omega
      · have e : k = n_l := by omega
        subst e
        have y1 : y = 1 := by rw [Y.out]; exact SU.out
        subst y1
        go_wp2
        go_ret
        exact ⟨rfl, B.out⟩

/-! ### THE ROW's STEP: WRITTEN OUT: LEAVE IT -/
set_option maxRecDepth 100000 in
theorem lifted (os : Os) (started : os.Started) (H : Type) (enc : TypeId × Value → H) :
    ReturnsInHanded {} Try.checked os 3 .any (Rows.fnLineOwnSpec.pre6 enc Try.prog Try.f3 Rows.fnLineOwnRow.domain false) (Rows.fnLineOwnSpec.post enc Try.prog Try.f3 false true false false) := by
  refine returnsInHanded_of_change (C := Try.checked) own started (by kernel_rfl) Try.func3
    (ChangeSpec.witness6 (enc := enc) (C := Try.checked) false ⟨#[], #[.slice none 0 0], []⟩ 8 (by kernel_rfl) (by kernel_rfl) (by kernel_rfl) (by kernel_rfl)) ?_
  intro W base args ds gs before hval0 hW hcnd _
  have hval : ∀ (j : Nat) t v, Try.f3.params[j]? = some t → args[j]? = some v → Value.okWide Try.prog W .any base t v := hval0
  have hW' := hW
  obtain ⟨p, q, hA0, hV, rfl, hfz, hnd⟩ := hW
  have hA : DataW.TrodAll enc Try.prog W 0 (fun _ => true) true Try.f3.params.toList args.toList ds p := hA0
  rw [Try.params3] at hA hval
  obtain ⟨v0, vs0, d0, ds0, p0, q0, hargs, rfl, rfl, h0, r0⟩ := trodAll_cons hA
  obtain ⟨rfl, rfl, rfl⟩ := trodAll_nil r0
  obtain rfl : args = #[v0] := by cases args; simp_all
  obtain ⟨rfl, rfl⟩ := trodVars_none hV
  obtain ⟨a0, len0, cap0, rfl⟩ := okWide_slice Try.underlying22 (hval 0 22 v0 rfl rfl)
  have k0 := h0
  have lt0 : ∀ x ∈ p0, x.block < W.heap.size := by obtain ⟨m, hm⟩ := k0; exact DataW.trod_lt m _ _ _ hm
  obtain ⟨z0, w0⟩ : ∃ zs, IsRow .u8 W a0 len0 cap0 zs := by
    obtain ⟨fuel, hf⟩ := h0
    rcases open_ints Try.underlying22 Try.underlying5 (by kernel_rfl) hf with ⟨hcs, _⟩ | ⟨x, l, c, zs, hcs, _, hl, hm, hz, _, hcell, hwz⟩
    · simp [Value.cells] at hcs
      obtain ⟨rfl, rfl, rfl⟩ := hcs
      exact ⟨[], .inl ⟨rfl, rfl, rfl, rfl⟩⟩
    · simp [Value.cells] at hcs
      obtain ⟨rfl, rfl, rfl⟩ := hcs
      exact ⟨zs, .inr ⟨_, rfl, hl, hm, by simpa using hz, hcell, hwz⟩⟩
  clear hA0 hval0
  refine (walk a0 len0 cap0 z0 W w0).mono fun e W' ⟨he, bel⟩ => ?_
  subst he
  exact ⟨_, rfl, _, _, _, [], _, [], hW', trodAll_mk1 (shut_bool Try.underlying4 _), (trodAll_cons_mk (Below.trod laidOut (by kernel_rfl) (of_decide_eq_true (by kernel_rfl)) k0 bel lt0) trodAll_mk0), rfl, bel.frame _, fun h => by cases h⟩

theorem over : Rows.fnLineOwnRow.holds Try.pinned (OpenSpec.ofChange Rows.fnLineOwnSpec) :=
  OpenClaim.holds_of_wide 3 Try.f3 rfl rfl rfl rfl rfl rfl rfl ⟨rfl, rfl, rfl, rfl, rfl⟩ rfl rfl rfl rfl rfl (by kernel_rfl) Try.func3 (by kernel_rfl)
    (of_decide_eq_true (by kernel_rfl)) (by unfold Func.isWrapper; first | (rw [if_pos (by decide +kernel)]; kernel_rfl) | (rw [if_neg (by decide +kernel)]; exact ⟨rfl, rfl⟩))
    (fun os started H enc _ => lifted os started H enc)

/-- ████ THE STATEMENT ████ -/
theorem proved : Rows.FnLineOwnSaid := over
#print axioms proved
end Go.Proofs.Ytbehnbemhnnmfab.fnLineOwn
