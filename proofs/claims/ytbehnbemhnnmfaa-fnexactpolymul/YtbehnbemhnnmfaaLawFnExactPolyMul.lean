/-
  The program's PolyMul answers as the model's for every two arguments, writes into none, and its answer owns its memory: the law FnExactPolyMul returns true.
  Conditions: none but the statement's own. Proved: Rows.FnExactPolyMulSaid.
-/
import Derived.Test.YtbehnbemhnnmfaaRows
import Derived.WalkKit
import Derived.ProofKit
import Derived.OpenShut
import Derived.ShutString
import Derived.ChangeOld
import Derived.Below
import Derived.Test.YtbehnbemhnnmfaaFp
import Derived.Test.YtbehnbemhnnmfaaBase
import Derived.Test.YtbehnbemhnnmfaaField
import Derived.Test.YtbehnbemhnnmfaaSl
import Derived.Test.YtbehnbemhnnmfaaLw
import Derived.Test.YtbehnbemhnnmfaaPoly
import Derived.Test.YtbehnbemhnnmfaaPmul
namespace Go.Proofs.Ytbehnbemhnnmfaa.fnExactPolyMul
open Go.ChangeShapes Go.WideShapes Go.ChangeAt Go.RowKit
open Go.ChangeMaps (open_string shut_string)
set_option linter.unusedVariables false
set_option linter.unusedSimpArgs false

theorem own : ownKnob Try.prog.godebug = none := by kernel_rfl
theorem laidOut : laidOutB Try.prog = true := by kernel_rfl

set_option maxHeartbeats 1000000 in
set_option maxRecDepth 100000 in
theorem walk (a0 : Option Addr) (len0 cap0 : Nat) (z0 : List Int) (a1 : Option Addr) (len1 cap1 : Nat) (z1 : List Int) (w : World) (w0 : IsRow .i64 w a0 len0 cap0 z0) (w1 : IsRow .i64 w a1 len1 cap1 z1) :
    Calls Try.prog 8 #[.slice a0 len0 cap0, .slice a1 len1 cap1] w fun e w' => e = .returned (.bool true) ∧ Below w.heap.size w w' := by
  by_cases hl : 1048576 < len0
  · go_enter Try.func8, Try.ntmps8
    go_wp2
    go_ret
    exact ⟨rfl, Below.refl _ _⟩
  by_cases hl' : 1048576 < len1
  · go_enter Try.func8, Try.ntmps8
    go_wp2
    go_ret
    exact ⟨rfl, Below.refl _ _⟩
  have S0 := Lib.hid (Sl.of_row w0)
  have L0 := Lib.hid S0.out.len
  have S1 := Lib.hid (Sl.of_row w1)
  have L1 := Lib.hid S1.out.len
  clear w0 w1
  generalize List.take len0 z0 = xs at S0 L0
  generalize List.take len1 z1 = ys at S1 L1
  have e1 := eqB_self xs
  have e2 := eqB_self ys
  have e3 := eqB_self (Fp.pmul xs ys)
  have pl := Lib.hid (Fp.pok_len (Fp.pmul_pok (a := xs) (b := ys)))
  have B := Lib.hid (Below.refl w.heap.size w)
  go_enter Try.func8, Try.ntmps8
  go_wp2_with fail
  refine (laws_toIntS _ _ _ _ _ S0.out (by omega)).mono ?_
  rintro e W1 ⟨a_p, n_p, c_p, rfl, o_p, b_p⟩
  have O_p := Lib.hid o_p
  have L_p := Lib.hid o_p.len
  have Z_W1 : w.heap.size ≤ W1.heap.size := b_p.size
  replace B := Lib.hid (B.out.trans (b_p.mono B.out.size))
  clear o_p b_p
  have h_p : n_p ≤ 1048576 := by rw [← L_p.out, L0.out]; omega
  go_wp2_with fail
  refine (laws_toIntS _ _ _ _ _ (S1.out.below B.out) (by omega)).mono ?_
  rintro e W2 ⟨a_q, n_q, c_q, rfl, o_q, b_q⟩
  have O_q := Lib.hid o_q
  have L_q := Lib.hid o_q.len
  have Z_W2 : W1.heap.size ≤ W2.heap.size := b_q.size
  replace O_p := Lib.hid (O_p.out.below b_q)
  replace B := Lib.hid (B.out.trans (b_q.mono B.out.size))
  clear o_q b_q
  have h_q : n_q ≤ 1048576 := by rw [← L_q.out, L1.out]; omega
  go_wp2_with fail
  refine (spec_PolyMul _ _ _ _ _ _ _ _ _ O_p.out.sl O_q.out.sl h_p h_q).mono ?_
  rintro e W3 ⟨a_w, n_w, c_w, rfl, o_w, b_w⟩
  have O_w := Lib.hid o_w
  have L_w := Lib.hid o_w.len
  have Z_W3 : W2.heap.size ≤ W3.heap.size := b_w.size
  replace O_p := Lib.hid (O_p.out.below b_w)
  replace O_q := Lib.hid (O_q.out.below b_w)
  replace B := Lib.hid (B.out.trans (b_w.mono B.out.size))
  clear o_w b_w
  have h_w : n_w ≤ 9 := by rw [← L_w.out]; exact pl.out
  clear O_p O_q
  go_wp2_with fail
  refine (laws_toIntS _ _ _ _ _ (S0.out.below B.out) (by omega)).mono ?_
  rintro e W4 ⟨a_x, n_x, c_x, rfl, o_x, b_x⟩
  have O_x := Lib.hid o_x
  have L_x := Lib.hid o_x.len
  have Z_W4 : W3.heap.size ≤ W4.heap.size := b_x.size
  replace O_w := Lib.hid (O_w.out.below b_x)
  replace B := Lib.hid (B.out.trans (b_x.mono B.out.size))
  clear o_x b_x
  have h_x : n_x ≤ 1048576 := by rw [← L_x.out, L0.out]; omega
  go_wp2_with fail
  refine (laws_toIntS _ _ _ _ _ (S1.out.below B.out) (by omega)).mono ?_
  rintro e W5 ⟨a_y, n_y, c_y, rfl, o_y, b_y⟩
  have O_y := Lib.hid o_y
  have L_y := Lib.hid o_y.len
  have Z_W5 : W4.heap.size ≤ W5.heap.size := b_y.size
  replace O_w := Lib.hid (O_w.out.below b_y)
  replace O_x := Lib.hid (O_x.out.below b_y)
  replace B := Lib.hid (B.out.trans (b_y.mono B.out.size))
  clear o_y b_y
  have h_y : n_y ≤ 1048576 := by rw [← L_y.out, L1.out]; omega
  go_wp2_with fail
  refine (impl_PolyMul _ _ _ _ _ _ _ _ _ O_x.out.sl O_y.out.sl).mono ?_
  rintro e W6 ⟨a_g, n_g, c_g, rfl, o_g, b_g⟩
  have O_g := Lib.hid o_g
  have L_g := Lib.hid o_g.len
  have Z_W6 : W5.heap.size ≤ W6.heap.size := b_g.size
  replace O_w := Lib.hid (O_w.out.below b_g)
  replace O_x := Lib.hid (O_x.out.below b_g)
  replace O_y := Lib.hid (O_y.out.below b_g)
  replace B := Lib.hid (B.out.trans (b_g.mono B.out.size))
  clear o_g b_g
  have h_g : n_g ≤ 9 := by rw [← L_g.out]; exact pl.out
  go_wp2_with fail
  refine (laws_eqIntS _ _ _ _ _ _ _ _ _ O_g.out.sl O_w.out.sl (by omega) (by omega)).mono ?_
  rintro e W7 hd
  obtain ⟨rfl, b_d⟩ := hd.below
  have Z_W7 : W6.heap.size ≤ W7.heap.size := b_d.size
  clear hd
  replace O_w := Lib.hid (O_w.out.below b_d)
  replace O_x := Lib.hid (O_x.out.below b_d)
  replace O_y := Lib.hid (O_y.out.below b_d)
  replace O_g := Lib.hid (O_g.out.below b_d)
  replace B := Lib.hid (B.out.trans (b_d.mono B.out.size))
  clear b_d
  go_wp2_with fail
  refine (laws_toIntS _ _ _ _ _ (S0.out.below B.out) (by omega)).mono ?_
  rintro e W8 ⟨a_s, n_s, c_s, rfl, o_s, b_s⟩
  have O_s := Lib.hid o_s
  have L_s := Lib.hid o_s.len
  have Z_W8 : W7.heap.size ≤ W8.heap.size := b_s.size
  replace O_w := Lib.hid (O_w.out.below b_s)
  replace O_x := Lib.hid (O_x.out.below b_s)
  replace O_y := Lib.hid (O_y.out.below b_s)
  replace O_g := Lib.hid (O_g.out.below b_s)
  replace B := Lib.hid (B.out.trans (b_s.mono B.out.size))
  clear o_s b_s
  have h_s : n_s ≤ 1048576 := by rw [← L_s.out, L0.out]; omega
  go_wp2_with fail
  refine (laws_eqIntS _ _ _ _ _ _ _ _ _ O_x.out.sl O_s.out.sl (by omega) (by omega)).mono ?_
  rintro e W9 hd
  obtain ⟨rfl, b_d⟩ := hd.below
  have Z_W9 : W8.heap.size ≤ W9.heap.size := b_d.size
  clear hd
  replace O_w := Lib.hid (O_w.out.below b_d)
  replace O_x := Lib.hid (O_x.out.below b_d)
  replace O_y := Lib.hid (O_y.out.below b_d)
  replace O_g := Lib.hid (O_g.out.below b_d)
  replace O_s := Lib.hid (O_s.out.below b_d)
  replace B := Lib.hid (B.out.trans (b_d.mono B.out.size))
  clear b_d
  go_wp2_with fail
  refine (laws_toIntS _ _ _ _ _ (S1.out.below B.out) (by omega)).mono ?_
  rintro e W10 ⟨a_t, n_t, c_t, rfl, o_t, b_t⟩
  have O_t := Lib.hid o_t
  have L_t := Lib.hid o_t.len
  have Z_W10 : W9.heap.size ≤ W10.heap.size := b_t.size
  replace O_w := Lib.hid (O_w.out.below b_t)
  replace O_x := Lib.hid (O_x.out.below b_t)
  replace O_y := Lib.hid (O_y.out.below b_t)
  replace O_g := Lib.hid (O_g.out.below b_t)
  replace O_s := Lib.hid (O_s.out.below b_t)
  replace B := Lib.hid (B.out.trans (b_t.mono B.out.size))
  clear o_t b_t
  have h_t : n_t ≤ 1048576 := by rw [← L_t.out, L1.out]; omega
  go_wp2_with fail
  refine (laws_eqIntS _ _ _ _ _ _ _ _ _ O_y.out.sl O_t.out.sl (by omega) (by omega)).mono ?_
  rintro e W11 hd
  obtain ⟨rfl, b_d⟩ := hd.below
  have Z_W11 : W10.heap.size ≤ W11.heap.size := b_d.size
  clear hd
  replace O_w := Lib.hid (O_w.out.below b_d)
  replace O_x := Lib.hid (O_x.out.below b_d)
  replace O_y := Lib.hid (O_y.out.below b_d)
  replace O_g := Lib.hid (O_g.out.below b_d)
  replace O_s := Lib.hid (O_s.out.below b_d)
  replace O_t := Lib.hid (O_t.out.below b_d)
  replace B := Lib.hid (B.out.trans (b_d.mono B.out.size))
  clear b_d
  clear O_s O_t
  go_wp2_with fail
  refine (laws_markIntS _ _ _ _ _ _ _ _ O_x.out (by omega) (by omega) (by omega)).mono ?_
  rintro e W12 ⟨rfl, o_m, ch, sz⟩
  replace O_w := Lib.hid (O_w.out.keep ch (fun b h1 h2 h3 hp => by have := hp.1; have := hp.2; omega))
  replace O_y := Lib.hid (O_y.out.keep ch (fun b h1 h2 h3 hp => by have := hp.1; have := hp.2; omega))
  replace O_g := Lib.hid (O_g.out.keep ch (fun b h1 h2 h3 hp => by have := hp.1; have := hp.2; omega))
  replace O_x := Lib.hid o_m
  have Z_W12 : W11.heap.size ≤ W12.heap.size := by omega
  replace B := Lib.hid (B.out.trans (ch.below B.out.size (fun k hp => by have := hp.1; omega)))
  clear o_m ch sz
  go_wp2_with fail
  refine (laws_markIntS _ _ _ _ _ _ _ _ O_y.out (by omega) (by omega) (by omega)).mono ?_
  rintro e W13 ⟨rfl, o_m, ch, sz⟩
  replace O_w := Lib.hid (O_w.out.keep ch (fun b h1 h2 h3 hp => by have := hp.1; have := hp.2; omega))
  replace O_x := Lib.hid (O_x.out.keep ch (fun b h1 h2 h3 hp => by have := hp.1; have := hp.2; omega))
  replace O_g := Lib.hid (O_g.out.keep ch (fun b h1 h2 h3 hp => by have := hp.1; have := hp.2; omega))
  replace O_y := Lib.hid o_m
  have Z_W13 : W12.heap.size ≤ W13.heap.size := by omega
  replace B := Lib.hid (B.out.trans (ch.below B.out.size (fun k hp => by have := hp.1; omega)))
  clear o_m ch sz
  go_wp2_with fail
  refine (laws_eqIntS _ _ _ _ _ _ _ _ _ O_g.out.sl O_w.out.sl (by omega) (by omega)).mono ?_
  rintro e W14 hd
  obtain ⟨rfl, b_d⟩ := hd.below
  have Z_W14 : W13.heap.size ≤ W14.heap.size := b_d.size
  clear hd
  replace O_w := Lib.hid (O_w.out.below b_d)
  replace O_x := Lib.hid (O_x.out.below b_d)
  replace O_y := Lib.hid (O_y.out.below b_d)
  replace O_g := Lib.hid (O_g.out.below b_d)
  replace B := Lib.hid (B.out.trans (b_d.mono B.out.size))
  clear b_d
  clear O_x O_y
  go_wp2_with fail
  refine (laws_markIntS _ _ _ _ _ _ _ _ O_g.out (by omega) (by omega) (by omega)).mono ?_
  rintro e W15 ⟨rfl, o_m, ch, sz⟩
  replace O_w := Lib.hid (O_w.out.keep ch (fun b h1 h2 h3 hp => by have := hp.1; have := hp.2; omega))
  replace O_g := Lib.hid o_m
  have Z_W15 : W14.heap.size ≤ W15.heap.size := by omega
  replace B := Lib.hid (B.out.trans (ch.below B.out.size (fun k hp => by have := hp.1; omega)))
  clear o_m ch sz
  go_wp2_with fail
  refine (laws_heldIntS _ _ _ _ _ O_g.out.sl (by omega) (by omega) (by omega)).mono ?_
  rintro e w' ⟨rfl, rfl⟩
  go_wp2_with fail
  refine (laws_toIntS _ _ _ _ _ (S0.out.below B.out) (by omega)).mono ?_
  rintro e W16 ⟨a_u, n_u, c_u, rfl, o_u, b_u⟩
  have O_u := Lib.hid o_u
  have L_u := Lib.hid o_u.len
  have Z_W16 : W15.heap.size ≤ W16.heap.size := b_u.size
  replace O_w := Lib.hid (O_w.out.below b_u)
  replace O_g := Lib.hid (O_g.out.below b_u)
  replace B := Lib.hid (B.out.trans (b_u.mono B.out.size))
  clear o_u b_u
  go_wp2_with fail
  refine (laws_toIntS _ _ _ _ _ (S1.out.below B.out) (by omega)).mono ?_
  rintro e W17 ⟨a_v, n_v, c_v, rfl, o_v, b_v⟩
  have O_v := Lib.hid o_v
  have L_v := Lib.hid o_v.len
  have Z_W17 : W16.heap.size ≤ W17.heap.size := b_v.size
  replace O_w := Lib.hid (O_w.out.below b_v)
  replace O_g := Lib.hid (O_g.out.below b_v)
  replace O_u := Lib.hid (O_u.out.below b_v)
  replace B := Lib.hid (B.out.trans (b_v.mono B.out.size))
  clear o_v b_v
  go_wp2_with fail
  refine (impl_PolyMul _ _ _ _ _ _ _ _ _ O_u.out.sl O_v.out.sl).mono ?_
  rintro e W18 ⟨a_h, n_h, c_h, rfl, o_h, b_h⟩
  have O_h := Lib.hid o_h
  have L_h := Lib.hid o_h.len
  have Z_W18 : W17.heap.size ≤ W18.heap.size := b_h.size
  replace O_w := Lib.hid (O_w.out.below b_h)
  replace O_g := Lib.hid (O_g.out.below b_h)
  replace O_u := Lib.hid (O_u.out.below b_h)
  replace O_v := Lib.hid (O_v.out.below b_h)
  replace B := Lib.hid (B.out.trans (b_h.mono B.out.size))
  clear o_h b_h
  have h_h : n_h ≤ 9 := by rw [← L_h.out]; exact pl.out
  go_wp2_with fail
  refine (laws_eqIntS _ _ _ _ _ _ _ _ _ O_h.out.sl O_w.out.sl (by omega) (by omega)).mono ?_
  rintro e W19 hd
  obtain ⟨rfl, b_d⟩ := hd.below
  have Z_W19 : W18.heap.size ≤ W19.heap.size := b_d.size
  clear hd
  replace O_w := Lib.hid (O_w.out.below b_d)
  replace O_g := Lib.hid (O_g.out.below b_d)
  replace O_u := Lib.hid (O_u.out.below b_d)
  replace O_v := Lib.hid (O_v.out.below b_d)
  replace O_h := Lib.hid (O_h.out.below b_d)
  replace B := Lib.hid (B.out.trans (b_d.mono B.out.size))
  clear b_d
  go_wp2_with fail
  refine (laws_heldIntS _ _ _ _ _ O_g.out.sl (by omega) (by omega) (by omega)).mono ?_
  rintro e w' ⟨rfl, rfl⟩
  go_wp2
  go_ret
  exact ⟨rfl, B.out⟩

/-! ### THE ROW's STEP: WRITTEN OUT: LEAVE IT -/
set_option maxRecDepth 100000 in
theorem lifted (os : Os) (started : os.Started) (H : Type) (enc : TypeId × Value → H) :
    ReturnsInHanded {} Try.checked os 8 .any (Rows.fnExactPolyMulSpec.pre6 enc Try.prog Try.f8 Rows.fnExactPolyMulRow.domain false) (Rows.fnExactPolyMulSpec.post enc Try.prog Try.f8 false true false false) := by
  refine returnsInHanded_of_change (C := Try.checked) own started (by kernel_rfl) Try.func8
    (ChangeSpec.witness6 (enc := enc) (C := Try.checked) false ⟨#[], #[.slice none 0 0, .slice none 0 0], []⟩ 8 (by kernel_rfl) (by kernel_rfl) (by kernel_rfl) (by kernel_rfl)) ?_
  intro W base args ds gs before hval0 hW hcnd _
  have hval : ∀ (j : Nat) t v, Try.f8.params[j]? = some t → args[j]? = some v → Value.okWide Try.prog W .any base t v := hval0
  have hW' := hW
  obtain ⟨p, q, hA0, hV, rfl, hfz, hnd⟩ := hW
  have hA : DataW.TrodAll enc Try.prog W 0 (fun _ => true) true Try.f8.params.toList args.toList ds p := hA0
  rw [Try.params8] at hA hval
  obtain ⟨v0, vs0, d0, ds0, p0, q0, hargs, rfl, rfl, h0, r0⟩ := trodAll_cons hA
  obtain ⟨v1, vs1, d1, ds1, p1, q1, rfl, rfl, rfl, h1, r1⟩ := trodAll_cons r0
  obtain ⟨rfl, rfl, rfl⟩ := trodAll_nil r1
  obtain rfl : args = #[v0, v1] := by cases args; simp_all
  obtain ⟨rfl, rfl⟩ := trodVars_none hV
  obtain ⟨a0, len0, cap0, rfl⟩ := okWide_slice Try.underlying22 (hval 0 22 v0 rfl rfl)
  have k0 := h0
  have lt0 : ∀ x ∈ p0, x.block < W.heap.size := by obtain ⟨m, hm⟩ := k0; exact DataW.trod_lt m _ _ _ hm
  obtain ⟨z0, w0⟩ : ∃ zs, IsRow .i64 W a0 len0 cap0 zs := by
    obtain ⟨fuel, hf⟩ := h0
    rcases open_ints Try.underlying22 Try.underlying3 (by kernel_rfl) hf with ⟨hcs, _⟩ | ⟨x, l, c, zs, hcs, _, hl, hm, hz, _, hcell, hwz⟩
    · simp [Value.cells] at hcs
      obtain ⟨rfl, rfl, rfl⟩ := hcs
      exact ⟨[], .inl ⟨rfl, rfl, rfl, rfl⟩⟩
    · simp [Value.cells] at hcs
      obtain ⟨rfl, rfl, rfl⟩ := hcs
      exact ⟨zs, .inr ⟨_, rfl, hl, hm, by simpa using hz, hcell, hwz⟩⟩
  obtain ⟨a1, len1, cap1, rfl⟩ := okWide_slice Try.underlying22 (hval 1 22 v1 rfl rfl)
  have k1 := h1
  have lt1 : ∀ x ∈ p1, x.block < W.heap.size := by obtain ⟨m, hm⟩ := k1; exact DataW.trod_lt m _ _ _ hm
  obtain ⟨z1, w1⟩ : ∃ zs, IsRow .i64 W a1 len1 cap1 zs := by
    obtain ⟨fuel, hf⟩ := h1
    rcases open_ints Try.underlying22 Try.underlying3 (by kernel_rfl) hf with ⟨hcs, _⟩ | ⟨x, l, c, zs, hcs, _, hl, hm, hz, _, hcell, hwz⟩
    · simp [Value.cells] at hcs
      obtain ⟨rfl, rfl, rfl⟩ := hcs
      exact ⟨[], .inl ⟨rfl, rfl, rfl, rfl⟩⟩
    · simp [Value.cells] at hcs
      obtain ⟨rfl, rfl, rfl⟩ := hcs
      exact ⟨zs, .inr ⟨_, rfl, hl, hm, by simpa using hz, hcell, hwz⟩⟩
  clear hA0 hval0
  refine (walk a0 len0 cap0 z0 a1 len1 cap1 z1 W w0 w1).mono fun e W' ⟨he, bel⟩ => ?_
  subst he
  exact ⟨_, rfl, _, _, _, [], _, [], hW', trodAll_mk1 (shut_bool Try.underlying4 _), (trodAll_cons_mk (Below.trod laidOut (by kernel_rfl) (of_decide_eq_true (by kernel_rfl)) k0 bel lt0) (trodAll_cons_mk (Below.trod laidOut (by kernel_rfl) (of_decide_eq_true (by kernel_rfl)) k1 bel lt1) trodAll_mk0)), rfl, bel.frame _, fun h => by cases h⟩

theorem over : Rows.fnExactPolyMulRow.holds Try.pinned (OpenSpec.ofChange Rows.fnExactPolyMulSpec) :=
  OpenClaim.holds_of_wide 8 Try.f8 rfl rfl rfl rfl rfl rfl rfl ⟨rfl, rfl, rfl, rfl, rfl⟩ rfl rfl rfl rfl rfl (by kernel_rfl) Try.func8 (by kernel_rfl)
    (of_decide_eq_true (by kernel_rfl)) (by unfold Func.isWrapper; first | (rw [if_pos (by decide +kernel)]; kernel_rfl) | (rw [if_neg (by decide +kernel)]; exact ⟨rfl, rfl⟩))
    (fun os started H enc _ => lifted os started H enc)

/-- ████ THE STATEMENT ████ -/
theorem proved : Rows.FnExactPolyMulSaid := over
#print axioms proved
end Go.Proofs.Ytbehnbemhnnmfaa.fnExactPolyMul
