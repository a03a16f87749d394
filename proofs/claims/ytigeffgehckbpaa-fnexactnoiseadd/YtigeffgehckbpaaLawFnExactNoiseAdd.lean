/-
  The program's NoiseAdd answers as the model's for every three arguments, writes into none, and its answer owns its memory: the law FnExactNoiseAdd returns true.
  Conditions: none but the statement's own. Proved: Rows.FnExactNoiseAddSaid.
-/
import Derived.Test.YtigeffgehckbpaaRows
import Derived.WalkKit
import Derived.ProofKit
import Derived.OpenShut
import Derived.ShutString
import Derived.ChangeOld
import Derived.Below
import Derived.Test.YtigeffgehckbpaaFp
import Derived.Test.YtigeffgehckbpaaRa
import Derived.Test.YtigeffgehckbpaaBase
import Derived.Test.YtigeffgehckbpaaField
import Derived.Test.YtigeffgehckbpaaDraw
import Derived.Test.YtigeffgehckbpaaSl
import Derived.Test.YtigeffgehckbpaaLw
import Derived.Test.YtigeffgehckbpaaRand
import Derived.Test.YtigeffgehckbpaaNoz
import Derived.Test.YtigeffgehckbpaaNoi
import Derived.Test.YtigeffgehckbpaaDlist
import Derived.Test.YtigeffgehckbpaaCat
import Derived.Test.YtigeffgehckbpaaNos
namespace Go.Proofs.Ytigeffgehckbpaa.fnExactNoiseAdd
open Go.ChangeShapes Go.WideShapes Go.ChangeAt Go.RowKit
open Go.ChangeMaps (open_string shut_string)
set_option linter.unusedVariables false
set_option linter.unusedSimpArgs false

theorem own : ownKnob Try.prog.godebug = none := by kernel_rfl
theorem laidOut : laidOutB Try.prog = true := by kernel_rfl

set_option maxHeartbeats 1000000 in
set_option maxRecDepth 100000 in
theorem walk (a0 : Option Addr) (len0 cap0 : Nat) (z0 : List Int) (a1 : Int) (a2 : Int) (w : World) (w0 : IsRow .i64 w a0 len0 cap0 z0) (w1 : (Lit.int .i64 a1).wf = true) (w2 : (Lit.int .i64 a2).wf = true) :
    Calls Try.prog 6 #[.slice a0 len0 cap0, .int .i64 a1, .int .i64 a2] w fun e w' => e = .returned (.bool true) ∧ Below w.heap.size w w' := by
  by_cases hl : 1048576 < len0
  · go_enter Try.func6, Try.ntmps6
    go_wp2
    go_ret
    exact ⟨rfl, Below.refl _ _⟩
  have S0 := Lib.hid (Sl.of_row w0)
  have L0 := Lib.hid S0.out.len
  clear w0 w1 w2
  generalize List.take len0 z0 = xs at S0 L0
  have e1 := eqB_self xs
  have e3 := eqB_self (Fp.nadd xs a1 a2)
  have pl := Lib.hid (Fp.nadd_len xs a1 a2)
  have B := Lib.hid (Below.refl w.heap.size w)
  go_enter Try.func6, Try.ntmps6
  go_wp2_with fail
  refine (laws_toIntS _ _ _ _ _ S0.out (by omega)).mono ?_
  rintro e W1 ⟨a_p, n_p, c_p, rfl, o_p, b_p⟩
  have O_p := Lib.hid o_p
  have L_p := Lib.hid o_p.len
  have Z_W1 : w.heap.size ≤ W1.heap.size := b_p.size
  replace B := Lib.hid (B.out.trans (b_p.mono B.out.size))
  clear o_p b_p
  have h_p : n_p ≤ 1048576 := by rw [← L_p.out, L0.out]; omega
  go_wp2_with fail
  refine (spec_NoiseAdd _ _ _ _ _ _ _ O_p.out.sl h_p).mono ?_
  rintro e W2 ⟨a_w, n_w, c_w, rfl, o_w, b_w⟩
  have O_w := Lib.hid o_w
  have L_w := Lib.hid o_w.len
  have Z_W2 : W1.heap.size ≤ W2.heap.size := b_w.size
  replace O_p := Lib.hid (O_p.out.below b_w)
  replace B := Lib.hid (B.out.trans (b_w.mono B.out.size))
  clear o_w b_w
  have h_w : n_w ≤ 20 := by rw [← L_w.out]; exact pl.out
  clear O_p
  go_wp2_with fail
  refine (laws_toIntS _ _ _ _ _ (S0.out.below B.out) (by omega)).mono ?_
  rintro e W3 ⟨a_x, n_x, c_x, rfl, o_x, b_x⟩
  have O_x := Lib.hid o_x
  have L_x := Lib.hid o_x.len
  have Z_W3 : W2.heap.size ≤ W3.heap.size := b_x.size
  replace O_w := Lib.hid (O_w.out.below b_x)
  replace B := Lib.hid (B.out.trans (b_x.mono B.out.size))
  clear o_x b_x
  have h_x : n_x ≤ 1048576 := by rw [← L_x.out, L0.out]; omega
  go_wp2_with fail
  refine (impl_NoiseAdd _ _ _ _ _ _ _ O_x.out.sl).mono ?_
  rintro e W4 ⟨a_g, n_g, c_g, rfl, o_g, b_g⟩
  have O_g := Lib.hid o_g
  have L_g := Lib.hid o_g.len
  have Z_W4 : W3.heap.size ≤ W4.heap.size := b_g.size
  replace O_w := Lib.hid (O_w.out.below b_g)
  replace O_x := Lib.hid (O_x.out.below b_g)
  replace B := Lib.hid (B.out.trans (b_g.mono B.out.size))
  clear o_g b_g
  have h_g : n_g ≤ 20 := by rw [← L_g.out]; exact pl.out
  go_wp2_with fail
  refine (laws_eqIntS _ _ _ _ _ _ _ _ _ O_g.out.sl O_w.out.sl (by omega) (by omega)).mono ?_
  rintro e W5 hd
  obtain ⟨rfl, b_d⟩ := hd.below
  have Z_W5 : W4.heap.size ≤ W5.heap.size := b_d.size
  clear hd
  replace O_w := Lib.hid (O_w.out.below b_d)
  replace O_x := Lib.hid (O_x.out.below b_d)
  replace O_g := Lib.hid (O_g.out.below b_d)
  replace B := Lib.hid (B.out.trans (b_d.mono B.out.size))
  clear b_d
  go_wp2_with fail
  refine (laws_toIntS _ _ _ _ _ (S0.out.below B.out) (by omega)).mono ?_
  rintro e W6 ⟨a_s, n_s, c_s, rfl, o_s, b_s⟩
  have O_s := Lib.hid o_s
  have L_s := Lib.hid o_s.len
  have Z_W6 : W5.heap.size ≤ W6.heap.size := b_s.size
  replace O_w := Lib.hid (O_w.out.below b_s)
  replace O_x := Lib.hid (O_x.out.below b_s)
  replace O_g := Lib.hid (O_g.out.below b_s)
  replace B := Lib.hid (B.out.trans (b_s.mono B.out.size))
  clear o_s b_s
  have h_s : n_s ≤ 1048576 := by rw [← L_s.out, L0.out]; omega
  go_wp2_with fail
  refine (laws_eqIntS _ _ _ _ _ _ _ _ _ O_x.out.sl O_s.out.sl (by omega) (by omega)).mono ?_
  rintro e W7 hd
  obtain ⟨rfl, b_d⟩ := hd.below
  have Z_W7 : W6.heap.size ≤ W7.heap.size := b_d.size
  clear hd
  replace O_w := Lib.hid (O_w.out.below b_d)
  replace O_x := Lib.hid (O_x.out.below b_d)
  replace O_g := Lib.hid (O_g.out.below b_d)
  replace O_s := Lib.hid (O_s.out.below b_d)
  replace B := Lib.hid (B.out.trans (b_d.mono B.out.size))
  clear b_d
  clear O_s
  go_wp2_with fail
  refine (laws_markIntS _ _ _ _ _ _ _ _ O_x.out (by omega) (by omega) (by omega)).mono ?_
  rintro e W8 ⟨rfl, o_m, ch, sz⟩
  replace O_w := Lib.hid (O_w.out.keep ch (fun b h1 h2 h3 hp => by have := hp.1; have := hp.2; omega))
  replace O_g := Lib.hid (O_g.out.keep ch (fun b h1 h2 h3 hp => by have := hp.1; have := hp.2; omega))
  replace O_x := Lib.hid o_m
  have Z_W8 : W7.heap.size ≤ W8.heap.size := by omega
  replace B := Lib.hid (B.out.trans (ch.below B.out.size (fun k hp => by have := hp.1; omega)))
  clear o_m ch sz
  go_wp2_with fail
  refine (laws_eqIntS _ _ _ _ _ _ _ _ _ O_g.out.sl O_w.out.sl (by omega) (by omega)).mono ?_
  rintro e W9 hd
  obtain ⟨rfl, b_d⟩ := hd.below
  have Z_W9 : W8.heap.size ≤ W9.heap.size := b_d.size
  clear hd
  replace O_w := Lib.hid (O_w.out.below b_d)
  replace O_x := Lib.hid (O_x.out.below b_d)
  replace O_g := Lib.hid (O_g.out.below b_d)
  replace B := Lib.hid (B.out.trans (b_d.mono B.out.size))
  clear b_d
  clear O_x
  go_wp2_with fail
  refine (laws_markIntS _ _ _ _ _ _ _ _ O_g.out (by omega) (by omega) (by omega)).mono ?_
  rintro e W10 ⟨rfl, o_m, ch, sz⟩
  replace O_w := Lib.hid (O_w.out.keep ch (fun b h1 h2 h3 hp => by have := hp.1; have := hp.2; omega))
  replace O_g := Lib.hid o_m
  have Z_W10 : W9.heap.size ≤ W10.heap.size := by omega
  replace B := Lib.hid (B.out.trans (ch.below B.out.size (fun k hp => by have := hp.1; omega)))
  clear o_m ch sz
  go_wp2_with fail
  refine (laws_heldIntS _ _ _ _ _ O_g.out.sl (by omega) (by omega) (by omega)).mono ?_
  rintro e w' ⟨rfl, rfl⟩
  go_wp2_with fail
  refine (laws_toIntS _ _ _ _ _ (S0.out.below B.out) (by omega)).mono ?_
  rintro e W11 ⟨a_u, n_u, c_u, rfl, o_u, b_u⟩
  have O_u := Lib.hid o_u
  have L_u := Lib.hid o_u.len
  have Z_W11 : W10.heap.size ≤ W11.heap.size := b_u.size
  replace O_w := Lib.hid (O_w.out.below b_u)
  replace O_g := Lib.hid (O_g.out.below b_u)
  replace B := Lib.hid (B.out.trans (b_u.mono B.out.size))
  clear o_u b_u
  go_wp2_with fail
  refine (impl_NoiseAdd _ _ _ _ _ _ _ O_u.out.sl).mono ?_
  rintro e W12 ⟨a_h, n_h, c_h, rfl, o_h, b_h⟩
  have O_h := Lib.hid o_h
  have L_h := Lib.hid o_h.len
  have Z_W12 : W11.heap.size ≤ W12.heap.size := b_h.size
  replace O_w := Lib.hid (O_w.out.below b_h)
  replace O_g := Lib.hid (O_g.out.below b_h)
  replace O_u := Lib.hid (O_u.out.below b_h)
  replace B := Lib.hid (B.out.trans (b_h.mono B.out.size))
  clear o_h b_h
  have h_h : n_h ≤ 20 := by rw [← L_h.out]; exact pl.out
  go_wp2_with fail
  refine (laws_eqIntS _ _ _ _ _ _ _ _ _ O_h.out.sl O_w.out.sl (by omega) (by omega)).mono ?_
  rintro e W13 hd
  obtain ⟨rfl, b_d⟩ := hd.below
  have Z_W13 : W12.heap.size ≤ W13.heap.size := b_d.size
  clear hd
  replace O_w := Lib.hid (O_w.out.below b_d)
  replace O_g := Lib.hid (O_g.out.below b_d)
  replace O_u := Lib.hid (O_u.out.below b_d)
  replace O_h := Lib.hid (O_h.out.below b_d)
  replace B := Lib.hid (B.out.trans (b_d.mono B.out.size))
  clear b_d
  go_wp2_with fail
  refine (laws_heldIntS _ _ _ _ _ O_g.out.sl (by omega) (by omega) (by omega)).mono ?_
  rintro e w' ⟨rfl, rfl⟩
  go_wp2
  go_ret
  exact ⟨rfl, B.out⟩

/-! ### THE ROW's STEP: WRITTEN OUT: LEAVE IT -/
set_option maxRecDepth 100000 in
theorem lifted (os : Os) (started : os.Started) (H : Type) (enc : TypeId × Value → H) :
    ReturnsInHanded {} Try.checked os 6 .any (Rows.fnExactNoiseAddSpec.pre6 enc Try.prog Try.f6 Rows.fnExactNoiseAddRow.domain false) (Rows.fnExactNoiseAddSpec.post enc Try.prog Try.f6 false true false false) := by
  refine returnsInHanded_of_change (C := Try.checked) own started (by kernel_rfl) Try.func6
    (ChangeSpec.witness6 (enc := enc) (C := Try.checked) false ⟨#[], #[.slice none 0 0, .int .i64 0, .int .i64 0], []⟩ 8 (by kernel_rfl) (by kernel_rfl) (by kernel_rfl) (by kernel_rfl)) ?_
  intro W base args ds gs before hval0 hW hcnd _
  have hval : ∀ (j : Nat) t v, Try.f6.params[j]? = some t → args[j]? = some v → Value.okWide Try.prog W .any base t v := hval0
  have hW' := hW
  obtain ⟨p, q, hA0, hV, rfl, hfz, hnd⟩ := hW
  have hA : DataW.TrodAll enc Try.prog W 0 (fun _ => true) true Try.f6.params.toList args.toList ds p := hA0
  rw [Try.params6] at hA hval
  obtain ⟨v0, vs0, d0, ds0, p0, q0, hargs, rfl, rfl, h0, r0⟩ := trodAll_cons hA
  obtain ⟨v1, vs1, d1, ds1, p1, q1, rfl, rfl, rfl, h1, r1⟩ := trodAll_cons r0
  obtain ⟨v2, vs2, d2, ds2, p2, q2, rfl, rfl, rfl, h2, r2⟩ := trodAll_cons r1
  obtain ⟨rfl, rfl, rfl⟩ := trodAll_nil r2
  obtain rfl : args = #[v0, v1, v2] := by cases args; simp_all
  obtain ⟨rfl, rfl⟩ := trodVars_none hV
  obtain ⟨a0, len0, cap0, rfl⟩ := okWide_slice Try.underlying26 (hval 0 26 v0 rfl rfl)
  have k0 := h0
  have lt0 : ∀ x ∈ p0, x.block < W.heap.size := by obtain ⟨m, hm⟩ := k0; exact DataW.trod_lt m _ _ _ hm
  obtain ⟨z0, w0⟩ : ∃ zs, IsRow .i64 W a0 len0 cap0 zs := by
    obtain ⟨fuel, hf⟩ := h0
    rcases open_ints Try.underlying26 Try.underlying3 (by kernel_rfl) hf with ⟨hcs, _⟩ | ⟨x, l, c, zs, hcs, _, hl, hm, hz, _, hcell, hwz⟩
    · simp [Value.cells] at hcs
      obtain ⟨rfl, rfl, rfl⟩ := hcs
      exact ⟨[], .inl ⟨rfl, rfl, rfl, rfl⟩⟩
    · simp [Value.cells] at hcs
      obtain ⟨rfl, rfl, rfl⟩ := hcs
      exact ⟨zs, .inr ⟨_, rfl, hl, hm, by simpa using hz, hcell, hwz⟩⟩
  obtain ⟨a1, rfl, rfl, rfl, w1⟩ := open_int Try.underlying3 (hval 1 3 v1 rfl rfl) h1
  obtain ⟨a2, rfl, rfl, rfl, w2⟩ := open_int Try.underlying3 (hval 2 3 v2 rfl rfl) h2
  clear hA0 hval0
  refine (walk a0 len0 cap0 z0 a1 a2 W w0 w1 w2).mono fun e W' ⟨he, bel⟩ => ?_
  subst he
  exact ⟨_, rfl, _, _, _, [], _, [], hW', trodAll_mk1 (shut_bool Try.underlying4 _), (trodAll_cons_mk (Below.trod laidOut (by kernel_rfl) (of_decide_eq_true (by kernel_rfl)) k0 bel lt0) (trodAll_cons_mk (shut_int Try.underlying3 w1) (trodAll_cons_mk (shut_int Try.underlying3 w2) trodAll_mk0))), rfl, bel.frame _, fun h => by cases h⟩

theorem over : Rows.fnExactNoiseAddRow.holds Try.pinned (OpenSpec.ofChange Rows.fnExactNoiseAddSpec) :=
  OpenClaim.holds_of_wide 6 Try.f6 rfl rfl rfl rfl rfl rfl rfl ⟨rfl, rfl, rfl, rfl, rfl⟩ rfl rfl rfl rfl rfl (by kernel_rfl) Try.func6 (by kernel_rfl)
    (of_decide_eq_true (by kernel_rfl)) (by unfold Func.isWrapper; first | (rw [if_pos (by decide +kernel)]; kernel_rfl) | (rw [if_neg (by decide +kernel)]; exact ⟨rfl, rfl⟩))
    (fun os started H enc _ => lifted os started H enc)

/-- ████ THE STATEMENT ████ -/
theorem proved : Rows.FnExactNoiseAddSaid := over
#print axioms proved
end Go.Proofs.Ytigeffgehckbpaa.fnExactNoiseAdd
