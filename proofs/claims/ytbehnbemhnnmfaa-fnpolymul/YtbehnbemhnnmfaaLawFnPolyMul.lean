/-
  A product of polynomials is the product of their values at each place, in either order: the law FnPolyMul returns true for every two codes.
  Conditions: none but the statement's own. Proved: Rows.FnPolyMulSaid.
-/
import Derived.Test.YtbehnbemhnnmfaaRows
import Derived.WalkKit
import Derived.ProofKit
import Derived.OpenShut
import Derived.ShutString
import Derived.ChangeOld
import Derived.Below
import Derived.Test.YtbehnbemhnnmfaaFp
import Derived.Test.YtbehnbemhnnmfaaBase
import Derived.Test.YtbehnbemhnnmfaaField
import Derived.Test.YtbehnbemhnnmfaaSl
import Derived.Test.YtbehnbemhnnmfaaLw
import Derived.Test.YtbehnbemhnnmfaaPoly
import Derived.Test.YtbehnbemhnnmfaaPmul
import Derived.Test.YtbehnbemhnnmfaaDraw
import Derived.Test.YtbehnbemhnnmfaaDlist
namespace Go.Proofs.Ytbehnbemhnnmfaa.fnPolyMul
open Go.ChangeShapes Go.WideShapes Go.ChangeAt Go.RowKit
open Go.ChangeMaps (open_string shut_string)
set_option linter.unusedVariables false
set_option linter.unusedSimpArgs false

theorem own : ownKnob Try.prog.godebug = none := by kernel_rfl
theorem laidOut : laidOutB Try.prog = true := by kernel_rfl

theorem mulB_short {xs ys : List Int} (hx : Fp.pok xs = true) (hy : Fp.pok ys = true) (h : Fp.mulB xs ys = false) : 9 < (xs.length : Int) + (ys.length : Int) - 1 := by
  have h1 : ¬ (Fp.mulL xs ys).length ≤ 9 := fun hh => by rw [Fp.mulB_yes hx hy hh] at h; cases h
  have h2 := Fp.mulL_len' (a := xs) (b := ys)
  omega
theorem mul_at {xs ys : List Int} {x : Int} (h : Fp.mulB xs ys = true) (hx : Fp.ok x = true) : Fp.at_ (Fp.pmul xs ys) x = Fp.mul (Fp.at_ xs x) (Fp.at_ ys x) := by
  obtain ⟨h1, h2, h3⟩ := Fp.mulB_iff.1 h
  rw [Fp.at_eq Fp.pmul_pok hx, Fp.at_eq h1 hx, Fp.at_eq h2 hx, Fp.pmul_yes h, Fp.mul_eq (Fp.horn_ok _ _) (Fp.horn_ok _ _), Fp.horn_ev, Fp.horn_ev, Fp.horn_ev]
  exact (Fp.mulL_ev xs ys x).trans ((Fp.cg_mod _).mul (Fp.cg_mod _)).symm
theorem mul_back {xs ys : List Int} (h : Fp.mulB xs ys = true) : Fp.mulB ys xs = true ∧ Fp.pmul ys xs = Fp.pmul xs ys := by
  obtain ⟨h1, h2, h3⟩ := Fp.mulB_iff.1 h
  have l1 := Fp.pok_len h1
  have l2 := Fp.pok_len h2
  have e := Fp.mulL_comm (a := xs) (b := ys) (by omega)
  have hb : Fp.mulB ys xs = true := Fp.mulB_yes h2 h1 (by rw [← e]; exact h3)
  exact ⟨hb, by rw [Fp.pmul_yes hb, Fp.pmul_yes h, e]⟩
set_option maxHeartbeats 1000000 in
set_option maxRecDepth 100000 in
theorem walk (a0 : Option Addr) (len0 cap0 : Nat) (z0 : List Int) (a1 : Option Addr) (len1 cap1 : Nat) (z1 : List Int) (w : World) (w0 : IsRow .u8 w a0 len0 cap0 z0) (w1 : IsRow .u8 w a1 len1 cap1 z1) :
    Calls Try.prog 9 #[.slice a0 len0 cap0, .slice a1 len1 cap1] w fun e w' => e = .returned (.bool true) ∧ Below w.heap.size w w' := by
  obtain ⟨c1, c2⟩ := w0.sizes
  obtain ⟨d1, d2⟩ := w1.sizes
  have Hb := Lib.hid (Bys.of_row w0)
  clear w0 w1
  by_cases hl : 1048576 < len0
  · go_enter Try.func9, Try.ntmps9
    go_wp2
    go_ret
    exact ⟨rfl, Below.refl _ _⟩
  by_cases hl' : 1048576 < len1
  · go_enter Try.func9, Try.ntmps9
    go_wp2
    go_ret
    exact ⟨rfl, Below.refl _ _⟩
  have B := Lib.hid (Below.refl w.heap.size w)
  go_enter Try.func9, Try.ntmps9
  go_wp2_with fail
  refine (spec_DrawPolyMul a0 len0 cap0 w Hb.out c1 c2).mono ?_
  rintro e W1 ⟨a_x, n_x, c_x, xs, a_y, n_y, c_y, ys, mid, h_x, h_y, rfl, o_x, o_y, b_d⟩
  have Z_W1 : w.heap.size ≤ W1.heap.size := b_d.size
  have O_x := Lib.hid o_x
  have L_x := Lib.hid o_x.len
  have O_y := Lib.hid o_y
  have L_y := Lib.hid o_y.len
  replace B := Lib.hid (B.out.trans (b_d.mono B.out.size))
  clear b_d o_x o_y
  clear c1 c2 d1 d2
  have pl := Lib.hid (Fp.pok_len (Fp.pmul_pok (a := xs) (b := ys)))
  have e1 := eqB_self (Fp.pmul xs ys)
  go_wp2_with fail
  refine (spec_PolyMul _ _ _ _ _ _ _ _ _ O_x.out.sl O_y.out.sl (by omega) (by omega)).mono ?_
  rintro e W2 ⟨a_w, n_w, c_w, rfl, o_w, b_w⟩
  have O_w := Lib.hid o_w
  have L_w := Lib.hid o_w.len
  have Z_W2 : W1.heap.size ≤ W2.heap.size := b_w.size
  replace O_x := Lib.hid (O_x.out.below b_w)
  replace O_y := Lib.hid (O_y.out.below b_w)
  replace B := Lib.hid (B.out.trans (b_w.mono B.out.size))
  clear o_w b_w
  have h_w : n_w ≤ 9 := by rw [← L_w.out]; exact pl.out
  go_wp2_with fail
  refine (impl_PolyMul _ _ _ _ _ _ _ _ _ O_x.out.sl O_y.out.sl).mono ?_
  rintro e W3 ⟨a_p, n_p, c_p, rfl, o_p, b_p⟩
  have O_p := Lib.hid o_p
  have L_p := Lib.hid o_p.len
  have Z_W3 : W2.heap.size ≤ W3.heap.size := b_p.size
  replace O_x := Lib.hid (O_x.out.below b_p)
  replace O_y := Lib.hid (O_y.out.below b_p)
  replace O_w := Lib.hid (O_w.out.below b_p)
  replace B := Lib.hid (B.out.trans (b_p.mono B.out.size))
  clear o_p b_p
  have h_p : n_p ≤ 9 := by rw [← L_p.out]; exact pl.out
  cases hb : Fp.mulB xs ys
  · skip
    go_wp2_with fail
    refine (laws_loInts _ _ _ _ _ _ _ _ _ O_p.out.sl O_w.out.sl (by omega) (by omega)).mono ?_
    rintro e W4 hd
    obtain ⟨rfl, b_d⟩ := hd.below
    have Z_W4 : W3.heap.size ≤ W4.heap.size := b_d.size
    clear hd
    replace O_x := Lib.hid (O_x.out.below b_d)
    replace O_y := Lib.hid (O_y.out.below b_d)
    replace O_w := Lib.hid (O_w.out.below b_d)
    replace O_p := Lib.hid (O_p.out.below b_d)
    replace B := Lib.hid (B.out.trans (b_d.mono B.out.size))
    clear b_d
    cases hx : Fp.pok xs
    · skip
      go_wp2_with fail
      refine (spec_PolyOk _ _ _ _ _ O_x.out.sl (by omega)).mono ?_
      rintro e w' ⟨rfl, rfl⟩
      go_wp2_with fail
      refine (laws_loInts _ _ _ _ _ _ _ _ _ O_p.out.sl O_w.out.sl (by omega) (by omega)).mono ?_
      rintro e W5 hd
      obtain ⟨rfl, b_d⟩ := hd.below
      have Z_W5 : W4.heap.size ≤ W5.heap.size := b_d.size
      clear hd
      replace O_x := Lib.hid (O_x.out.below b_d)
      replace O_y := Lib.hid (O_y.out.below b_d)
      replace O_w := Lib.hid (O_w.out.below b_d)
      replace O_p := Lib.hid (O_p.out.below b_d)
      replace B := Lib.hid (B.out.trans (b_d.mono B.out.size))
      clear b_d
      go_wp2
      go_ret
      exact ⟨rfl, B.out⟩
    · skip
      go_wp2_with fail
      refine (spec_PolyOk _ _ _ _ _ O_x.out.sl (by omega)).mono ?_
      rintro e w' ⟨rfl, rfl⟩
      cases hy : Fp.pok ys
      · skip
        go_wp2_with fail
        refine (spec_PolyOk _ _ _ _ _ O_y.out.sl (by omega)).mono ?_
        rintro e w' ⟨rfl, rfl⟩
        go_wp2_with fail
        refine (laws_loInts _ _ _ _ _ _ _ _ _ O_p.out.sl O_w.out.sl (by omega) (by omega)).mono ?_
        rintro e W6 hd
        obtain ⟨rfl, b_d⟩ := hd.below
        have Z_W6 : W4.heap.size ≤ W6.heap.size := b_d.size
        clear hd
        replace O_x := Lib.hid (O_x.out.below b_d)
        replace O_y := Lib.hid (O_y.out.below b_d)
        replace O_w := Lib.hid (O_w.out.below b_d)
        replace O_p := Lib.hid (O_p.out.below b_d)
        replace B := Lib.hid (B.out.trans (b_d.mono B.out.size))
        clear b_d
        go_wp2
        go_ret
        exact ⟨rfl, B.out⟩
      · skip
        go_wp2_with fail
        refine (spec_PolyOk _ _ _ _ _ O_y.out.sl (by omega)).mono ?_
        rintro e w' ⟨rfl, rfl⟩
        have hs := mulB_short hx hy hb
        rw [L_x.out, L_y.out] at hs
        go_wp2
        go_ret
        exact ⟨rfl, B.out⟩
  · skip
    go_wp2_with fail
    refine (laws_loInts _ _ _ _ _ _ _ _ _ O_p.out.sl O_w.out.sl (by omega) (by omega)).mono ?_
    rintro e W7 hd
    obtain ⟨rfl, b_d⟩ := hd.below
    have Z_W7 : W3.heap.size ≤ W7.heap.size := b_d.size
    clear hd
    replace O_x := Lib.hid (O_x.out.below b_d)
    replace O_y := Lib.hid (O_y.out.below b_d)
    replace O_w := Lib.hid (O_w.out.below b_d)
    replace O_p := Lib.hid (O_p.out.below b_d)
    replace B := Lib.hid (B.out.trans (b_d.mono B.out.size))
    clear b_d
    obtain ⟨hx, hy, -⟩ := Fp.mulB_iff.1 hb
    obtain ⟨hb', pe⟩ := mul_back hb
    have PE := Lib.hid pe
    clear pe
    have hxo := Fp.emod_ok (len1 : Int)
    have e2 := beqT (mul_at hb hxo)
    go_wp2_with fail
    refine (spec_PolyOk _ _ _ _ _ O_x.out.sl (by omega)).mono ?_
    rintro e w' ⟨rfl, rfl⟩
    go_wp2_with fail
    refine (spec_PolyOk _ _ _ _ _ O_y.out.sl (by omega)).mono ?_
    rintro e w' ⟨rfl, rfl⟩
    go_wp2_with fail
    refine (laws_loNum _ _ (by omega)).mono ?_
    rintro e w' ⟨rfl, rfl⟩
    go_wp2_with fail
    refine (impl_PolyMul _ _ _ _ _ _ _ _ _ O_y.out.sl O_x.out.sl).mono ?_
    rintro e W8 ⟨a_q, n_q, c_q, rfl, o_q, b_q⟩
    have O_q := Lib.hid o_q
    have L_q := Lib.hid o_q.len
    have Z_W8 : W7.heap.size ≤ W8.heap.size := b_q.size
    replace O_x := Lib.hid (O_x.out.below b_q)
    replace O_y := Lib.hid (O_y.out.below b_q)
    replace O_w := Lib.hid (O_w.out.below b_q)
    replace O_p := Lib.hid (O_p.out.below b_q)
    replace B := Lib.hid (B.out.trans (b_q.mono B.out.size))
    clear o_q b_q
    rw [PE.out] at O_q L_q
    have h_q : n_q ≤ 9 := by rw [← L_q.out]; exact pl.out
    go_wp2_with fail
    refine (impl_PolyAt _ _ _ _ _ _ O_p.out.sl).mono ?_
    rintro e W9 hd
    obtain ⟨rfl, b_d⟩ := hd.below
    have Z_W9 : W8.heap.size ≤ W9.heap.size := b_d.size
    clear hd
    replace O_x := Lib.hid (O_x.out.below b_d)
    replace O_y := Lib.hid (O_y.out.below b_d)
    replace O_w := Lib.hid (O_w.out.below b_d)
    replace O_p := Lib.hid (O_p.out.below b_d)
    replace O_q := Lib.hid (O_q.out.below b_d)
    replace B := Lib.hid (B.out.trans (b_d.mono B.out.size))
    clear b_d
    go_wp2_with fail
    refine (impl_PolyAt _ _ _ _ _ _ O_x.out.sl).mono ?_
    rintro e W10 hd
    obtain ⟨rfl, b_d⟩ := hd.below
    have Z_W10 : W9.heap.size ≤ W10.heap.size := b_d.size
    clear hd
    replace O_x := Lib.hid (O_x.out.below b_d)
    replace O_y := Lib.hid (O_y.out.below b_d)
    replace O_w := Lib.hid (O_w.out.below b_d)
    replace O_p := Lib.hid (O_p.out.below b_d)
    replace O_q := Lib.hid (O_q.out.below b_d)
    replace B := Lib.hid (B.out.trans (b_d.mono B.out.size))
    clear b_d
    go_wp2_with fail
    refine (impl_PolyAt _ _ _ _ _ _ O_y.out.sl).mono ?_
    rintro e W11 hd
    obtain ⟨rfl, b_d⟩ := hd.below
    have Z_W11 : W10.heap.size ≤ W11.heap.size := b_d.size
    clear hd
    replace O_x := Lib.hid (O_x.out.below b_d)
    replace O_y := Lib.hid (O_y.out.below b_d)
    replace O_w := Lib.hid (O_w.out.below b_d)
    replace O_p := Lib.hid (O_p.out.below b_d)
    replace O_q := Lib.hid (O_q.out.below b_d)
    replace B := Lib.hid (B.out.trans (b_d.mono B.out.size))
    clear b_d
    go_wp2_with fail
    refine (impl_FieldMul _ _ _).mono ?_
    rintro e w' ⟨rfl, rfl⟩
    go_wp2_with fail
    refine (laws_loInts _ _ _ _ _ _ _ _ _ O_q.out.sl O_p.out.sl (by omega) (by omega)).mono ?_
    rintro e W12 hd
    obtain ⟨rfl, b_d⟩ := hd.below
    have Z_W12 : W11.heap.size ≤ W12.heap.size := b_d.size
    clear hd
    replace O_x := Lib.hid (O_x.out.below b_d)
    replace O_y := Lib.hid (O_y.out.below b_d)
    replace O_w := Lib.hid (O_w.out.below b_d)
    replace O_p := Lib.hid (O_p.out.below b_d)
    replace O_q := Lib.hid (O_q.out.below b_d)
    replace B := Lib.hid (B.out.trans (b_d.mono B.out.size))
    clear b_d
    go_wp2
    go_ret
    exact ⟨rfl, B.out⟩

/-! ### THE ROW's STEP: WRITTEN OUT: LEAVE IT -/
set_option maxRecDepth 100000 in
theorem lifted (os : Os) (started : os.Started) (H : Type) (enc : TypeId × Value → H) :
    ReturnsInHanded {} Try.checked os 9 .any (Rows.fnPolyMulSpec.pre6 enc Try.prog Try.f9 Rows.fnPolyMulRow.domain false) (Rows.fnPolyMulSpec.post enc Try.prog Try.f9 false true false false) := by
  refine returnsInHanded_of_change (C := Try.checked) own started (by kernel_rfl) Try.func9
    (ChangeSpec.witness6 (enc := enc) (C := Try.checked) false ⟨#[], #[.slice none 0 0, .slice none 0 0], []⟩ 8 (by kernel_rfl) (by kernel_rfl) (by kernel_rfl) (by kernel_rfl)) ?_
  intro W base args ds gs before hval0 hW hcnd _
  have hval : ∀ (j : Nat) t v, Try.f9.params[j]? = some t → args[j]? = some v → Value.okWide Try.prog W .any base t v := hval0
  have hW' := hW
  obtain ⟨p, q, hA0, hV, rfl, hfz, hnd⟩ := hW
  have hA : DataW.TrodAll enc Try.prog W 0 (fun _ => true) true Try.f9.params.toList args.toList ds p := hA0
  rw [Try.params9] at hA hval
  obtain ⟨v0, vs0, d0, ds0, p0, q0, hargs, rfl, rfl, h0, r0⟩ := trodAll_cons hA
  obtain ⟨v1, vs1, d1, ds1, p1, q1, rfl, rfl, rfl, h1, r1⟩ := trodAll_cons r0
  obtain ⟨rfl, rfl, rfl⟩ := trodAll_nil r1
  obtain rfl : args = #[v0, v1] := by cases args; simp_all
  obtain ⟨rfl, rfl⟩ := trodVars_none hV
  obtain ⟨a0, len0, cap0, rfl⟩ := okWide_slice Try.underlying28 (hval 0 28 v0 rfl rfl)
  have k0 := h0
  have lt0 : ∀ x ∈ p0, x.block < W.heap.size := by obtain ⟨m, hm⟩ := k0; exact DataW.trod_lt m _ _ _ hm
  obtain ⟨z0, w0⟩ : ∃ zs, IsRow .u8 W a0 len0 cap0 zs := by
    obtain ⟨fuel, hf⟩ := h0
    rcases open_ints Try.underlying28 Try.underlying5 (by kernel_rfl) hf with ⟨hcs, _⟩ | ⟨x, l, c, zs, hcs, _, hl, hm, hz, _, hcell, hwz⟩
    · simp [Value.cells] at hcs
      obtain ⟨rfl, rfl, rfl⟩ := hcs
      exact ⟨[], .inl ⟨rfl, rfl, rfl, rfl⟩⟩
    · simp [Value.cells] at hcs
      obtain ⟨rfl, rfl, rfl⟩ := hcs
      exact ⟨zs, .inr ⟨_, rfl, hl, hm, by simpa using hz, hcell, hwz⟩⟩
  obtain ⟨a1, len1, cap1, rfl⟩ := okWide_slice Try.underlying28 (hval 1 28 v1 rfl rfl)
  have k1 := h1
  have lt1 : ∀ x ∈ p1, x.block < W.heap.size := by obtain ⟨m, hm⟩ := k1; exact DataW.trod_lt m _ _ _ hm
  obtain ⟨z1, w1⟩ : ∃ zs, IsRow .u8 W a1 len1 cap1 zs := by
    obtain ⟨fuel, hf⟩ := h1
    rcases open_ints Try.underlying28 Try.underlying5 (by kernel_rfl) hf with ⟨hcs, _⟩ | ⟨x, l, c, zs, hcs, _, hl, hm, hz, _, hcell, hwz⟩
    · simp [Value.cells] at hcs
      obtain ⟨rfl, rfl, rfl⟩ := hcs
      exact ⟨[], .inl ⟨rfl, rfl, rfl, rfl⟩⟩
    · simp [Value.cells] at hcs
      obtain ⟨rfl, rfl, rfl⟩ := hcs
      exact ⟨zs, .inr ⟨_, rfl, hl, hm, by simpa using hz, hcell, hwz⟩⟩
  clear hA0 hval0
  refine (walk a0 len0 cap0 z0 a1 len1 cap1 z1 W w0 w1).mono fun e W' ⟨he, bel⟩ => ?_
  subst he
  exact ⟨_, rfl, _, _, _, [], _, [], hW', trodAll_mk1 (shut_bool Try.underlying4 _), (trodAll_cons_mk (Below.trod laidOut (by kernel_rfl) (of_decide_eq_true (by kernel_rfl)) k0 bel lt0) (trodAll_cons_mk (Below.trod laidOut (by kernel_rfl) (of_decide_eq_true (by kernel_rfl)) k1 bel lt1) trodAll_mk0)), rfl, bel.frame _, fun h => by cases h⟩

theorem over : Rows.fnPolyMulRow.holds Try.pinned (OpenSpec.ofChange Rows.fnPolyMulSpec) :=
  OpenClaim.holds_of_wide 9 Try.f9 rfl rfl rfl rfl rfl rfl rfl ⟨rfl, rfl, rfl, rfl, rfl⟩ rfl rfl rfl rfl rfl (by kernel_rfl) Try.func9 (by kernel_rfl)
    (of_decide_eq_true (by kernel_rfl)) (by unfold Func.isWrapper; first | (rw [if_pos (by decide +kernel)]; kernel_rfl) | (rw [if_neg (by decide +kernel)]; exact ⟨rfl, rfl⟩))
    (fun os started H enc _ => lifted os started H enc)

/-- ████ THE STATEMENT ████ -/
theorem proved : Rows.FnPolyMulSaid := over
#print axioms proved
end Go.Proofs.Ytbehnbemhnnmfaa.fnPolyMul
