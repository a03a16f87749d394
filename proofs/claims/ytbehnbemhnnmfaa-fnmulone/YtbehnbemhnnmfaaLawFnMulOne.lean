/-
  Times 1 a polynomial is the same, times nothing it is nothing, times x it begins with 0: the law FnMulOne returns true for every code.
  Conditions: none but the statement's own. Proved: Rows.FnMulOneSaid.
-/
import Derived.Test.YtbehnbemhnnmfaaRows
import Derived.WalkKit
import Derived.ProofKit
import Derived.OpenShut
import Derived.ShutString
import Derived.ChangeOld
import Derived.Below
import Derived.Test.YtbehnbemhnnmfaaFp
import Derived.Test.YtbehnbemhnnmfaaBase
import Derived.Test.YtbehnbemhnnmfaaField
import Derived.Test.YtbehnbemhnnmfaaSl
import Derived.Test.YtbehnbemhnnmfaaLw
import Derived.Test.YtbehnbemhnnmfaaPoly
import Derived.Test.YtbehnbemhnnmfaaPmul
import Derived.Test.YtbehnbemhnnmfaaDraw
import Derived.Test.YtbehnbemhnnmfaaDlist
import Derived.Test.YtbehnbemhnnmfaaCat
namespace Go.Proofs.Ytbehnbemhnnmfaa.fnMulOne
open Go.ChangeShapes Go.WideShapes Go.ChangeAt Go.RowKit
open Go.ChangeMaps (open_string shut_string)
set_option linter.unusedVariables false
set_option linter.unusedSimpArgs false

theorem own : ownKnob Try.prog.godebug = none := by kernel_rfl
theorem laidOut : laidOutB Try.prog = true := by kernel_rfl

theorem one_yes {xs : List Int} (h : Fp.pok xs = true) : Fp.mulB xs [1] = true ∧ Fp.pmul xs [1] = xs := by
  have hb : Fp.mulB xs [1] = true := Fp.mulB_yes h rfl (by rw [Fp.mulL_one h]; exact Fp.pok_len h)
  exact ⟨hb, by rw [Fp.pmul_yes hb, Fp.mulL_one h]⟩
theorem nil_yes {xs : List Int} (h : Fp.pok xs = true) : Fp.mulB xs [] = true ∧ Fp.pmul xs [] = [] := by
  have hb : Fp.mulB xs [] = true := Fp.mulB_yes h rfl (by rw [Fp.mulL_nil_right]; simp)
  exact ⟨hb, by rw [Fp.pmul_yes hb, Fp.mulL_nil_right]⟩
theorem x_yes {xs : List Int} (h : Fp.pok xs = true) (h9 : xs.length ≤ 8) : Fp.mulB xs [0, 1] = true := by
  refine Fp.mulB_yes h rfl ?_
  have := Fp.mulL_len' (a := xs) (b := [0, 1])
  simp at this
  omega
theorem x_is {xs : List Int} (h : Fp.pok xs = true) (h9 : xs.length ≤ 8) (h0 : 0 < xs.length) : Fp.pmul xs [0, 1] = 0 :: xs := by
  rw [Fp.pmul_yes (x_yes h h9), Fp.mulL_x h (by intro e; simp [e] at h0)]
set_option maxHeartbeats 1000000 in
set_option maxRecDepth 100000 in
theorem walk (a0 : Option Addr) (len0 cap0 : Nat) (z0 : List Int) (w : World) (w0 : IsRow .u8 w a0 len0 cap0 z0) :
    Calls Try.prog 11 #[.slice a0 len0 cap0] w fun e w' => e = .returned (.bool true) ∧ Below w.heap.size w w' := by
  obtain ⟨c1, c2⟩ := w0.sizes
  have Hb := Lib.hid (Bys.of_row w0)
  clear w0
  by_cases hl : 1048576 < len0
  · go_enter Try.func11, Try.ntmps11
    go_wp2
    go_ret
    exact ⟨rfl, Below.refl _ _⟩
  have B := Lib.hid (Below.refl w.heap.size w)
  go_enter Try.func11, Try.ntmps11
  go_wp2_with fail
  refine (spec_DrawPolyMul a0 len0 cap0 w Hb.out c1 c2).mono ?_
  rintro e W1 ⟨a_x, n_x, c_x, xs, a_y, n_y, c_y, ys, mid, h_x, h_y, rfl, o_x, o_y, b_d⟩
  have Z_W1 : w.heap.size ≤ W1.heap.size := b_d.size
  have O_x := Lib.hid o_x
  have L_x := Lib.hid o_x.len
  have O_y := Lib.hid o_y
  have L_y := Lib.hid o_y.len
  replace B := Lib.hid (B.out.trans (b_d.mono B.out.size))
  clear b_d o_x o_y
  clear c1 c2
  have pl := Lib.hid (Fp.pok_len (Fp.pmul_pok (a := xs) (b := ys)))
  have e1 := eqB_self (Fp.pmul xs ys)
  go_wp2_with fail
  refine (spec_PolyMul _ _ _ _ _ _ _ _ _ O_x.out.sl O_y.out.sl (by omega) (by omega)).mono ?_
  rintro e W2 ⟨a_w, n_w, c_w, rfl, o_w, b_w⟩
  have O_w := Lib.hid o_w
  have L_w := Lib.hid o_w.len
  have Z_W2 : W1.heap.size ≤ W2.heap.size := b_w.size
  replace O_x := Lib.hid (O_x.out.below b_w)
  replace O_y := Lib.hid (O_y.out.below b_w)
  replace B := Lib.hid (B.out.trans (b_w.mono B.out.size))
  clear o_w b_w
  have h_w : n_w ≤ 9 := by rw [← L_w.out]; exact pl.out
  go_wp2_with fail
  refine (impl_PolyMul _ _ _ _ _ _ _ _ _ O_x.out.sl O_y.out.sl).mono ?_
  rintro e W3 ⟨a_p, n_p, c_p, rfl, o_p, b_p⟩
  have O_p := Lib.hid o_p
  have L_p := Lib.hid o_p.len
  have Z_W3 : W2.heap.size ≤ W3.heap.size := b_p.size
  replace O_x := Lib.hid (O_x.out.below b_p)
  replace O_y := Lib.hid (O_y.out.below b_p)
  replace O_w := Lib.hid (O_w.out.below b_p)
  replace B := Lib.hid (B.out.trans (b_p.mono B.out.size))
  clear o_p b_p
  have h_p : n_p ≤ 9 := by rw [← L_p.out]; exact pl.out
  generalize Fp.mulB xs ys = tt
  go_wp2_with fail
  refine (laws_loInts _ _ _ _ _ _ _ _ _ O_p.out.sl O_w.out.sl (by omega) (by omega)).mono ?_
  rintro e W4 hd
  obtain ⟨rfl, b_d⟩ := hd.below
  have Z_W4 : W3.heap.size ≤ W4.heap.size := b_d.size
  clear hd
  replace O_x := Lib.hid (O_x.out.below b_d)
  replace O_y := Lib.hid (O_y.out.below b_d)
  replace O_w := Lib.hid (O_w.out.below b_d)
  replace O_p := Lib.hid (O_p.out.below b_d)
  replace B := Lib.hid (B.out.trans (b_d.mono B.out.size))
  clear b_d
  cases hx : Fp.pok xs
  · skip
    go_wp2_with fail
    refine (spec_PolyOk _ _ _ _ _ O_x.out.sl (by omega)).mono ?_
    rintro e w' ⟨rfl, rfl⟩
    go_wp2_with fail
    refine (laws_loInts _ _ _ _ _ _ _ _ _ O_p.out.sl O_w.out.sl (by omega) (by omega)).mono ?_
    rintro e W5 hd
    obtain ⟨rfl, b_d⟩ := hd.below
    have Z_W5 : W4.heap.size ≤ W5.heap.size := b_d.size
    clear hd
    replace O_x := Lib.hid (O_x.out.below b_d)
    replace O_y := Lib.hid (O_y.out.below b_d)
    replace O_w := Lib.hid (O_w.out.below b_d)
    replace O_p := Lib.hid (O_p.out.below b_d)
    replace B := Lib.hid (B.out.trans (b_d.mono B.out.size))
    clear b_d
    go_wp2
    go_ret
    exact ⟨rfl, B.out⟩
  · skip
    go_wp2_with fail
    refine (spec_PolyOk _ _ _ _ _ O_x.out.sl (by omega)).mono ?_
    rintro e w' ⟨rfl, rfl⟩
    obtain ⟨f1, f2⟩ := one_yes hx
    obtain ⟨g1, g2⟩ := nil_yes hx
    have h1 := x_yes hx (by rw [L_x.out]; omega)
    have F2 := Lib.hid f2
    have G2 := Lib.hid g2
    clear f2 g2 O_w O_p O_y
    go_wp2_with fail
    have S1 := Lib.hid (sl_one W4 3 1)
    refine (impl_PolyMul _ _ _ _ _ _ _ _ _ (O_x.out.sl.alloc _) S1.out).mono ?_
    rintro e V1 ⟨a_r, n_r, c_r, rfl, o_r, b_r⟩
    have b_1 := ((Below.refl W4.heap.size W4).alloc (Nat.le_refl _) (.cells #[.int .i64 1] 3)).trans (b_r.mono (by simp))
    rw [F2.out] at o_r
    have O_r := Lib.hid o_r
    have L_r := Lib.hid o_r.len
    have h_r : n_r ≤ 9 := by rw [← L_r.out, L_x.out]; omega
    replace O_x := Lib.hid (O_x.out.below b_1)
    replace B := Lib.hid (B.out.trans (b_1.mono B.out.size))
    clear o_r b_r b_1 S1
    go_wp2_with fail
    refine (impl_PolyMul _ _ _ _ _ _ _ _ _ O_x.out.sl (Sl.nil _ _)).mono ?_
    rintro e W6 ⟨a_s, n_s, c_s, rfl, o_s, b_s⟩
    have O_s := Lib.hid o_s
    have L_s := Lib.hid o_s.len
    have Z_W6 : V1.heap.size ≤ W6.heap.size := b_s.size
    replace O_x := Lib.hid (O_x.out.below b_s)
    replace O_r := Lib.hid (O_r.out.below b_s)
    replace B := Lib.hid (B.out.trans (b_s.mono B.out.size))
    clear o_s b_s
    rw [G2.out] at O_s L_s
    have h_s : n_s = 0 := by rw [← L_s.out]; rfl
    subst h_s
    go_wp2_with fail
    have S2 := Lib.hid (sl_two W6 3 0 1)
    refine (impl_PolyMul _ _ _ _ _ _ _ _ _ (O_x.out.sl.alloc _) S2.out).mono ?_
    rintro e V2 ⟨a_z, n_z, c_z, rfl, o_z, b_z⟩
    have b_2 := ((Below.refl W6.heap.size W6).alloc (Nat.le_refl _) (.cells #[.int .i64 0, .int .i64 1] 3)).trans (b_z.mono (by simp))
    have O_z := Lib.hid o_z
    have L_z := Lib.hid o_z.len
    have h_z : n_z ≤ 9 := by rw [← L_z.out]; exact Fp.pok_len Fp.pmul_pok
    replace O_x := Lib.hid (O_x.out.below b_2)
    replace O_r := Lib.hid (O_r.out.below b_2)
    replace B := Lib.hid (B.out.trans (b_2.mono B.out.size))
    clear o_z b_z b_2 S2 O_s
    have e2 := eqB_self xs
    go_wp2_with fail
    refine (laws_loInts _ _ _ _ _ _ _ _ _ O_r.out.sl O_x.out.sl (by omega) (by omega)).mono ?_
    rintro e W7 hd
    obtain ⟨rfl, b_d⟩ := hd.below
    have Z_W7 : V2.heap.size ≤ W7.heap.size := b_d.size
    clear hd
    replace O_x := Lib.hid (O_x.out.below b_d)
    replace O_r := Lib.hid (O_r.out.below b_d)
    replace O_z := Lib.hid (O_z.out.below b_d)
    replace B := Lib.hid (B.out.trans (b_d.mono B.out.size))
    clear b_d
    have nd : decide ((n_x : Int) < 9) = true := by simp; omega
    by_cases n0 : n_x = 0
    · subst n0
      go_wp2
      go_ret
      exact ⟨rfl, B.out⟩
    · have nb : ((n_x : Int) == 0) = false := by simp; omega
      have XE := Lib.hid (x_is hx (by rw [L_x.out]; omega) (by rw [L_x.out]; omega))
      rw [XE.out] at O_z L_z
      have e3 := eqB_self (0 :: xs)
      have S3 := Lib.hid (O_x.out.sl.alloc (.cells #[.int .i64 0] 3))
      have E3 := Lib.hid (own_lit1 W7.heap.size 3 W7 0 (Nat.le_refl _))
      go_wp2_with (at_builtin; (refine wpList_of_wp (by rfl) (wp_cat int_ty (.tmp 105) (.tmp 106) rfl W7.heap.size (xs := [0]) rfl rfl E3.out S3.out (by omega) (by simp) ?_)); intro a5 c5 w5 own5 bel5)
      have b_3 := ((Below.refl W7.heap.size W7).alloc (Nat.le_refl _) (.cells #[.int .i64 0] 3)).trans bel5
      have O5 := Lib.hid (Own.of_row own5)
      replace O_z := Lib.hid (O_z.out.below b_3)
      replace B := Lib.hid (B.out.trans (b_3.mono B.out.size))
      clear own5 bel5 b_3 S3 E3
      refine (laws_loInts _ _ _ _ _ _ _ _ _ O_z.out.sl O5.out.sl (by omega) (by omega)).mono ?_
      rintro e w6 hd
      obtain ⟨rfl, b_d⟩ := hd.below
      clear hd
      replace B := Lib.hid (B.out.trans (b_d.mono B.out.size))
      clear b_d
      go_wp2
      go_ret
      exact ⟨rfl, B.out⟩

/-! ### THE ROW's STEP: WRITTEN OUT: LEAVE IT -/
set_option maxRecDepth 100000 in
theorem lifted (os : Os) (started : os.Started) (H : Type) (enc : TypeId × Value → H) :
    ReturnsInHanded {} Try.checked os 11 .any (Rows.fnMulOneSpec.pre6 enc Try.prog Try.f11 Rows.fnMulOneRow.domain false) (Rows.fnMulOneSpec.post enc Try.prog Try.f11 false true false false) := by
  refine returnsInHanded_of_change (C := Try.checked) own started (by kernel_rfl) Try.func11
    (ChangeSpec.witness6 (enc := enc) (C := Try.checked) false ⟨#[], #[.slice none 0 0], []⟩ 8 (by kernel_rfl) (by kernel_rfl) (by kernel_rfl) (by kernel_rfl)) ?_
  intro W base args ds gs before hval0 hW hcnd _
  have hval : ∀ (j : Nat) t v, Try.f11.params[j]? = some t → args[j]? = some v → Value.okWide Try.prog W .any base t v := hval0
  have hW' := hW
  obtain ⟨p, q, hA0, hV, rfl, hfz, hnd⟩ := hW
  have hA : DataW.TrodAll enc Try.prog W 0 (fun _ => true) true Try.f11.params.toList args.toList ds p := hA0
  rw [Try.params11] at hA hval
  obtain ⟨v0, vs0, d0, ds0, p0, q0, hargs, rfl, rfl, h0, r0⟩ := trodAll_cons hA
  obtain ⟨rfl, rfl, rfl⟩ := trodAll_nil r0
  obtain rfl : args = #[v0] := by cases args; simp_all
  obtain ⟨rfl, rfl⟩ := trodVars_none hV
  obtain ⟨a0, len0, cap0, rfl⟩ := okWide_slice Try.underlying28 (hval 0 28 v0 rfl rfl)
  have k0 := h0
  have lt0 : ∀ x ∈ p0, x.block < W.heap.size := by obtain ⟨m, hm⟩ := k0; exact DataW.trod_lt m _ _ _ hm
  obtain ⟨z0, w0⟩ : ∃ zs, IsRow .u8 W a0 len0 cap0 zs := by
    obtain ⟨fuel, hf⟩ := h0
    rcases open_ints Try.underlying28 Try.underlying5 (by kernel_rfl) hf with ⟨hcs, _⟩ | ⟨x, l, c, zs, hcs, _, hl, hm, hz, _, hcell, hwz⟩
    · simp [Value.cells] at hcs
      obtain ⟨rfl, rfl, rfl⟩ := hcs
      exact ⟨[], .inl ⟨rfl, rfl, rfl, rfl⟩⟩
    · simp [Value.cells] at hcs
      obtain ⟨rfl, rfl, rfl⟩ := hcs
      exact ⟨zs, .inr ⟨_, rfl, hl, hm, by simpa using hz, hcell, hwz⟩⟩
  clear hA0 hval0
  refine (walk a0 len0 cap0 z0 W w0).mono fun e W' ⟨he, bel⟩ => ?_
  subst he
  exact ⟨_, rfl, _, _, _, [], _, [], hW', trodAll_mk1 (shut_bool Try.underlying4 _), (trodAll_cons_mk (Below.trod laidOut (by kernel_rfl) (of_decide_eq_true (by kernel_rfl)) k0 bel lt0) trodAll_mk0), rfl, bel.frame _, fun h => by cases h⟩

theorem over : Rows.fnMulOneRow.holds Try.pinned (OpenSpec.ofChange Rows.fnMulOneSpec) :=
  OpenClaim.holds_of_wide 11 Try.f11 rfl rfl rfl rfl rfl rfl rfl ⟨rfl, rfl, rfl, rfl, rfl⟩ rfl rfl rfl rfl rfl (by kernel_rfl) Try.func11 (by kernel_rfl)
    (of_decide_eq_true (by kernel_rfl)) (by unfold Func.isWrapper; first | (rw [if_pos (by decide +kernel)]; kernel_rfl) | (rw [if_neg (by decide +kernel)]; exact ⟨rfl, rfl⟩))
    (fun os started H enc _ => lifted os started H enc)

/-- ████ THE STATEMENT ████ -/
theorem proved : Rows.FnMulOneSaid := over
#print axioms proved
end Go.Proofs.Ytbehnbemhnnmfaa.fnMulOne
