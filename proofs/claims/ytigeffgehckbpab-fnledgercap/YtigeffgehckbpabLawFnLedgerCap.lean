/-
  Where more may be paid what could be paid can be: the law FnLedgerCap returns true for every two codes.
  Conditions: none but the statement's own. Proved: Rows.FnLedgerCapSaid.
-/
import Derived.Test.YtigeffgehckbpabRows
import Derived.WalkKit
import Derived.ProofKit
import Derived.OpenShut
import Derived.ShutString
import Derived.ChangeOld
import Derived.Below
import Derived.Test.YtigeffgehckbpabFp
import Derived.Test.YtigeffgehckbpabBase
import Derived.Test.YtigeffgehckbpabField
import Derived.Test.YtigeffgehckbpabSl
import Derived.Test.YtigeffgehckbpabTri
import Derived.Test.YtigeffgehckbpabFr
import Derived.Test.YtigeffgehckbpabFrl
import Derived.Test.YtigeffgehckbpabFrc
import Derived.Test.YtigeffgehckbpabFrd
import Derived.Test.YtigeffgehckbpabFre
import Derived.Test.YtigeffgehckbpabFrf
import Derived.Test.YtigeffgehckbpabDraw
import Derived.Test.YtigeffgehckbpabFrg
import Derived.Test.YtigeffgehckbpabLg
import Derived.Test.YtigeffgehckbpabFs
import Derived.Test.YtigeffgehckbpabCat
import Derived.Test.YtigeffgehckbpabLed
import Derived.Test.YtigeffgehckbpabRev
import Derived.Test.YtigeffgehckbpabLee
import Derived.Test.YtigeffgehckbpabLef
import Derived.Test.YtigeffgehckbpabLeg
import Derived.Test.YtigeffgehckbpabLeh
import Derived.Test.YtigeffgehckbpabLei
import Derived.Test.YtigeffgehckbpabLej
import Derived.Test.YtigeffgehckbpabLek
import Derived.Test.YtigeffgehckbpabLem
namespace Go.Proofs.Ytigeffgehckbpab.fnLedgerCap
open Go.ChangeShapes Go.WideShapes Go.ChangeAt Go.RowKit
open Go.ChangeMaps (open_string shut_string)
set_option linter.unusedVariables false
set_option linter.unusedSimpArgs false

theorem own : ownKnob Try.prog.godebug = none := by kernel_rfl
theorem laidOut : laidOutB Try.prog = true := by kernel_rfl

theorem cap_good {c d p q : Int} {fs : List (Int × Int)} (hg : Fr.good c d fs = true) (hp : Fr.ok p q = true) (hl : Fr.le c d p q) : Fr.good p q fs = true := by
  rw [Fr.good_is] at hg ⊢
  simp only [Bool.and_eq_true, decide_eq_true_eq] at hg ⊢
  obtain ⟨⟨⟨h1, h2⟩, h3⟩, h4⟩ := hg
  have ht := Fr.t_ok h3
  exact ⟨⟨⟨hp, h2⟩, h3⟩, (Fr.cmp_le ht hp).2 (Fr.le_trans' ht h1 hp ((Fr.cmp_le ht h1).1 h4) hl)⟩
theorem cap_more {c d x y : Int} {fs : List (Int × Int)} {j : Nat} (h : Fr.pB c d fs x y = true) (hs : Fr.sB c d (j : Int) 1 = true) : Fr.pB (Fr.sN c d (j : Int) 1) (Fr.sD c d (j : Int) 1) fs x y = true := by
  obtain ⟨hl, hk⟩ := Fr.le_sum hs
  simp only [Fr.pB, Fr.may, Bool.and_eq_true] at h ⊢
  exact ⟨⟨cap_good h.1.1 hk hl, h.1.2⟩, cap_good h.2 hk hl⟩
set_option maxHeartbeats 1000000 in
set_option maxRecDepth 100000 in
theorem walk (a0 : Option Addr) (len0 cap0 : Nat) (z0 : List Int) (a1 : Option Addr) (len1 cap1 : Nat) (z1 : List Int) (w : World) (w0 : IsRow .u8 w a0 len0 cap0 z0) (w1 : IsRow .u8 w a1 len1 cap1 z1) :
    Calls Try.prog 10 #[.slice a0 len0 cap0, .slice a1 len1 cap1] w fun e w' => e = .returned (.bool true) ∧ Below w.heap.size w w' := by
  obtain ⟨c1, c2⟩ := w0.sizes
  obtain ⟨d1, d2⟩ := w1.sizes
  have Hb := Lib.hid (Bys.of_row w0)
  clear w0 w1
  by_cases hl : 1048576 < len0
  · go_enter Try.func10, Try.ntmps10
    go_wp2
    go_ret
    exact ⟨rfl, Below.refl _ _⟩
  by_cases hl1 : 1048576 < len1
  · go_enter Try.func10, Try.ntmps10
    go_wp2
    go_ret
    exact ⟨rfl, Below.refl _ _⟩
  go_enter Try.func10, Try.ntmps10
  have B := Lib.hid (Below.refl w.heap.size w)
  go_wp2_with fail
  refine (spec_DrawLedgerCan a0 len0 cap0 w Hb.out c1 c2).mono ?_
  rintro e v1 ⟨c, d, al, nl, kl, fs, x, y, hn, rfl, ol, b_⟩
  have ll := Lib.hid ol.len
  clear c1 c2 Hb
  replace B := Lib.hid (B.out.trans (b_.mono B.out.size))
  clear b_
  have S_l := Lib.hid ol.sf
  clear ol
  obtain ⟨v2, hw_v2, z1_, b1_, t1_⟩ := led_box v1 c d al nl kl 27
  obtain ⟨v3, hw_v3, z2_, b2_, t2_⟩ := duo_box v2 x y 24
  rw [z1_] at t2_
  have b_ := b1_.trans (b2_.mono b1_.size)
  have T_l := Lib.hid (tri_moreB t1_ b2_)
  have T_f := Lib.hid t2_
  replace S_l := Lib.hid (S_l.out.below b_)
  replace B := Lib.hid (B.out.trans (b_.mono B.out.size))
  clear z2_ b1_ b2_ b_ t1_ t2_
  have m1 : (Fr.pB c d fs x y != Fr.pB c d fs x y) = false := by simp
  have m2 : (Fr.pB c d fs x y == Fr.pB c d fs x y) = true := by simp
  obtain ⟨l_0, l_1, l_2, -, -, -⟩ := led_at T_l.out
  obtain ⟨f_0, f_1, -, -⟩ := duo_at T_f.out
  go_wp2_with fail
  refine (impl_LedgerCan c d al nl kl fs x y _ S_l.out (by omega)).mono ?_
  rintro e v4 ⟨rfl, b_⟩
  clear l_0 l_1 l_2 f_0 f_1 hw_v2 hw_v3 z1_
  replace T_l := Lib.hid (tri_moreB T_l.out b_)
  replace T_f := Lib.hid (tri_moreB T_f.out b_)
  replace S_l := Lib.hid (S_l.out.below b_)
  replace B := Lib.hid (B.out.trans (b_.mono B.out.size))
  clear b_
  obtain ⟨l_0, l_1, l_2, -, -, -⟩ := led_at T_l.out
  obtain ⟨f_0, f_1, -, -⟩ := duo_at T_f.out
  go_wp2_with fail
  refine (spec_LedgerCan c d al nl kl fs x y _ S_l.out (by omega)).mono ?_
  rintro e v5 ⟨rfl, b_⟩
  clear l_0 l_1 l_2 f_0 f_1
  replace T_l := Lib.hid (tri_moreB T_l.out b_)
  replace T_f := Lib.hid (tri_moreB T_f.out b_)
  replace S_l := Lib.hid (S_l.out.below b_)
  replace B := Lib.hid (B.out.trans (b_.mono B.out.size))
  clear b_
  cases hpb : Fr.pB c d fs x y
  · rw [hpb] at m1 m2
    obtain ⟨l_0, l_1, l_2, -, -, -⟩ := led_at T_l.out
    obtain ⟨f_0, f_1, -, -⟩ := duo_at T_f.out
    go_wp2_with fail
    refine (spec_LedgerCan c d al nl kl fs x y _ S_l.out (by omega)).mono ?_
    rintro e v6 ⟨rfl, b_⟩
    rw [hpb]
    clear l_0 l_1 l_2 f_0 f_1
    replace T_l := Lib.hid (tri_moreB T_l.out b_)
    replace T_f := Lib.hid (tri_moreB T_f.out b_)
    replace S_l := Lib.hid (S_l.out.below b_)
    replace B := Lib.hid (B.out.trans (b_.mono B.out.size))
    clear b_
    obtain ⟨l_0, l_1, l_2, -, -, -⟩ := led_at T_l.out
    obtain ⟨f_0, f_1, -, -⟩ := duo_at T_f.out
    go_wp2
    go_ret
    exact ⟨rfl, B.out⟩
  clear m1 m2
  have g0 : 0 ≤ 1 + (len1 : Int) % 5 := by omega
  have g1 : 1 + (len1 : Int) % 5 ≤ 5 := by omega
  obtain ⟨j, hj, hj1, hj5⟩ : ∃ j : Nat, 1 + (len1 : Int) % 5 = (j : Int) ∧ 1 ≤ j ∧ j ≤ 5 := ⟨1 + len1 % 5, by omega, by omega, by omega⟩
  obtain ⟨p1, p2, p3⟩ := Fr.of_int (k := j) (by omega)
  obtain ⟨l_0, l_1, l_2, -, -, -⟩ := led_at T_l.out
  obtain ⟨f_0, f_1, -, -⟩ := duo_at T_f.out
  go_wp2_with fail
  refine (impl_FracOf _ _ _).mono ?_
  rintro e v6 ⟨rfl, b_⟩
  rw [p1, p2, p3]
  clear l_0 l_1 l_2 f_0 f_1
  clear p1 p2 p3
  replace T_l := Lib.hid (tri_moreB T_l.out b_)
  replace T_f := Lib.hid (tri_moreB T_f.out b_)
  replace S_l := Lib.hid (S_l.out.below b_)
  replace B := Lib.hid (B.out.trans (b_.mono B.out.size))
  clear b_
  obtain ⟨v7, hw_v7, z_, b_, t_⟩ := duo_box v6 (j : Int) 1 24
  replace T_l := Lib.hid (tri_moreB T_l.out b_)
  replace T_f := Lib.hid (tri_moreB T_f.out b_)
  replace S_l := Lib.hid (S_l.out.below b_)
  replace B := Lib.hid (B.out.trans (b_.mono B.out.size))
  have T_g := Lib.hid t_
  clear z_ b_ t_
  obtain ⟨l_0, l_1, l_2, -, -, -⟩ := led_at T_l.out
  obtain ⟨f_0, f_1, -, -⟩ := duo_at T_f.out
  obtain ⟨g_0, g_1, -, -⟩ := duo_at T_g.out
  go_wp2_with fail
  refine (impl_FracSum c d (j : Int) 1 _).mono ?_
  rintro e v8 ⟨rfl, b_⟩
  clear l_0 l_1 l_2 f_0 f_1 g_0 g_1 hw_v7
  replace T_l := Lib.hid (tri_moreB T_l.out b_)
  replace T_f := Lib.hid (tri_moreB T_f.out b_)
  replace T_g := Lib.hid (tri_moreB T_g.out b_)
  replace S_l := Lib.hid (S_l.out.below b_)
  replace B := Lib.hid (B.out.trans (b_.mono B.out.size))
  clear b_
  obtain ⟨v9, hw_v9, z_, b_, t_⟩ := duo_box v8 (Fr.sN c d (j : Int) 1) (Fr.sD c d (j : Int) 1) 24
  replace T_l := Lib.hid (tri_moreB T_l.out b_)
  replace T_f := Lib.hid (tri_moreB T_f.out b_)
  replace T_g := Lib.hid (tri_moreB T_g.out b_)
  replace S_l := Lib.hid (S_l.out.below b_)
  replace B := Lib.hid (B.out.trans (b_.mono B.out.size))
  have T_s := Lib.hid t_
  clear z_ b_ t_
  cases hs : Fr.sB c d (j : Int) 1
  · obtain ⟨l_0, l_1, l_2, -, -, -⟩ := led_at T_l.out
    obtain ⟨f_0, f_1, -, -⟩ := duo_at T_f.out
    obtain ⟨g_0, g_1, -, -⟩ := duo_at T_g.out
    obtain ⟨s_0, s_1, -, -⟩ := duo_at T_s.out
    go_wp2
    go_ret
    exact ⟨rfl, B.out⟩
  have CM := Lib.hid (cap_more hpb hs)
  obtain ⟨l_0, l_1, l_2, -, -, -⟩ := led_at T_l.out
  obtain ⟨f_0, f_1, -, -⟩ := duo_at T_f.out
  obtain ⟨g_0, g_1, -, -⟩ := duo_at T_g.out
  obtain ⟨s_0, s_1, -, -⟩ := duo_at T_s.out
  go_wp2_with fail
  refine (impl_LedgerCan (Fr.sN c d (j : Int) 1) (Fr.sD c d (j : Int) 1) al nl kl fs x y _ S_l.out (by omega)).mono ?_
  rintro e v10 ⟨rfl, b_⟩
  rw [CM.out]
  clear l_0 l_1 l_2 f_0 f_1 g_0 g_1 s_0 s_1 hw_v9
  replace T_l := Lib.hid (tri_moreB T_l.out b_)
  replace T_f := Lib.hid (tri_moreB T_f.out b_)
  replace T_g := Lib.hid (tri_moreB T_g.out b_)
  replace T_s := Lib.hid (tri_moreB T_s.out b_)
  replace S_l := Lib.hid (S_l.out.below b_)
  replace B := Lib.hid (B.out.trans (b_.mono B.out.size))
  clear b_
  obtain ⟨l_0, l_1, l_2, -, -, -⟩ := led_at T_l.out
  obtain ⟨f_0, f_1, -, -⟩ := duo_at T_f.out
  obtain ⟨g_0, g_1, -, -⟩ := duo_at T_g.out
  obtain ⟨s_0, s_1, -, -⟩ := duo_at T_s.out
  go_wp2
  go_ret
  exact ⟨rfl, B.out⟩

/-! ### THE ROW's STEP: WRITTEN OUT: LEAVE IT -/
set_option maxRecDepth 100000 in
theorem lifted (os : Os) (started : os.Started) (H : Type) (enc : TypeId × Value → H) :
    ReturnsInHanded {} Try.checked os 10 .any (Rows.fnLedgerCapSpec.pre6 enc Try.prog Try.f10 Rows.fnLedgerCapRow.domain false) (Rows.fnLedgerCapSpec.post enc Try.prog Try.f10 false true false false) := by
  refine returnsInHanded_of_change (C := Try.checked) own started (by kernel_rfl) Try.func10
    (ChangeSpec.witness6 (enc := enc) (C := Try.checked) false ⟨#[], #[.slice none 0 0, .slice none 0 0], []⟩ 8 (by kernel_rfl) (by kernel_rfl) (by kernel_rfl) (by kernel_rfl)) ?_
  intro W base args ds gs before hval0 hW hcnd _
  have hval : ∀ (j : Nat) t v, Try.f10.params[j]? = some t → args[j]? = some v → Value.okWide Try.prog W .any base t v := hval0
  have hW' := hW
  obtain ⟨p, q, hA0, hV, rfl, hfz, hnd⟩ := hW
  have hA : DataW.TrodAll enc Try.prog W 0 (fun _ => true) true Try.f10.params.toList args.toList ds p := hA0
  rw [Try.params10] at hA hval
  obtain ⟨v0, vs0, d0, ds0, p0, q0, hargs, rfl, rfl, h0, r0⟩ := trodAll_cons hA
  obtain ⟨v1, vs1, d1, ds1, p1, q1, rfl, rfl, rfl, h1, r1⟩ := trodAll_cons r0
  obtain ⟨rfl, rfl, rfl⟩ := trodAll_nil r1
  obtain rfl : args = #[v0, v1] := by cases args; simp_all
  obtain ⟨rfl, rfl⟩ := trodVars_none hV
  obtain ⟨a0, len0, cap0, rfl⟩ := okWide_slice Try.underlying22 (hval 0 22 v0 rfl rfl)
  have k0 := h0
  have lt0 : ∀ x ∈ p0, x.block < W.heap.size := by obtain ⟨m, hm⟩ := k0; exact DataW.trod_lt m _ _ _ hm
  obtain ⟨z0, w0⟩ : ∃ zs, IsRow .u8 W a0 len0 cap0 zs := by
    obtain ⟨fuel, hf⟩ := h0
    rcases open_ints Try.underlying22 Try.underlying5 (by kernel_rfl) hf with ⟨hcs, _⟩ | ⟨x, l, c, zs, hcs, _, hl, hm, hz, _, hcell, hwz⟩
    · simp [Value.cells] at hcs
      obtain ⟨rfl, rfl, rfl⟩ := hcs
      exact ⟨[], .inl ⟨rfl, rfl, rfl, rfl⟩⟩
    · simp [Value.cells] at hcs
      obtain ⟨rfl, rfl, rfl⟩ := hcs
      exact ⟨zs, .inr ⟨_, rfl, hl, hm, by simpa using hz, hcell, hwz⟩⟩
  obtain ⟨a1, len1, cap1, rfl⟩ := okWide_slice Try.underlying22 (hval 1 22 v1 rfl rfl)
  have k1 := h1
  have lt1 : ∀ x ∈ p1, x.block < W.heap.size := by obtain ⟨m, hm⟩ := k1; exact DataW.trod_lt m _ _ _ hm
  obtain ⟨z1, w1⟩ : ∃ zs, IsRow .u8 W a1 len1 cap1 zs := by
    obtain ⟨fuel, hf⟩ := h1
    rcases open_ints Try.underlying22 Try.underlying5 (by kernel_rfl) hf with ⟨hcs, _⟩ | ⟨x, l, c, zs, hcs, _, hl, hm, hz, _, hcell, hwz⟩
    · simp [Value.cells] at hcs
      obtain ⟨rfl, rfl, rfl⟩ := hcs
      exact ⟨[], .inl ⟨rfl, rfl, rfl, rfl⟩⟩
    · simp [Value.cells] at hcs
      obtain ⟨rfl, rfl, rfl⟩ := hcs
      exact ⟨zs, .inr ⟨_, rfl, hl, hm, by simpa using hz, hcell, hwz⟩⟩
  clear hA0 hval0
  refine (walk a0 len0 cap0 z0 a1 len1 cap1 z1 W w0 w1).mono fun e W' ⟨he, bel⟩ => ?_
  subst he
  exact ⟨_, rfl, _, _, _, [], _, [], hW', trodAll_mk1 (shut_bool Try.underlying4 _), (trodAll_cons_mk (Below.trod laidOut (by kernel_rfl) (of_decide_eq_true (by kernel_rfl)) k0 bel lt0) (trodAll_cons_mk (Below.trod laidOut (by kernel_rfl) (of_decide_eq_true (by kernel_rfl)) k1 bel lt1) trodAll_mk0)), rfl, bel.frame _, fun h => by cases h⟩

theorem over : Rows.fnLedgerCapRow.holds Try.pinned (OpenSpec.ofChange Rows.fnLedgerCapSpec) :=
  OpenClaim.holds_of_wide 10 Try.f10 rfl rfl rfl rfl rfl rfl rfl ⟨rfl, rfl, rfl, rfl, rfl⟩ rfl rfl rfl rfl rfl (by kernel_rfl) Try.func10 (by kernel_rfl)
    (of_decide_eq_true (by kernel_rfl)) (by unfold Func.isWrapper; first | (rw [if_pos (by decide +kernel)]; kernel_rfl) | (rw [if_neg (by decide +kernel)]; exact ⟨rfl, rfl⟩))
    (fun os started H enc _ => lifted os started H enc)

/-- ████ THE STATEMENT ████ -/
theorem proved : Rows.FnLedgerCapSaid := over
#print axioms proved
end Go.Proofs.Ytigeffgehckbpab.fnLedgerCap
