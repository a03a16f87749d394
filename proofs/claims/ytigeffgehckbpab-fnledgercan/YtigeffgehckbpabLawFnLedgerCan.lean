/-
  What can be paid can be paid of more, too: the law FnLedgerCan returns true for every two codes.
  Conditions: none but the statement's own. Proved: Rows.FnLedgerCanSaid.
-/
import Derived.Test.YtigeffgehckbpabRows
import Derived.WalkKit
import Derived.ProofKit
import Derived.OpenShut
import Derived.ShutString
import Derived.ChangeOld
import Derived.Below
import Derived.Test.YtigeffgehckbpabFp
import Derived.Test.YtigeffgehckbpabBase
import Derived.Test.YtigeffgehckbpabField
import Derived.Test.YtigeffgehckbpabSl
import Derived.Test.YtigeffgehckbpabTri
import Derived.Test.YtigeffgehckbpabFr
import Derived.Test.YtigeffgehckbpabFrl
import Derived.Test.YtigeffgehckbpabFrc
import Derived.Test.YtigeffgehckbpabFrd
import Derived.Test.YtigeffgehckbpabFre
import Derived.Test.YtigeffgehckbpabFrf
import Derived.Test.YtigeffgehckbpabDraw
import Derived.Test.YtigeffgehckbpabFrg
import Derived.Test.YtigeffgehckbpabLg
import Derived.Test.YtigeffgehckbpabFs
import Derived.Test.YtigeffgehckbpabCat
import Derived.Test.YtigeffgehckbpabLed
import Derived.Test.YtigeffgehckbpabRev
import Derived.Test.YtigeffgehckbpabLee
import Derived.Test.YtigeffgehckbpabLef
import Derived.Test.YtigeffgehckbpabLeg
import Derived.Test.YtigeffgehckbpabLeh
import Derived.Test.YtigeffgehckbpabLei
import Derived.Test.YtigeffgehckbpabLgm
import Derived.Test.YtigeffgehckbpabLej
import Derived.Test.YtigeffgehckbpabLek
import Derived.Test.YtigeffgehckbpabLem
namespace Go.Proofs.Ytigeffgehckbpab.fnLedgerCan
open Go.ChangeShapes Go.WideShapes Go.ChangeAt Go.RowKit
open Go.ChangeMaps (open_string shut_string)
set_option linter.unusedVariables false
set_option linter.unusedSimpArgs false

theorem own : ownKnob Try.prog.godebug = none := by kernel_rfl
theorem laidOut : laidOutB Try.prog = true := by kernel_rfl

theorem rg_call {W0 W W' : World} {p1 p2 p3 : Addr} {x1 x2 x3 : Value} (h : Hid (Below W0.heap.size W0 W) ∧ W.cell? p1 = some x1 ∧ W.cell? p2 = some x2 ∧ W.cell? p3 = some x3) (k : Below W.heap.size W W') :
    Hid (Below W0.heap.size W0 W') ∧ W'.cell? p1 = some x1 ∧ W'.cell? p2 = some x2 ∧ W'.cell? p3 = some x3 := by
  obtain ⟨h0, h1, h2, h3⟩ := h
  exact ⟨Lib.hid (h0.out.trans (k.mono h0.out.size)), cell_later k h1, cell_later k h2, cell_later k h3⟩
theorem rg_b {W0 W : World} {p1 p2 p3 : Addr} {x1 x2 x3 : Value} (h : Hid (Below W0.heap.size W0 W) ∧ W.cell? p1 = some x1 ∧ W.cell? p2 = some x2 ∧ W.cell? p3 = some x3) : Below W0.heap.size W0 W := h.1.out
set_option maxHeartbeats 1000000 in
set_option maxRecDepth 100000 in
theorem walk (a0 : Option Addr) (len0 cap0 : Nat) (z0 : List Int) (a1 : Option Addr) (len1 cap1 : Nat) (z1 : List Int) (w : World) (w0 : IsRow .u8 w a0 len0 cap0 z0) (w1 : IsRow .u8 w a1 len1 cap1 z1) :
    Calls Try.prog 7 #[.slice a0 len0 cap0, .slice a1 len1 cap1] w fun e w' => e = .returned (.bool true) ∧ Below w.heap.size w w' := by
  obtain ⟨c1, c2⟩ := w0.sizes
  obtain ⟨d1, d2⟩ := w1.sizes
  have Hb := Lib.hid (Bys.of_row w0)
  clear w0 w1
  by_cases hl : 1048576 < len0
  · go_enter Try.func7, Try.ntmps7
    go_wp2
    go_ret
    exact ⟨rfl, Below.refl _ _⟩
  by_cases hl1 : 1048576 < len1
  · go_enter Try.func7, Try.ntmps7
    go_wp2
    go_ret
    exact ⟨rfl, Below.refl _ _⟩
  go_enter Try.func7, Try.ntmps7
  have B := Lib.hid (Below.refl w.heap.size w)
  go_wp2_with fail
  refine (spec_DrawLedgerCan a0 len0 cap0 w Hb.out c1 c2).mono ?_
  rintro e v1 ⟨c, d, al, nl, kl, fs, x, y, hn, rfl, ol, b_⟩
  have ll := Lib.hid ol.len
  clear c1 c2 Hb
  replace B := Lib.hid (B.out.trans (b_.mono B.out.size))
  clear b_
  have S_l := Lib.hid ol.sf
  clear ol
  obtain ⟨v2, hw_v2, z1_, b1_, t1_⟩ := led_box v1 c d al nl kl 27
  obtain ⟨v3, hw_v3, z2_, b2_, t2_⟩ := duo_box v2 x y 24
  rw [z1_] at t2_
  have b_ := b1_.trans (b2_.mono b1_.size)
  have T_l := Lib.hid (tri_moreB t1_ b2_)
  have T_f := Lib.hid t2_
  replace S_l := Lib.hid (S_l.out.below b_)
  replace B := Lib.hid (B.out.trans (b_.mono B.out.size))
  clear z2_ b1_ b2_ b_ t1_ t2_
  have m1 : (Fr.pB c d fs x y != Fr.pB c d fs x y) = false := by simp
  have m2 : (Fr.pB c d fs x y == Fr.pB c d fs x y) = true := by simp
  obtain ⟨l_0, l_1, l_2, -, -, -⟩ := led_at T_l.out
  obtain ⟨f_0, f_1, -, -⟩ := duo_at T_f.out
  go_wp2_with fail
  refine (impl_LedgerCan c d al nl kl fs x y _ S_l.out (by omega)).mono ?_
  rintro e v4 ⟨rfl, b_⟩
  clear l_0 l_1 l_2 f_0 f_1 hw_v2 hw_v3 z1_
  replace T_l := Lib.hid (tri_moreB T_l.out b_)
  replace T_f := Lib.hid (tri_moreB T_f.out b_)
  replace S_l := Lib.hid (S_l.out.below b_)
  replace B := Lib.hid (B.out.trans (b_.mono B.out.size))
  clear b_
  obtain ⟨l_0, l_1, l_2, -, -, -⟩ := led_at T_l.out
  obtain ⟨f_0, f_1, -, -⟩ := duo_at T_f.out
  go_wp2_with fail
  refine (spec_LedgerCan c d al nl kl fs x y _ S_l.out (by omega)).mono ?_
  rintro e v5 ⟨rfl, b_⟩
  clear l_0 l_1 l_2 f_0 f_1
  replace T_l := Lib.hid (tri_moreB T_l.out b_)
  replace T_f := Lib.hid (tri_moreB T_f.out b_)
  replace S_l := Lib.hid (S_l.out.below b_)
  replace B := Lib.hid (B.out.trans (b_.mono B.out.size))
  clear b_
  obtain ⟨l_0, l_1, l_2, -, -, -⟩ := led_at T_l.out
  obtain ⟨f_0, f_1, -, -⟩ := duo_at T_f.out
  go_wp2_with fail
  refine (spec_LedgerOk c d al nl kl fs  _ S_l.out (by omega)).mono ?_
  rintro e v6 ⟨rfl, b_⟩
  clear l_0 l_1 l_2 f_0 f_1
  replace T_l := Lib.hid (tri_moreB T_l.out b_)
  replace T_f := Lib.hid (tri_moreB T_f.out b_)
  replace S_l := Lib.hid (S_l.out.below b_)
  replace B := Lib.hid (B.out.trans (b_.mono B.out.size))
  clear b_
  cases hg : Fr.good c d fs
  · obtain ⟨l_0, l_1, l_2, -, -, -⟩ := led_at T_l.out
    obtain ⟨f_0, f_1, -, -⟩ := duo_at T_f.out
    go_wp2_with fail
    refine (spec_LedgerCan c d al nl kl fs x y _ S_l.out (by omega)).mono ?_
    rintro e v7 ⟨rfl, b_⟩
    clear l_0 l_1 l_2 f_0 f_1
    replace T_l := Lib.hid (tri_moreB T_l.out b_)
    replace T_f := Lib.hid (tri_moreB T_f.out b_)
    replace S_l := Lib.hid (S_l.out.below b_)
    replace B := Lib.hid (B.out.trans (b_.mono B.out.size))
    clear b_
    obtain ⟨l_0, l_1, l_2, -, -, -⟩ := led_at T_l.out
    obtain ⟨f_0, f_1, -, -⟩ := duo_at T_f.out
    go_wp2
    go_ret
    exact ⟨rfl, B.out⟩
  have HG := Lib.hid hg
  have lf : fs.length = nl := ll.out
  have CZ := Lib.hid (show Fr.pB c d fs 0 1 = true by rw [Fr.can_zero hg]; simp; omega)
  have i8 : (nl : Int) < 8 := by omega
  have i8d : decide ((nl : Int) < 8) = true := decide_eq_true i8
  clear hg m1 m2
  have g0 : 0 ≤ 1 + (len1 : Int) % 5 := by omega
  have g1 : 1 + (len1 : Int) % 5 ≤ 5 := by omega
  have g2 : 0 ≤ 1 + (len1 : Int) % 7 := by omega
  have g3 : 1 + (len1 : Int) % 7 ≤ 7 := by omega
  obtain ⟨l_0, l_1, l_2, -, -, -⟩ := led_at T_l.out
  obtain ⟨f_0, f_1, -, -⟩ := duo_at T_f.out
  go_wp2_with fail
  refine (impl_FracOf _ _ _).mono ?_
  rintro e v7 ⟨rfl, b_⟩
  clear l_0 l_1 l_2 f_0 f_1
  generalize hA : 1 + (len1 : Int) % 5 = A
  generalize hB_ : 1 + (len1 : Int) % 7 = A'
  clear g0 g1 g2 g3 hA hB_
  have OO := Lib.hid (show Fr.ofB A A' = true → Fr.ok (Fr.ofN A A') (Fr.ofD A A') = true from fun h => by obtain ⟨n1, n2, rfl, rfl, -⟩ := Fr.of_nats h; exact Fr.of_ok h)
  generalize Fr.ofN A A' = gn at OO ⊢
  generalize Fr.ofD A A' = gd at OO ⊢
  generalize Fr.ofB A A' = made at OO ⊢
  replace T_l := Lib.hid (tri_moreB T_l.out b_)
  replace T_f := Lib.hid (tri_moreB T_f.out b_)
  replace S_l := Lib.hid (S_l.out.below b_)
  replace B := Lib.hid (B.out.trans (b_.mono B.out.size))
  clear b_
  obtain ⟨v8, hw_v8, z_, b_, t_⟩ := duo_box v7 gn gd 24
  replace T_l := Lib.hid (tri_moreB T_l.out b_)
  replace T_f := Lib.hid (tri_moreB T_f.out b_)
  replace S_l := Lib.hid (S_l.out.below b_)
  replace B := Lib.hid (B.out.trans (b_.mono B.out.size))
  have T_g := Lib.hid t_
  clear z_ b_ t_
  obtain ⟨l_0, l_1, l_2, -, -, -⟩ := led_at T_l.out
  obtain ⟨f_0, f_1, -, -⟩ := duo_at T_f.out
  obtain ⟨g_0, g_1, -, -⟩ := duo_at T_g.out
  go_wp2_with fail
  refine (impl_LedgerSum c d al nl kl fs  _ S_l.out (by omega)).mono ?_
  rintro e v9 ⟨rfl, b_⟩
  rw [HG.out]
  clear l_0 l_1 l_2 f_0 f_1 g_0 g_1 hw_v8
  replace T_l := Lib.hid (tri_moreB T_l.out b_)
  replace T_f := Lib.hid (tri_moreB T_f.out b_)
  replace T_g := Lib.hid (tri_moreB T_g.out b_)
  replace S_l := Lib.hid (S_l.out.below b_)
  replace B := Lib.hid (B.out.trans (b_.mono B.out.size))
  clear b_
  obtain ⟨v10, hw_v10, z_, b_, t_⟩ := duo_box v9 (Fr.total c d fs).1 (Fr.total c d fs).2 24
  replace T_l := Lib.hid (tri_moreB T_l.out b_)
  replace T_f := Lib.hid (tri_moreB T_f.out b_)
  replace T_g := Lib.hid (tri_moreB T_g.out b_)
  replace S_l := Lib.hid (S_l.out.below b_)
  replace B := Lib.hid (B.out.trans (b_.mono B.out.size))
  have T_s := Lib.hid t_
  clear z_ b_ t_
  obtain ⟨l_0, l_1, l_2, -, -, -⟩ := led_at T_l.out
  obtain ⟨f_0, f_1, -, -⟩ := duo_at T_f.out
  obtain ⟨g_0, g_1, -, -⟩ := duo_at T_g.out
  obtain ⟨s_0, s_1, -, -⟩ := duo_at T_s.out
  go_wp2_with fail
  refine (impl_FracSum _ _ gn gd _).mono ?_
  rintro e v11 ⟨rfl, b_⟩
  clear l_0 l_1 l_2 f_0 f_1 g_0 g_1 s_0 s_1 hw_v10
  replace T_l := Lib.hid (tri_moreB T_l.out b_)
  replace T_f := Lib.hid (tri_moreB T_f.out b_)
  replace T_g := Lib.hid (tri_moreB T_g.out b_)
  replace T_s := Lib.hid (tri_moreB T_s.out b_)
  replace S_l := Lib.hid (S_l.out.below b_)
  replace B := Lib.hid (B.out.trans (b_.mono B.out.size))
  clear b_
  obtain ⟨v12, hw_v12, z_, b_, t_⟩ := duo_box v11 (Fr.sN (Fr.total c d fs).1 (Fr.total c d fs).2 gn gd) (Fr.sD (Fr.total c d fs).1 (Fr.total c d fs).2 gn gd) 24
  replace T_l := Lib.hid (tri_moreB T_l.out b_)
  replace T_f := Lib.hid (tri_moreB T_f.out b_)
  replace T_g := Lib.hid (tri_moreB T_g.out b_)
  replace T_s := Lib.hid (tri_moreB T_s.out b_)
  replace S_l := Lib.hid (S_l.out.below b_)
  replace B := Lib.hid (B.out.trans (b_.mono B.out.size))
  have T_t := Lib.hid t_
  clear z_ b_ t_
  cases hpb : Fr.pB c d fs x y
  · obtain ⟨l_0, l_1, l_2, -, -, -⟩ := led_at T_l.out
    obtain ⟨f_0, f_1, -, -⟩ := duo_at T_f.out
    obtain ⟨g_0, g_1, -, -⟩ := duo_at T_g.out
    obtain ⟨s_0, s_1, -, -⟩ := duo_at T_s.out
    obtain ⟨t_0, t_1, -, -⟩ := duo_at T_t.out
    have S1 := Lib.hid (show Hid (Below v12.heap.size v12 v12.drew) ∧ v12.drew.cell? ⟨v1.heap.size, 0, none⟩ = some (.int .i64 c) ∧ v12.drew.cell? ⟨v1.heap.size, 1, none⟩ = some (.int .i64 d) ∧ v12.drew.cell? ⟨v1.heap.size, 2, none⟩ = some (.slice al nl kl) from ⟨Lib.hid (Below.refl _ _).drew, l_0, l_1, l_2⟩)
    go_wp2_with fail
    go_region_held3 (fun w' : World => Hid (Below v12.heap.size v12 w') ∧ w'.cell? ⟨v1.heap.size, 0, none⟩ = some (.int .i64 c) ∧ w'.cell? ⟨v1.heap.size, 1, none⟩ = some (.int .i64 d) ∧ w'.cell? ⟨v1.heap.size, 2, none⟩ = some (.slice al nl kl)) (first | exact S1.out | exact rg_call (by assumption) b0_ | assumption) (first | (go_at_call 18; refine (impl_LedgerCan c d al nl kl fs 0 1 _ (S_l.out.below (rg_b (by assumption))) (by omega)).mono ?_; rintro e u0 ⟨rfl, b0_⟩; rw [CZ.out]; have P0 := Lib.hid ((rg_call (W0 := v12) (by assumption) b0_).1.out)))
    all_goals
      replace B := Lib.hid (B.out.trans (P0.out.mono B.out.size))
      go_wp2
      go_ret
      exact ⟨rfl, B.out⟩
  cases hm : made
  · obtain ⟨l_0, l_1, l_2, -, -, -⟩ := led_at T_l.out
    obtain ⟨f_0, f_1, -, -⟩ := duo_at T_f.out
    obtain ⟨g_0, g_1, -, -⟩ := duo_at T_g.out
    obtain ⟨s_0, s_1, -, -⟩ := duo_at T_s.out
    obtain ⟨t_0, t_1, -, -⟩ := duo_at T_t.out
    have S1 := Lib.hid (show Hid (Below v12.heap.size v12 v12.drew) ∧ v12.drew.cell? ⟨v1.heap.size, 0, none⟩ = some (.int .i64 c) ∧ v12.drew.cell? ⟨v1.heap.size, 1, none⟩ = some (.int .i64 d) ∧ v12.drew.cell? ⟨v1.heap.size, 2, none⟩ = some (.slice al nl kl) from ⟨Lib.hid (Below.refl _ _).drew, l_0, l_1, l_2⟩)
    go_wp2_with fail
    go_region_held3 (fun w' : World => Hid (Below v12.heap.size v12 w') ∧ w'.cell? ⟨v1.heap.size, 0, none⟩ = some (.int .i64 c) ∧ w'.cell? ⟨v1.heap.size, 1, none⟩ = some (.int .i64 d) ∧ w'.cell? ⟨v1.heap.size, 2, none⟩ = some (.slice al nl kl)) (first | exact S1.out | exact rg_call (by assumption) b0_ | assumption) (first | (go_at_call 18; refine (impl_LedgerCan c d al nl kl fs 0 1 _ (S_l.out.below (rg_b (by assumption))) (by omega)).mono ?_; rintro e u0 ⟨rfl, b0_⟩; rw [CZ.out]; have P0 := Lib.hid ((rg_call (W0 := v12) (by assumption) b0_).1.out)))
    all_goals
      replace B := Lib.hid (B.out.trans (P0.out.mono B.out.size))
      go_wp2
      go_ret
      exact ⟨rfl, B.out⟩
  cases hw : Fr.sB (Fr.total c d fs).1 (Fr.total c d fs).2 gn gd
  · obtain ⟨l_0, l_1, l_2, -, -, -⟩ := led_at T_l.out
    obtain ⟨f_0, f_1, -, -⟩ := duo_at T_f.out
    obtain ⟨g_0, g_1, -, -⟩ := duo_at T_g.out
    obtain ⟨s_0, s_1, -, -⟩ := duo_at T_s.out
    obtain ⟨t_0, t_1, -, -⟩ := duo_at T_t.out
    have S1 := Lib.hid (show Hid (Below v12.heap.size v12 v12.drew) ∧ v12.drew.cell? ⟨v1.heap.size, 0, none⟩ = some (.int .i64 c) ∧ v12.drew.cell? ⟨v1.heap.size, 1, none⟩ = some (.int .i64 d) ∧ v12.drew.cell? ⟨v1.heap.size, 2, none⟩ = some (.slice al nl kl) from ⟨Lib.hid (Below.refl _ _).drew, l_0, l_1, l_2⟩)
    go_wp2_with fail
    go_region_held3 (fun w' : World => Hid (Below v12.heap.size v12 w') ∧ w'.cell? ⟨v1.heap.size, 0, none⟩ = some (.int .i64 c) ∧ w'.cell? ⟨v1.heap.size, 1, none⟩ = some (.int .i64 d) ∧ w'.cell? ⟨v1.heap.size, 2, none⟩ = some (.slice al nl kl)) (first | exact S1.out | exact rg_call (by assumption) b0_ | assumption) (first | (go_at_call 18; refine (impl_LedgerCan c d al nl kl fs 0 1 _ (S_l.out.below (rg_b (by assumption))) (by omega)).mono ?_; rintro e u0 ⟨rfl, b0_⟩; rw [CZ.out]; have P0 := Lib.hid ((rg_call (W0 := v12) (by assumption) b0_).1.out)))
    all_goals
      replace B := Lib.hid (B.out.trans (P0.out.mono B.out.size))
      go_wp2
      go_ret
      exact ⟨rfl, B.out⟩
  obtain ⟨l_0, l_1, l_2, -, -, -⟩ := led_at T_l.out
  obtain ⟨f_0, f_1, -, -⟩ := duo_at T_f.out
  obtain ⟨g_0, g_1, -, -⟩ := duo_at T_g.out
  obtain ⟨s_0, s_1, -, -⟩ := duo_at T_s.out
  obtain ⟨t_0, t_1, -, -⟩ := duo_at T_t.out
  go_wp2_with fail
  refine (impl_FracCmp gn gd x y _).mono ?_
  rintro e v13 ⟨rfl, b_⟩
  clear l_0 l_1 l_2 f_0 f_1 g_0 g_1 s_0 s_1 t_0 t_1 hw_v12
  replace T_l := Lib.hid (tri_moreB T_l.out b_)
  replace T_f := Lib.hid (tri_moreB T_f.out b_)
  replace T_g := Lib.hid (tri_moreB T_g.out b_)
  replace T_s := Lib.hid (tri_moreB T_s.out b_)
  replace T_t := Lib.hid (tri_moreB T_t.out b_)
  replace S_l := Lib.hid (S_l.out.below b_)
  replace B := Lib.hid (B.out.trans (b_.mono B.out.size))
  clear b_
  by_cases hc : Fr.cmp gn gd x y ≤ 0
  · have hcd : decide (Fr.cmp gn gd x y ≤ 0) = true := decide_eq_true hc
    have CL := Lib.hid (Fr.can_less hpb (OO.out hm) hw hc)
    obtain ⟨l_0, l_1, l_2, -, -, -⟩ := led_at T_l.out
    obtain ⟨f_0, f_1, -, -⟩ := duo_at T_f.out
    obtain ⟨g_0, g_1, -, -⟩ := duo_at T_g.out
    obtain ⟨s_0, s_1, -, -⟩ := duo_at T_s.out
    obtain ⟨t_0, t_1, -, -⟩ := duo_at T_t.out
    go_wp2_with fail
    refine (impl_LedgerCan c d al nl kl fs gn gd _ S_l.out (by omega)).mono ?_
    rintro e v14 ⟨rfl, b_⟩
    rw [CL.out]
    clear l_0 l_1 l_2 f_0 f_1 g_0 g_1 s_0 s_1 t_0 t_1
    replace T_l := Lib.hid (tri_moreB T_l.out b_)
    replace T_f := Lib.hid (tri_moreB T_f.out b_)
    replace T_g := Lib.hid (tri_moreB T_g.out b_)
    replace T_s := Lib.hid (tri_moreB T_s.out b_)
    replace T_t := Lib.hid (tri_moreB T_t.out b_)
    replace S_l := Lib.hid (S_l.out.below b_)
    replace B := Lib.hid (B.out.trans (b_.mono B.out.size))
    clear b_
    obtain ⟨l_0, l_1, l_2, -, -, -⟩ := led_at T_l.out
    obtain ⟨f_0, f_1, -, -⟩ := duo_at T_f.out
    obtain ⟨g_0, g_1, -, -⟩ := duo_at T_g.out
    obtain ⟨s_0, s_1, -, -⟩ := duo_at T_s.out
    obtain ⟨t_0, t_1, -, -⟩ := duo_at T_t.out
    have S1 := Lib.hid (show Hid (Below v14.heap.size v14 v14.drew) ∧ v14.drew.cell? ⟨v1.heap.size, 0, none⟩ = some (.int .i64 c) ∧ v14.drew.cell? ⟨v1.heap.size, 1, none⟩ = some (.int .i64 d) ∧ v14.drew.cell? ⟨v1.heap.size, 2, none⟩ = some (.slice al nl kl) from ⟨Lib.hid (Below.refl _ _).drew, l_0, l_1, l_2⟩)
    go_wp2_with fail
    go_region_held3 (fun w' : World => Hid (Below v14.heap.size v14 w') ∧ w'.cell? ⟨v1.heap.size, 0, none⟩ = some (.int .i64 c) ∧ w'.cell? ⟨v1.heap.size, 1, none⟩ = some (.int .i64 d) ∧ w'.cell? ⟨v1.heap.size, 2, none⟩ = some (.slice al nl kl)) (first | exact S1.out | exact rg_call (by assumption) b0_ | assumption) (first | (go_at_call 18; refine (impl_LedgerCan c d al nl kl fs 0 1 _ (S_l.out.below (rg_b (by assumption))) (by omega)).mono ?_; rintro e u0 ⟨rfl, b0_⟩; rw [CZ.out]; have P0 := Lib.hid ((rg_call (W0 := v14) (by assumption) b0_).1.out)))
    all_goals
      replace B := Lib.hid (B.out.trans (P0.out.mono B.out.size))
      go_wp2
      go_ret
      exact ⟨rfl, B.out⟩
  have hcd : decide (Fr.cmp gn gd x y ≤ 0) = false := decide_eq_false hc
  obtain ⟨l_0, l_1, l_2, -, -, -⟩ := led_at T_l.out
  obtain ⟨f_0, f_1, -, -⟩ := duo_at T_f.out
  obtain ⟨g_0, g_1, -, -⟩ := duo_at T_g.out
  obtain ⟨s_0, s_1, -, -⟩ := duo_at T_s.out
  obtain ⟨t_0, t_1, -, -⟩ := duo_at T_t.out
  have S1 := Lib.hid (show Hid (Below v13.heap.size v13 v13.drew) ∧ v13.drew.cell? ⟨v1.heap.size, 0, none⟩ = some (.int .i64 c) ∧ v13.drew.cell? ⟨v1.heap.size, 1, none⟩ = some (.int .i64 d) ∧ v13.drew.cell? ⟨v1.heap.size, 2, none⟩ = some (.slice al nl kl) from ⟨Lib.hid (Below.refl _ _).drew, l_0, l_1, l_2⟩)
  go_wp2_with fail
  go_region_held3 (fun w' : World => Hid (Below v13.heap.size v13 w') ∧ w'.cell? ⟨v1.heap.size, 0, none⟩ = some (.int .i64 c) ∧ w'.cell? ⟨v1.heap.size, 1, none⟩ = some (.int .i64 d) ∧ w'.cell? ⟨v1.heap.size, 2, none⟩ = some (.slice al nl kl)) (first | exact S1.out | exact rg_call (by assumption) b0_ | assumption) (first | (go_at_call 18; refine (impl_LedgerCan c d al nl kl fs 0 1 _ (S_l.out.below (rg_b (by assumption))) (by omega)).mono ?_; rintro e u0 ⟨rfl, b0_⟩; rw [CZ.out]; have P0 := Lib.hid ((rg_call (W0 := v13) (by assumption) b0_).1.out)))
  all_goals
    replace B := Lib.hid (B.out.trans (P0.out.mono B.out.size))
    go_wp2
    go_ret
    exact ⟨rfl, B.out⟩

/-! ### THE ROW's STEP: WRITTEN OUT: LEAVE IT -/
set_option maxRecDepth 100000 in
theorem lifted (os : Os) (started : os.Started) (H : Type) (enc : TypeId × Value → H) :
    ReturnsInHanded {} Try.checked os 7 .any (Rows.fnLedgerCanSpec.pre6 enc Try.prog Try.f7 Rows.fnLedgerCanRow.domain false) (Rows.fnLedgerCanSpec.post enc Try.prog Try.f7 false true false false) := by
  refine returnsInHanded_of_change (C := Try.checked) own started (by kernel_rfl) Try.func7
    (ChangeSpec.witness6 (enc := enc) (C := Try.checked) false ⟨#[], #[.slice none 0 0, .slice none 0 0], []⟩ 8 (by kernel_rfl) (by kernel_rfl) (by kernel_rfl) (by kernel_rfl)) ?_
  intro W base args ds gs before hval0 hW hcnd _
  have hval : ∀ (j : Nat) t v, Try.f7.params[j]? = some t → args[j]? = some v → Value.okWide Try.prog W .any base t v := hval0
  have hW' := hW
  obtain ⟨p, q, hA0, hV, rfl, hfz, hnd⟩ := hW
  have hA : DataW.TrodAll enc Try.prog W 0 (fun _ => true) true Try.f7.params.toList args.toList ds p := hA0
  rw [Try.params7] at hA hval
  obtain ⟨v0, vs0, d0, ds0, p0, q0, hargs, rfl, rfl, h0, r0⟩ := trodAll_cons hA
  obtain ⟨v1, vs1, d1, ds1, p1, q1, rfl, rfl, rfl, h1, r1⟩ := trodAll_cons r0
  obtain ⟨rfl, rfl, rfl⟩ := trodAll_nil r1
  obtain rfl : args = #[v0, v1] := by cases args; simp_all
  obtain ⟨rfl, rfl⟩ := trodVars_none hV
  obtain ⟨a0, len0, cap0, rfl⟩ := okWide_slice Try.underlying22 (hval 0 22 v0 rfl rfl)
  have k0 := h0
  have lt0 : ∀ x ∈ p0, x.block < W.heap.size := by obtain ⟨m, hm⟩ := k0; exact DataW.trod_lt m _ _ _ hm
  obtain ⟨z0, w0⟩ : ∃ zs, IsRow .u8 W a0 len0 cap0 zs := by
    obtain ⟨fuel, hf⟩ := h0
    rcases open_ints Try.underlying22 Try.underlying5 (by kernel_rfl) hf with ⟨hcs, _⟩ | ⟨x, l, c, zs, hcs, _, hl, hm, hz, _, hcell, hwz⟩
    · simp [Value.cells] at hcs
      obtain ⟨rfl, rfl, rfl⟩ := hcs
      exact ⟨[], .inl ⟨rfl, rfl, rfl, rfl⟩⟩
    · simp [Value.cells] at hcs
      obtain ⟨rfl, rfl, rfl⟩ := hcs
      exact ⟨zs, .inr ⟨_, rfl, hl, hm, by simpa using hz, hcell, hwz⟩⟩
  obtain ⟨a1, len1, cap1, rfl⟩ := okWide_slice Try.underlying22 (hval 1 22 v1 rfl rfl)
  have k1 := h1
  have lt1 : ∀ x ∈ p1, x.block < W.heap.size := by obtain ⟨m, hm⟩ := k1; exact DataW.trod_lt m _ _ _ hm
  obtain ⟨z1, w1⟩ : ∃ zs, IsRow .u8 W a1 len1 cap1 zs := by
    obtain ⟨fuel, hf⟩ := h1
    rcases open_ints Try.underlying22 Try.underlying5 (by kernel_rfl) hf with ⟨hcs, _⟩ | ⟨x, l, c, zs, hcs, _, hl, hm, hz, _, hcell, hwz⟩
    · simp [Value.cells] at hcs
      obtain ⟨rfl, rfl, rfl⟩ := hcs
      exact ⟨[], .inl ⟨rfl, rfl, rfl, rfl⟩⟩
    · simp [Value.cells] at hcs
      obtain ⟨rfl, rfl, rfl⟩ := hcs
      exact ⟨zs, .inr ⟨_, rfl, hl, hm, by simpa using hz, hcell, hwz⟩⟩
  clear hA0 hval0
  refine (walk a0 len0 cap0 z0 a1 len1 cap1 z1 W w0 w1).mono fun e W' ⟨he, bel⟩ => ?_
  subst he
  exact ⟨_, rfl, _, _, _, [], _, [], hW', trodAll_mk1 (shut_bool Try.underlying4 _), (trodAll_cons_mk (Below.trod laidOut (by kernel_rfl) (of_decide_eq_true (by kernel_rfl)) k0 bel lt0) (trodAll_cons_mk (Below.trod laidOut (by kernel_rfl) (of_decide_eq_true (by kernel_rfl)) k1 bel lt1) trodAll_mk0)), rfl, bel.frame _, fun h => by cases h⟩

theorem over : Rows.fnLedgerCanRow.holds Try.pinned (OpenSpec.ofChange Rows.fnLedgerCanSpec) :=
  OpenClaim.holds_of_wide 7 Try.f7 rfl rfl rfl rfl rfl rfl rfl ⟨rfl, rfl, rfl, rfl, rfl⟩ rfl rfl rfl rfl rfl (by kernel_rfl) Try.func7 (by kernel_rfl)
    (of_decide_eq_true (by kernel_rfl)) (by unfold Func.isWrapper; first | (rw [if_pos (by decide +kernel)]; kernel_rfl) | (rw [if_neg (by decide +kernel)]; exact ⟨rfl, rfl⟩))
    (fun os started H enc _ => lifted os started H enc)

/-- ████ THE STATEMENT ████ -/
theorem proved : Rows.FnLedgerCanSaid := over
#print axioms proved
end Go.Proofs.Ytigeffgehckbpab.fnLedgerCan
