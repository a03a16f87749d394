/-
  What is paid is paid, if there is enough: the law FnPay returns true for every code.
  Conditions: none but the statement's own. Proved: Rows.FnPaySaid.
-/
import Derived.Test.YtigeffgehckbpabRows
import Derived.WalkKit
import Derived.ProofKit
import Derived.OpenShut
import Derived.ShutString
import Derived.ChangeOld
import Derived.Below
import Derived.Test.YtigeffgehckbpabFp
import Derived.Test.YtigeffgehckbpabBase
import Derived.Test.YtigeffgehckbpabField
import Derived.Test.YtigeffgehckbpabSl
import Derived.Test.YtigeffgehckbpabTri
import Derived.Test.YtigeffgehckbpabFr
import Derived.Test.YtigeffgehckbpabFrl
import Derived.Test.YtigeffgehckbpabFrc
import Derived.Test.YtigeffgehckbpabFrd
import Derived.Test.YtigeffgehckbpabFre
import Derived.Test.YtigeffgehckbpabFrf
import Derived.Test.YtigeffgehckbpabDraw
import Derived.Test.YtigeffgehckbpabFrg
import Derived.Test.YtigeffgehckbpabLg
import Derived.Test.YtigeffgehckbpabFs
import Derived.Test.YtigeffgehckbpabCat
import Derived.Test.YtigeffgehckbpabLed
import Derived.Test.YtigeffgehckbpabRev
import Derived.Test.YtigeffgehckbpabLee
import Derived.Test.YtigeffgehckbpabLef
import Derived.Test.YtigeffgehckbpabLeg
import Derived.Test.YtigeffgehckbpabLeh
import Derived.Test.YtigeffgehckbpabLei
import Derived.Test.YtigeffgehckbpabLgm
import Derived.Test.YtigeffgehckbpabLej
import Derived.Test.YtigeffgehckbpabLek
import Derived.Test.YtigeffgehckbpabLem
namespace Go.Proofs.Ytigeffgehckbpab.fnPay
open Go.ChangeShapes Go.WideShapes Go.ChangeAt Go.RowKit
open Go.ChangeMaps (open_string shut_string)
set_option linter.unusedVariables false
set_option linter.unusedSimpArgs false

theorem own : ownKnob Try.prog.godebug = none := by kernel_rfl
theorem laidOut : laidOutB Try.prog = true := by kernel_rfl

theorem rg_call {W0 W W' : World} {p1 p2 p3 p4 p5 p6 p7 p8 p9 p10 p11 p12 : Addr} {x1 x2 x3 x4 x5 x6 x7 x8 x9 x10 x11 x12 : Value} (h : Hid (Below W0.heap.size W0 W) ∧ W.cell? p1 = some x1 ∧ W.cell? p2 = some x2 ∧ W.cell? p3 = some x3 ∧ W.cell? p4 = some x4 ∧ W.cell? p5 = some x5 ∧ W.cell? p6 = some x6 ∧ W.cell? p7 = some x7 ∧ W.cell? p8 = some x8 ∧ W.cell? p9 = some x9 ∧ W.cell? p10 = some x10 ∧ W.cell? p11 = some x11 ∧ W.cell? p12 = some x12) (k : Below W.heap.size W W') :
    Hid (Below W0.heap.size W0 W') ∧ W'.cell? p1 = some x1 ∧ W'.cell? p2 = some x2 ∧ W'.cell? p3 = some x3 ∧ W'.cell? p4 = some x4 ∧ W'.cell? p5 = some x5 ∧ W'.cell? p6 = some x6 ∧ W'.cell? p7 = some x7 ∧ W'.cell? p8 = some x8 ∧ W'.cell? p9 = some x9 ∧ W'.cell? p10 = some x10 ∧ W'.cell? p11 = some x11 ∧ W'.cell? p12 = some x12 := by
  obtain ⟨h0, h1, h2, h3, h4, h5, h6, h7, h8, h9, h10, h11, h12⟩ := h
  exact ⟨Lib.hid (h0.out.trans (k.mono h0.out.size)), cell_later k h1, cell_later k h2, cell_later k h3, cell_later k h4, cell_later k h5, cell_later k h6, cell_later k h7, cell_later k h8, cell_later k h9, cell_later k h10, cell_later k h11, cell_later k h12⟩
theorem rg_b {W0 W : World} {p1 p2 p3 p4 p5 p6 p7 p8 p9 p10 p11 p12 : Addr} {x1 x2 x3 x4 x5 x6 x7 x8 x9 x10 x11 x12 : Value} (h : Hid (Below W0.heap.size W0 W) ∧ W.cell? p1 = some x1 ∧ W.cell? p2 = some x2 ∧ W.cell? p3 = some x3 ∧ W.cell? p4 = some x4 ∧ W.cell? p5 = some x5 ∧ W.cell? p6 = some x6 ∧ W.cell? p7 = some x7 ∧ W.cell? p8 = some x8 ∧ W.cell? p9 = some x9 ∧ W.cell? p10 = some x10 ∧ W.cell? p11 = some x11 ∧ W.cell? p12 = some x12) : Below W0.heap.size W0 W := h.1.out
set_option maxHeartbeats 1000000 in
set_option maxRecDepth 100000 in
theorem walk (a0 : Option Addr) (len0 cap0 : Nat) (z0 : List Int) (w : World) (w0 : IsRow .u8 w a0 len0 cap0 z0) :
    Calls Try.prog 3 #[.slice a0 len0 cap0] w fun e w' => e = .returned (.bool true) ∧ Below w.heap.size w w' := by
  obtain ⟨c1, c2⟩ := w0.sizes
  have Hb := Lib.hid (Bys.of_row w0)
  clear w0
  by_cases hl : 1048576 < len0
  · go_enter Try.func3, Try.ntmps3
    go_wp2
    go_ret
    exact ⟨rfl, Below.refl _ _⟩
  go_enter Try.func3, Try.ntmps3
  have B := Lib.hid (Below.refl w.heap.size w)
  go_wp2_with fail
  refine (spec_DrawLedgerPay a0 len0 cap0 w Hb.out c1 c2).mono ?_
  rintro e v1 ⟨c, d, al, nl, kl, fs, x, y, hn, rfl, ol, b_⟩
  have ll := Lib.hid ol.len
  clear c1 c2 Hb
  replace B := Lib.hid (B.out.trans (b_.mono B.out.size))
  clear b_
  have S_l := Lib.hid ol.sf
  clear ol
  obtain ⟨v2, hw_v2, z1_, b1_, t1_⟩ := led_box v1 c d al nl kl 27
  obtain ⟨v3, hw_v3, z2_, b2_, t2_⟩ := duo_box v2 x y 24
  rw [z1_] at t2_
  have b_ := b1_.trans (b2_.mono b1_.size)
  have T_l := Lib.hid (tri_moreB t1_ b2_)
  have T_f := Lib.hid t2_
  replace S_l := Lib.hid (S_l.out.below b_)
  replace B := Lib.hid (B.out.trans (b_.mono B.out.size))
  clear z2_ b1_ b2_ b_ t1_ t2_
  have m1 : (Fr.pB c d fs x y != Fr.pB c d fs x y) = false := by simp
  have m2 : (Fr.pB c d fs x y == Fr.pB c d fs x y) = true := by simp
  have PLn := Lib.hid (Fr.pL_len c d fs x y)
  obtain ⟨l_0, l_1, l_2, -, -, -⟩ := led_at T_l.out
  obtain ⟨f_0, f_1, -, -⟩ := duo_at T_f.out
  go_wp2_with fail
  refine (spec_LedgerPay c d al nl kl fs x y _ S_l.out (by omega)).mono ?_
  rintro e v4 ⟨aw, nw, kw, rfl, o_, b_⟩
  have S_w := Lib.hid o_.sf
  clear o_
  clear l_0 l_1 l_2 f_0 f_1 hw_v2 hw_v3 z1_
  replace T_l := Lib.hid (tri_moreB T_l.out b_)
  replace T_f := Lib.hid (tri_moreB T_f.out b_)
  replace S_l := Lib.hid (S_l.out.below b_)
  replace B := Lib.hid (B.out.trans (b_.mono B.out.size))
  clear b_
  have qw : nw ≤ 1048577 := by have h1 := S_w.out.len; have h2 := PLn.out; have h3 := ll.out; omega
  obtain ⟨v5, hw_v5, z_, b_, t_⟩ := led_box v4 (Fr.pC c d fs x y) (Fr.pD c d fs x y) aw nw kw 27
  replace T_l := Lib.hid (tri_moreB T_l.out b_)
  replace T_f := Lib.hid (tri_moreB T_f.out b_)
  replace S_l := Lib.hid (S_l.out.below b_)
  replace S_w := Lib.hid (S_w.out.below b_)
  replace B := Lib.hid (B.out.trans (b_.mono B.out.size))
  have T_w := Lib.hid t_
  clear z_ b_ t_
  obtain ⟨l_0, l_1, l_2, -, -, -⟩ := led_at T_l.out
  obtain ⟨f_0, f_1, -, -⟩ := duo_at T_f.out
  obtain ⟨w_0, w_1, w_2, -, -, -⟩ := led_at T_w.out
  go_wp2_with fail
  refine (impl_LedgerPay c d al nl kl fs x y _ S_l.out (by omega)).mono ?_
  rintro e v6 ⟨ax, nx, kx, rfl, o_, b_⟩
  have S_x := Lib.hid o_.sf
  clear o_
  clear l_0 l_1 l_2 f_0 f_1 w_0 w_1 w_2 hw_v5
  replace T_l := Lib.hid (tri_moreB T_l.out b_)
  replace T_f := Lib.hid (tri_moreB T_f.out b_)
  replace T_w := Lib.hid (tri_moreB T_w.out b_)
  replace S_l := Lib.hid (S_l.out.below b_)
  replace S_w := Lib.hid (S_w.out.below b_)
  replace B := Lib.hid (B.out.trans (b_.mono B.out.size))
  clear b_
  have qx : nx ≤ 1048577 := by have h1 := S_x.out.len; have h2 := PLn.out; have h3 := ll.out; omega
  obtain ⟨v7, hw_v7, z_, b_, t_⟩ := led_box v6 (Fr.pC c d fs x y) (Fr.pD c d fs x y) ax nx kx 27
  replace T_l := Lib.hid (tri_moreB T_l.out b_)
  replace T_f := Lib.hid (tri_moreB T_f.out b_)
  replace T_w := Lib.hid (tri_moreB T_w.out b_)
  replace S_l := Lib.hid (S_l.out.below b_)
  replace S_w := Lib.hid (S_w.out.below b_)
  replace S_x := Lib.hid (S_x.out.below b_)
  replace B := Lib.hid (B.out.trans (b_.mono B.out.size))
  have T_x := Lib.hid t_
  clear z_ b_ t_
  obtain ⟨l_0, l_1, l_2, -, -, -⟩ := led_at T_l.out
  obtain ⟨f_0, f_1, -, -⟩ := duo_at T_f.out
  obtain ⟨w_0, w_1, w_2, -, -, -⟩ := led_at T_w.out
  obtain ⟨x_0, x_1, x_2, -, -, -⟩ := led_at T_x.out
  go_wp2_with fail
  refine (laws_loLedger _ _ ax aw nx nw kx kw (Fr.pL c d fs x y) _ S_x.out S_w.out qx).mono ?_
  rintro e v8 ⟨rfl, b_⟩
  clear l_0 l_1 l_2 f_0 f_1 w_0 w_1 w_2 x_0 x_1 x_2 hw_v7
  replace T_l := Lib.hid (tri_moreB T_l.out b_)
  replace T_f := Lib.hid (tri_moreB T_f.out b_)
  replace T_w := Lib.hid (tri_moreB T_w.out b_)
  replace T_x := Lib.hid (tri_moreB T_x.out b_)
  replace S_l := Lib.hid (S_l.out.below b_)
  replace S_w := Lib.hid (S_w.out.below b_)
  replace S_x := Lib.hid (S_x.out.below b_)
  replace B := Lib.hid (B.out.trans (b_.mono B.out.size))
  clear b_
  obtain ⟨l_0, l_1, l_2, -, -, -⟩ := led_at T_l.out
  obtain ⟨f_0, f_1, -, -⟩ := duo_at T_f.out
  obtain ⟨w_0, w_1, w_2, -, -, -⟩ := led_at T_w.out
  obtain ⟨x_0, x_1, x_2, -, -, -⟩ := led_at T_x.out
  go_wp2_with fail
  refine (spec_LedgerOk c d al nl kl fs _ S_l.out (by omega)).mono ?_
  rintro e v9 ⟨rfl, b_⟩
  clear l_0 l_1 l_2 f_0 f_1 w_0 w_1 w_2 x_0 x_1 x_2
  replace T_l := Lib.hid (tri_moreB T_l.out b_)
  replace T_f := Lib.hid (tri_moreB T_f.out b_)
  replace T_w := Lib.hid (tri_moreB T_w.out b_)
  replace T_x := Lib.hid (tri_moreB T_x.out b_)
  replace S_l := Lib.hid (S_l.out.below b_)
  replace S_w := Lib.hid (S_w.out.below b_)
  replace S_x := Lib.hid (S_x.out.below b_)
  replace B := Lib.hid (B.out.trans (b_.mono B.out.size))
  clear b_
  cases hg : Fr.good c d fs
  · obtain ⟨l_0, l_1, l_2, -, -, -⟩ := led_at T_l.out
    obtain ⟨f_0, f_1, -, -⟩ := duo_at T_f.out
    obtain ⟨w_0, w_1, w_2, -, -, -⟩ := led_at T_w.out
    obtain ⟨x_0, x_1, x_2, -, -, -⟩ := led_at T_x.out
    go_wp2_with fail
    refine (laws_loLedger _ _ ax aw nx nw kx kw (Fr.pL c d fs x y) _ S_x.out S_w.out qx).mono ?_
    rintro e v10 ⟨rfl, b_⟩
    clear l_0 l_1 l_2 f_0 f_1 w_0 w_1 w_2 x_0 x_1 x_2
    replace T_l := Lib.hid (tri_moreB T_l.out b_)
    replace T_f := Lib.hid (tri_moreB T_f.out b_)
    replace T_w := Lib.hid (tri_moreB T_w.out b_)
    replace T_x := Lib.hid (tri_moreB T_x.out b_)
    replace S_l := Lib.hid (S_l.out.below b_)
    replace S_w := Lib.hid (S_w.out.below b_)
    replace S_x := Lib.hid (S_x.out.below b_)
    replace B := Lib.hid (B.out.trans (b_.mono B.out.size))
    clear b_
    obtain ⟨l_0, l_1, l_2, -, -, -⟩ := led_at T_l.out
    obtain ⟨f_0, f_1, -, -⟩ := duo_at T_f.out
    obtain ⟨w_0, w_1, w_2, -, -, -⟩ := led_at T_w.out
    obtain ⟨x_0, x_1, x_2, -, -, -⟩ := led_at T_x.out
    go_wp2
    go_ret
    exact ⟨rfl, B.out⟩
  obtain ⟨l_0, l_1, l_2, -, -, -⟩ := led_at T_l.out
  obtain ⟨f_0, f_1, -, -⟩ := duo_at T_f.out
  obtain ⟨w_0, w_1, w_2, -, -, -⟩ := led_at T_w.out
  obtain ⟨x_0, x_1, x_2, -, -, -⟩ := led_at T_x.out
  go_wp2_with fail
  refine (spec_FracOk x y _).mono ?_
  rintro e v10 ⟨rfl, b_⟩
  clear l_0 l_1 l_2 f_0 f_1 w_0 w_1 w_2 x_0 x_1 x_2
  replace T_l := Lib.hid (tri_moreB T_l.out b_)
  replace T_f := Lib.hid (tri_moreB T_f.out b_)
  replace T_w := Lib.hid (tri_moreB T_w.out b_)
  replace T_x := Lib.hid (tri_moreB T_x.out b_)
  replace S_l := Lib.hid (S_l.out.below b_)
  replace S_w := Lib.hid (S_w.out.below b_)
  replace S_x := Lib.hid (S_x.out.below b_)
  replace B := Lib.hid (B.out.trans (b_.mono B.out.size))
  clear b_
  cases ho : Fr.ok x y
  · obtain ⟨l_0, l_1, l_2, -, -, -⟩ := led_at T_l.out
    obtain ⟨f_0, f_1, -, -⟩ := duo_at T_f.out
    obtain ⟨w_0, w_1, w_2, -, -, -⟩ := led_at T_w.out
    obtain ⟨x_0, x_1, x_2, -, -, -⟩ := led_at T_x.out
    go_wp2_with fail
    refine (laws_loLedger _ _ ax aw nx nw kx kw (Fr.pL c d fs x y) _ S_x.out S_w.out qx).mono ?_
    rintro e v11 ⟨rfl, b_⟩
    clear l_0 l_1 l_2 f_0 f_1 w_0 w_1 w_2 x_0 x_1 x_2
    replace T_l := Lib.hid (tri_moreB T_l.out b_)
    replace T_f := Lib.hid (tri_moreB T_f.out b_)
    replace T_w := Lib.hid (tri_moreB T_w.out b_)
    replace T_x := Lib.hid (tri_moreB T_x.out b_)
    replace S_l := Lib.hid (S_l.out.below b_)
    replace S_w := Lib.hid (S_w.out.below b_)
    replace S_x := Lib.hid (S_x.out.below b_)
    replace B := Lib.hid (B.out.trans (b_.mono B.out.size))
    clear b_
    obtain ⟨l_0, l_1, l_2, -, -, -⟩ := led_at T_l.out
    obtain ⟨f_0, f_1, -, -⟩ := duo_at T_f.out
    obtain ⟨w_0, w_1, w_2, -, -, -⟩ := led_at T_w.out
    obtain ⟨x_0, x_1, x_2, -, -, -⟩ := led_at T_x.out
    go_wp2
    go_ret
    exact ⟨rfl, B.out⟩
  have PB := Lib.hid (Fr.pB_pays hg ho)
  have MY := Lib.hid (Fr.may_y hg ho)
  have HG := Lib.hid hg
  have HO := Lib.hid ho
  have ln8 := (Fr.good_len hg).2
  have lf : fs.length = nl := ll.out
  obtain ⟨l_0, l_1, l_2, -, -, -⟩ := led_at T_l.out
  obtain ⟨f_0, f_1, -, -⟩ := duo_at T_f.out
  obtain ⟨w_0, w_1, w_2, -, -, -⟩ := led_at T_w.out
  obtain ⟨x_0, x_1, x_2, -, -, -⟩ := led_at T_x.out
  go_wp2_with fail
  refine (impl_LedgerCan c d al nl kl fs x y _ S_l.out (by omega)).mono ?_
  rintro e v11 ⟨rfl, b_⟩
  clear l_0 l_1 l_2 f_0 f_1 w_0 w_1 w_2 x_0 x_1 x_2
  replace T_l := Lib.hid (tri_moreB T_l.out b_)
  replace T_f := Lib.hid (tri_moreB T_f.out b_)
  replace T_w := Lib.hid (tri_moreB T_w.out b_)
  replace T_x := Lib.hid (tri_moreB T_x.out b_)
  replace S_l := Lib.hid (S_l.out.below b_)
  replace S_w := Lib.hid (S_w.out.below b_)
  replace S_x := Lib.hid (S_x.out.below b_)
  replace B := Lib.hid (B.out.trans (b_.mono B.out.size))
  clear b_
  have PQ := Lib.hid (show Fr.pB c d fs x y = Fr.good c d (fs ++ [(x, y)]) by rw [Fr.pB, MY.out]; rfl)
  clear m1 m2
  generalize hpb : Fr.pB c d fs x y = pb at PB PQ ⊢
  clear hpb
  cases hp : Fr.good c d (fs ++ [(x, y)])
  · have e_ : pb = false := PQ.out.trans hp
    subst e_
    obtain ⟨-, e2, e3, e4⟩ := Fr.p_not MY.out hp
    replace T_x := Lib.hid (by have t_ := T_x.out; rw [e2, e3] at t_; exact t_)
    replace S_x := Lib.hid (by have t_ := S_x.out; rw [e4] at t_; exact t_)
    clear e2 e3 e4
    obtain ⟨l_0, l_1, l_2, -, -, -⟩ := led_at T_l.out
    obtain ⟨f_0, f_1, -, -⟩ := duo_at T_f.out
    obtain ⟨w_0, w_1, w_2, -, -, -⟩ := led_at T_w.out
    obtain ⟨x_0, x_1, x_2, -, -, -⟩ := led_at T_x.out
    go_wp2_with fail
    refine (laws_loLedger c d ax al nx nl kx kl fs _ S_x.out S_l.out qx).mono ?_
    rintro e v12 ⟨rfl, b_⟩
    clear l_0 l_1 l_2 f_0 f_1 w_0 w_1 w_2 x_0 x_1 x_2
    replace T_l := Lib.hid (tri_moreB T_l.out b_)
    replace T_f := Lib.hid (tri_moreB T_f.out b_)
    replace T_w := Lib.hid (tri_moreB T_w.out b_)
    replace T_x := Lib.hid (tri_moreB T_x.out b_)
    replace S_l := Lib.hid (S_l.out.below b_)
    replace S_w := Lib.hid (S_w.out.below b_)
    replace S_x := Lib.hid (S_x.out.below b_)
    replace B := Lib.hid (B.out.trans (b_.mono B.out.size))
    clear b_
    obtain ⟨l_0, l_1, l_2, -, -, -⟩ := led_at T_l.out
    obtain ⟨f_0, f_1, -, -⟩ := duo_at T_f.out
    obtain ⟨w_0, w_1, w_2, -, -, -⟩ := led_at T_w.out
    obtain ⟨x_0, x_1, x_2, -, -, -⟩ := led_at T_x.out
    go_wp2
    go_ret
    exact ⟨rfl, B.out⟩
  have e_ : pb = true := PQ.out.trans hp
  subst e_
  obtain ⟨-, e2, e3, e4⟩ := Fr.p_yes MY.out hp
  replace T_x := Lib.hid (by have t_ := T_x.out; rw [e2, e3] at t_; exact t_)
  replace S_x := Lib.hid (by have t_ := S_x.out; rw [e4] at t_; exact t_)
  have HP := Lib.hid hp
  clear e2 e3 e4
  obtain ⟨-, hc, -, -⟩ := Fr.tot_good hp
  have lx : nx = nl + 1 := by have h1 := S_x.out.len; simp at h1; omega
  subst lx
  generalize hfs : fs ++ [(x, y)] = gs at hp HP S_x hc
  have hgt : (x, y) = gs.getD nl (0, 0) := by rw [← hfs]; simp [List.getD_eq_getElem?_getD, List.getElem?_append, ← lf]
  clear hfs
  have hcd : decide (Fr.cmp (Fr.total c d gs).1 (Fr.total c d gs).2 c d ≤ 0) = true := decide_eq_true hc
  obtain ⟨l_0, l_1, l_2, -, -, -⟩ := led_at T_l.out
  obtain ⟨f_0, f_1, -, -⟩ := duo_at T_f.out
  obtain ⟨w_0, w_1, w_2, -, -, -⟩ := led_at T_w.out
  obtain ⟨x_0, x_1, x_2, -, -, -⟩ := led_at T_x.out
  go_wp2_with fail
  refine (impl_LedgerSum c d ax (nl + 1) kx gs _ S_x.out qx).mono ?_
  rintro e v12 ⟨rfl, b_⟩
  rw [HP.out]
  clear l_0 l_1 l_2 f_0 f_1 w_0 w_1 w_2 x_0 x_1 x_2
  replace T_l := Lib.hid (tri_moreB T_l.out b_)
  replace T_f := Lib.hid (tri_moreB T_f.out b_)
  replace T_w := Lib.hid (tri_moreB T_w.out b_)
  replace T_x := Lib.hid (tri_moreB T_x.out b_)
  replace S_l := Lib.hid (S_l.out.below b_)
  replace S_w := Lib.hid (S_w.out.below b_)
  replace S_x := Lib.hid (S_x.out.below b_)
  replace B := Lib.hid (B.out.trans (b_.mono B.out.size))
  clear b_
  obtain ⟨v13, hw_v13, z_, b_, t_⟩ := duo_box v12 (Fr.total c d gs).1 (Fr.total c d gs).2 24
  replace T_l := Lib.hid (tri_moreB T_l.out b_)
  replace T_f := Lib.hid (tri_moreB T_f.out b_)
  replace T_w := Lib.hid (tri_moreB T_w.out b_)
  replace T_x := Lib.hid (tri_moreB T_x.out b_)
  replace S_l := Lib.hid (S_l.out.below b_)
  replace S_w := Lib.hid (S_w.out.below b_)
  replace S_x := Lib.hid (S_x.out.below b_)
  replace B := Lib.hid (B.out.trans (b_.mono B.out.size))
  have T_s := Lib.hid t_
  clear z_ b_ t_
  obtain ⟨bq, off, x', y', rfl, r_0, r_1, hx'⟩ := S_x.out.get (show nl < nl + 1 by omega)
  have exy := hgt.trans hx'.out.symm
  injection exy with ex ey
  subst ex ey
  clear hx' hgt
  obtain ⟨l_0, l_1, l_2, -, -, -⟩ := led_at T_l.out
  obtain ⟨f_0, f_1, -, -⟩ := duo_at T_f.out
  obtain ⟨w_0, w_1, w_2, -, -, -⟩ := led_at T_w.out
  obtain ⟨x_0, x_1, x_2, -, -, -⟩ := led_at T_x.out
  obtain ⟨s_0, s_1, -, -⟩ := duo_at T_s.out
  have mm : (x == x && y == y) = true := by simp
  have mc : (c == c && d == d) = true := by simp
  have i0 : (0 : Int) ≤ (nl : Int) := by omega
  have i1 : (nl : Int) < (nl : Int) + 1 := by omega
  have f1 : IntKind.i64.wrap ((nl : Int) + 1) = (nl : Int) + 1 := IntWalk.i64_in _ (by omega)
  have f2 : (((nl + 1 : Nat) : Int) == (nl : Int) + 1) = true := by simp
  have f3 : ((nl : Int) + 1 == (nl : Int) + 1) = true := by simp
  generalize (Fr.total c d gs).1 = t1 at *
  generalize (Fr.total c d gs).2 = t2 at *
  have S1 := Lib.hid (show Hid (Below v13.heap.size v13 v13.drew) ∧ v13.drew.cell? ⟨v12.heap.size, 0, none⟩ = some (.int .i64 t1) ∧ v13.drew.cell? ⟨v12.heap.size, 1, none⟩ = some (.int .i64 t2) ∧ v13.drew.cell? ⟨v6.heap.size, 0, none⟩ = some (.int .i64 c) ∧ v13.drew.cell? ⟨v6.heap.size, 1, none⟩ = some (.int .i64 d) ∧ v13.drew.cell? ⟨v6.heap.size, 2, none⟩ = some (.slice (some ⟨bq, off, none⟩) (nl + 1) kx) ∧ v13.drew.cell? ⟨v1.heap.size, 0, none⟩ = some (.int .i64 c) ∧ v13.drew.cell? ⟨v1.heap.size, 1, none⟩ = some (.int .i64 d) ∧ v13.drew.cell? ⟨v1.heap.size, 2, none⟩ = some (.slice al nl kl) ∧ v13.drew.cell? ⟨v1.heap.size + 1, 0, none⟩ = some (.int .i64 x) ∧ v13.drew.cell? ⟨v1.heap.size + 1, 1, none⟩ = some (.int .i64 y) ∧ v13.drew.cell? ⟨bq, off + nl * 2, none⟩ = some (.int .i64 x) ∧ v13.drew.cell? ⟨bq, off + nl * 2 + 1, none⟩ = some (.int .i64 y) from ⟨Lib.hid (Below.refl _ _).drew, s_0, s_1, x_0, x_1, x_2, l_0, l_1, l_2, f_0, f_1, r_0, r_1⟩)
  go_wp2_with fail
  go_region_held3 (fun w' : World => Hid (Below v13.heap.size v13 w') ∧ w'.cell? ⟨v12.heap.size, 0, none⟩ = some (.int .i64 t1) ∧ w'.cell? ⟨v12.heap.size, 1, none⟩ = some (.int .i64 t2) ∧ w'.cell? ⟨v6.heap.size, 0, none⟩ = some (.int .i64 c) ∧ w'.cell? ⟨v6.heap.size, 1, none⟩ = some (.int .i64 d) ∧ w'.cell? ⟨v6.heap.size, 2, none⟩ = some (.slice (some ⟨bq, off, none⟩) (nl + 1) kx) ∧ w'.cell? ⟨v1.heap.size, 0, none⟩ = some (.int .i64 c) ∧ w'.cell? ⟨v1.heap.size, 1, none⟩ = some (.int .i64 d) ∧ w'.cell? ⟨v1.heap.size, 2, none⟩ = some (.slice al nl kl) ∧ w'.cell? ⟨v1.heap.size + 1, 0, none⟩ = some (.int .i64 x) ∧ w'.cell? ⟨v1.heap.size + 1, 1, none⟩ = some (.int .i64 y) ∧ w'.cell? ⟨bq, off + nl * 2, none⟩ = some (.int .i64 x) ∧ w'.cell? ⟨bq, off + nl * 2 + 1, none⟩ = some (.int .i64 y)) (first | exact S1.out | exact rg_call (by assumption) b0_ | exact rg_call (by assumption) b1_ | assumption) (first | (go_at_call 20; refine (impl_FracCmp t1 t2 c d _).mono ?_; rintro e u0 ⟨rfl, b0_⟩; have P0 := Lib.hid ((rg_call (W0 := v13) (by assumption) b0_).1.out)) | (go_at_call 21; refine (impl_LedgerOk c d _ (nl + 1) kx gs _ (S_x.out.below (rg_b (by assumption))) qx).mono ?_; rintro e u1 ⟨rfl, b1_⟩; rw [HP.out]; have P1 := Lib.hid ((rg_call (W0 := v13) (by assumption) b1_).1.out)))
  all_goals
    replace B := Lib.hid (B.out.trans (P1.out.mono B.out.size))
    go_wp2
    go_ret
    exact ⟨rfl, B.out⟩

/-! ### THE ROW's STEP: WRITTEN OUT: LEAVE IT -/
set_option maxRecDepth 100000 in
theorem lifted (os : Os) (started : os.Started) (H : Type) (enc : TypeId × Value → H) :
    ReturnsInHanded {} Try.checked os 3 .any (Rows.fnPaySpec.pre6 enc Try.prog Try.f3 Rows.fnPayRow.domain false) (Rows.fnPaySpec.post enc Try.prog Try.f3 false true false false) := by
  refine returnsInHanded_of_change (C := Try.checked) own started (by kernel_rfl) Try.func3
    (ChangeSpec.witness6 (enc := enc) (C := Try.checked) false ⟨#[], #[.slice none 0 0], []⟩ 8 (by kernel_rfl) (by kernel_rfl) (by kernel_rfl) (by kernel_rfl)) ?_
  intro W base args ds gs before hval0 hW hcnd _
  have hval : ∀ (j : Nat) t v, Try.f3.params[j]? = some t → args[j]? = some v → Value.okWide Try.prog W .any base t v := hval0
  have hW' := hW
  obtain ⟨p, q, hA0, hV, rfl, hfz, hnd⟩ := hW
  have hA : DataW.TrodAll enc Try.prog W 0 (fun _ => true) true Try.f3.params.toList args.toList ds p := hA0
  rw [Try.params3] at hA hval
  obtain ⟨v0, vs0, d0, ds0, p0, q0, hargs, rfl, rfl, h0, r0⟩ := trodAll_cons hA
  obtain ⟨rfl, rfl, rfl⟩ := trodAll_nil r0
  obtain rfl : args = #[v0] := by cases args; simp_all
  obtain ⟨rfl, rfl⟩ := trodVars_none hV
  obtain ⟨a0, len0, cap0, rfl⟩ := okWide_slice Try.underlying22 (hval 0 22 v0 rfl rfl)
  have k0 := h0
  have lt0 : ∀ x ∈ p0, x.block < W.heap.size := by obtain ⟨m, hm⟩ := k0; exact DataW.trod_lt m _ _ _ hm
  obtain ⟨z0, w0⟩ : ∃ zs, IsRow .u8 W a0 len0 cap0 zs := by
    obtain ⟨fuel, hf⟩ := h0
    rcases open_ints Try.underlying22 Try.underlying5 (by kernel_rfl) hf with ⟨hcs, _⟩ | ⟨x, l, c, zs, hcs, _, hl, hm, hz, _, hcell, hwz⟩
    · simp [Value.cells] at hcs
      obtain ⟨rfl, rfl, rfl⟩ := hcs
      exact ⟨[], .inl ⟨rfl, rfl, rfl, rfl⟩⟩
    · simp [Value.cells] at hcs
      obtain ⟨rfl, rfl, rfl⟩ := hcs
      exact ⟨zs, .inr ⟨_, rfl, hl, hm, by simpa using hz, hcell, hwz⟩⟩
  clear hA0 hval0
  refine (walk a0 len0 cap0 z0 W w0).mono fun e W' ⟨he, bel⟩ => ?_
  subst he
  exact ⟨_, rfl, _, _, _, [], _, [], hW', trodAll_mk1 (shut_bool Try.underlying4 _), (trodAll_cons_mk (Below.trod laidOut (by kernel_rfl) (of_decide_eq_true (by kernel_rfl)) k0 bel lt0) trodAll_mk0), rfl, bel.frame _, fun h => by cases h⟩

theorem over : Rows.fnPayRow.holds Try.pinned (OpenSpec.ofChange Rows.fnPaySpec) :=
  OpenClaim.holds_of_wide 3 Try.f3 rfl rfl rfl rfl rfl rfl rfl ⟨rfl, rfl, rfl, rfl, rfl⟩ rfl rfl rfl rfl rfl (by kernel_rfl) Try.func3 (by kernel_rfl)
    (of_decide_eq_true (by kernel_rfl)) (by unfold Func.isWrapper; first | (rw [if_pos (by decide +kernel)]; kernel_rfl) | (rw [if_neg (by decide +kernel)]; exact ⟨rfl, rfl⟩))
    (fun os started H enc _ => lifted os started H enc)

/-- ████ THE STATEMENT ████ -/
theorem proved : Rows.FnPaySaid := over
#print axioms proved
end Go.Proofs.Ytigeffgehckbpab.fnPay
