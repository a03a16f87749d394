/-
  What was paid is no more than may be, and told as the sum of all that was paid: the law FnLedgerSum returns true for every code.
  Conditions: none but the statement's own. Proved: Rows.FnLedgerSumSaid.
-/
import Derived.Test.YtigeffgehckbpabRows
import Derived.WalkKit
import Derived.ProofKit
import Derived.OpenShut
import Derived.ShutString
import Derived.ChangeOld
import Derived.Below
import Derived.Test.YtigeffgehckbpabFp
import Derived.Test.YtigeffgehckbpabBase
import Derived.Test.YtigeffgehckbpabField
import Derived.Test.YtigeffgehckbpabSl
import Derived.Test.YtigeffgehckbpabTri
import Derived.Test.YtigeffgehckbpabFr
import Derived.Test.YtigeffgehckbpabFrl
import Derived.Test.YtigeffgehckbpabFrc
import Derived.Test.YtigeffgehckbpabFrd
import Derived.Test.YtigeffgehckbpabFre
import Derived.Test.YtigeffgehckbpabFrf
import Derived.Test.YtigeffgehckbpabDraw
import Derived.Test.YtigeffgehckbpabFrg
import Derived.Test.YtigeffgehckbpabLg
import Derived.Test.YtigeffgehckbpabFs
import Derived.Test.YtigeffgehckbpabCat
import Derived.Test.YtigeffgehckbpabLed
import Derived.Test.YtigeffgehckbpabRev
import Derived.Test.YtigeffgehckbpabLee
import Derived.Test.YtigeffgehckbpabLef
import Derived.Test.YtigeffgehckbpabLeg
import Derived.Test.YtigeffgehckbpabLeh
import Derived.Test.YtigeffgehckbpabLei
import Derived.Test.YtigeffgehckbpabLgm
import Derived.Test.YtigeffgehckbpabLej
import Derived.Test.YtigeffgehckbpabLek
import Derived.Test.YtigeffgehckbpabLem
namespace Go.Proofs.Ytigeffgehckbpab.fnLedgerSum
open Go.ChangeShapes Go.WideShapes Go.ChangeAt Go.RowKit
open Go.ChangeMaps (open_string shut_string)
set_option linter.unusedVariables false
set_option linter.unusedSimpArgs false

theorem own : ownKnob Try.prog.godebug = none := by kernel_rfl
theorem laidOut : laidOutB Try.prog = true := by kernel_rfl

theorem rg_call {W0 W W' : World} {p1 p2 p3 p4 p5 : Addr} {x1 x2 x3 x4 x5 : Value} (h : Hid (Below W0.heap.size W0 W) ∧ W.cell? p1 = some x1 ∧ W.cell? p2 = some x2 ∧ W.cell? p3 = some x3 ∧ W.cell? p4 = some x4 ∧ W.cell? p5 = some x5) (k : Below W.heap.size W W') :
    Hid (Below W0.heap.size W0 W') ∧ W'.cell? p1 = some x1 ∧ W'.cell? p2 = some x2 ∧ W'.cell? p3 = some x3 ∧ W'.cell? p4 = some x4 ∧ W'.cell? p5 = some x5 := by
  obtain ⟨h0, h1, h2, h3, h4, h5⟩ := h
  exact ⟨Lib.hid (h0.out.trans (k.mono h0.out.size)), cell_later k h1, cell_later k h2, cell_later k h3, cell_later k h4, cell_later k h5⟩
theorem rg_b {W0 W : World} {p1 p2 p3 p4 p5 : Addr} {x1 x2 x3 x4 x5 : Value} (h : Hid (Below W0.heap.size W0 W) ∧ W.cell? p1 = some x1 ∧ W.cell? p2 = some x2 ∧ W.cell? p3 = some x3 ∧ W.cell? p4 = some x4 ∧ W.cell? p5 = some x5) : Below W0.heap.size W0 W := h.1.out
theorem rg_set {W0 W W' : World} {p1 p2 p3 p4 p5 : Addr} {x1 x2 x3 x4 x5 : Value} (hb : Hid (p1.block < W0.heap.size ∧ p2.block < W0.heap.size ∧ p3.block < W0.heap.size ∧ p4.block < W0.heap.size ∧ p5.block < W0.heap.size)) (h : Hid (Below W0.heap.size W0 W) ∧ W.cell? p1 = some x1 ∧ W.cell? p2 = some x2 ∧ W.cell? p3 = some x3 ∧ W.cell? p4 = some x4 ∧ W.cell? p5 = some x5) (k : Below W0.heap.size W W') :
    Hid (Below W0.heap.size W0 W') ∧ W'.cell? p1 = some x1 ∧ W'.cell? p2 = some x2 ∧ W'.cell? p3 = some x3 ∧ W'.cell? p4 = some x4 ∧ W'.cell? p5 = some x5 :=
  ⟨Lib.hid (h.1.out.trans k), (k.cell hb.out.1).trans h.2.1, (k.cell hb.out.2.1).trans h.2.2.1, (k.cell hb.out.2.2.1).trans h.2.2.2.1, (k.cell hb.out.2.2.2.1).trans h.2.2.2.2.1, (k.cell hb.out.2.2.2.2).trans h.2.2.2.2.2⟩
theorem rg_re {W0 W : World} {o o' : Obj} {p1 p2 p3 p4 p5 : Addr} {x1 x2 x3 x4 x5 : Value} (hb : Hid (p1.block < W0.heap.size ∧ p2.block < W0.heap.size ∧ p3.block < W0.heap.size ∧ p4.block < W0.heap.size ∧ p5.block < W0.heap.size)) (hW : Hid (Below W0.heap.size W0 W)) (h : Hid (Below W0.heap.size W0 (W.alloc o)) ∧ (W.alloc o).cell? p1 = some x1 ∧ (W.alloc o).cell? p2 = some x2 ∧ (W.alloc o).cell? p3 = some x3 ∧ (W.alloc o).cell? p4 = some x4 ∧ (W.alloc o).cell? p5 = some x5) :
    Hid (Below W0.heap.size W0 (W.alloc o')) ∧ (W.alloc o').cell? p1 = some x1 ∧ (W.alloc o').cell? p2 = some x2 ∧ (W.alloc o').cell? p3 = some x3 ∧ (W.alloc o').cell? p4 = some x4 ∧ (W.alloc o').cell? p5 = some x5 := by
  have z := hW.out.size
  have e : ∀ p : Addr, p.block < W0.heap.size → (W.alloc o').cell? p = (W.alloc o).cell? p := fun p hp => by
    rw [(bel_box W o').cell (p := p) (by omega), (bel_box W o).cell (p := p) (by omega)]
  exact ⟨Lib.hid (hW.out.trans ((bel_box W o').mono z)), (e _ hb.out.1).trans h.2.1, (e _ hb.out.2.1).trans h.2.2.1, (e _ hb.out.2.2.1).trans h.2.2.2.1, (e _ hb.out.2.2.2.1).trans h.2.2.2.2.1, (e _ hb.out.2.2.2.2).trans h.2.2.2.2.2⟩
set_option maxHeartbeats 1000000 in
set_option maxRecDepth 100000 in
theorem walk (a0 : Option Addr) (len0 cap0 : Nat) (z0 : List Int) (w : World) (w0 : IsRow .u8 w a0 len0 cap0 z0) :
    Calls Try.prog 6 #[.slice a0 len0 cap0] w fun e w' => e = .returned (.bool true) ∧ Below w.heap.size w w' := by
  obtain ⟨c1, c2⟩ := w0.sizes
  have Hb := Lib.hid (Bys.of_row w0)
  clear w0
  by_cases hl : 1048576 < len0
  · go_enter Try.func6, Try.ntmps6
    go_wp2
    go_ret
    exact ⟨rfl, Below.refl _ _⟩
  go_enter Try.func6, Try.ntmps6
  have B := Lib.hid (Below.refl w.heap.size w)
  go_wp2_with fail
  refine (spec_DrawLedgerSum a0 len0 cap0 w Hb.out c1 c2).mono ?_
  rintro e v1 ⟨c, d, al, nl, kl, fs, hn, rfl, ol, b_⟩
  have ll := Lib.hid ol.len
  clear c1 c2 Hb
  replace B := Lib.hid (B.out.trans (b_.mono B.out.size))
  clear b_
  have O_l := Lib.hid ol
  clear ol
  have m1 : (Fr.good c d fs != Fr.good c d fs) = false := by simp
  have m2 : (Fr.good c d fs == Fr.good c d fs) = true := by simp
  have m3 : ((Fr.total c d fs).1 == (Fr.total c d fs).1 && (Fr.total c d fs).2 == (Fr.total c d fs).2) = true := by simp
  obtain ⟨v2, hw_v2, z_, b_, t_⟩ := led_box v1 c d al nl kl 27
  replace B := Lib.hid (B.out.trans (b_.mono B.out.size))
  replace O_l := Lib.hid (O_l.out.below b_)
  have T_l := Lib.hid t_
  clear z_ b_ t_
  obtain ⟨l_0, l_1, l_2, -, -, -⟩ := led_at T_l.out
  go_wp2_with fail
  refine (spec_LedgerSum c d al nl kl fs _ O_l.out.sf (by omega)).mono ?_
  rintro e v3 ⟨rfl, b_⟩
  clear l_0 l_1 l_2 hw_v2
  replace T_l := Lib.hid (tri_moreB T_l.out b_)
  replace B := Lib.hid (B.out.trans (b_.mono B.out.size))
  replace O_l := Lib.hid (O_l.out.below b_)
  clear b_
  obtain ⟨v4, hw_v4, z_, b_, t_⟩ := duo_box v3 (Fr.total c d fs).1 (Fr.total c d fs).2 24
  replace T_l := Lib.hid (tri_moreB T_l.out b_)
  replace B := Lib.hid (B.out.trans (b_.mono B.out.size))
  replace O_l := Lib.hid (O_l.out.below b_)
  have T_w := Lib.hid t_
  clear z_ b_ t_
  obtain ⟨l_0, l_1, l_2, -, -, -⟩ := led_at T_l.out
  obtain ⟨w_0, w_1, -, -⟩ := duo_at T_w.out
  go_wp2_with fail
  refine (impl_LedgerSum c d al nl kl fs _ O_l.out.sf (by omega)).mono ?_
  rintro e v5 ⟨rfl, b_⟩
  clear l_0 l_1 l_2 w_0 w_1 hw_v4
  replace T_l := Lib.hid (tri_moreB T_l.out b_)
  replace T_w := Lib.hid (tri_moreB T_w.out b_)
  replace B := Lib.hid (B.out.trans (b_.mono B.out.size))
  replace O_l := Lib.hid (O_l.out.below b_)
  clear b_
  obtain ⟨v6, hw_v6, z_, b_, t_⟩ := duo_box v5 (Fr.total c d fs).1 (Fr.total c d fs).2 24
  replace T_l := Lib.hid (tri_moreB T_l.out b_)
  replace T_w := Lib.hid (tri_moreB T_w.out b_)
  replace B := Lib.hid (B.out.trans (b_.mono B.out.size))
  replace O_l := Lib.hid (O_l.out.below b_)
  have T_f := Lib.hid t_
  clear z_ b_ t_
  cases hg : Fr.good c d fs
  · rw [hg] at m1 m2
    obtain ⟨l_0, l_1, l_2, -, -, -⟩ := led_at T_l.out
    obtain ⟨w_0, w_1, -, -⟩ := duo_at T_w.out
    obtain ⟨f_0, f_1, -, -⟩ := duo_at T_f.out
    go_wp2_with fail
    refine (impl_LedgerOk c d al nl kl fs _ O_l.out.sf (by omega)).mono ?_
    rintro e v7 ⟨rfl, b_⟩
    rw [hg]
    clear l_0 l_1 l_2 w_0 w_1 f_0 f_1 hw_v6
    replace T_l := Lib.hid (tri_moreB T_l.out b_)
    replace T_w := Lib.hid (tri_moreB T_w.out b_)
    replace T_f := Lib.hid (tri_moreB T_f.out b_)
    replace B := Lib.hid (B.out.trans (b_.mono B.out.size))
    clear b_
    obtain ⟨l_0, l_1, l_2, -, -, -⟩ := led_at T_l.out
    obtain ⟨w_0, w_1, -, -⟩ := duo_at T_w.out
    obtain ⟨f_0, f_1, -, -⟩ := duo_at T_f.out
    go_wp2
    go_ret
    exact ⟨rfl, B.out⟩
  obtain ⟨tk, hc, -, -⟩ := Fr.tot_good hg
  obtain ⟨et, eb⟩ := Fr.total_is hg
  obtain ⟨T, hT⟩ : ∃ T, Fr.tot (0, 1) fs = some T := by cases h_ : Fr.tot (0, 1) fs with | some T => exact ⟨T, rfl⟩ | none => rw [(Fr.t_none h_).1] at eb; cases eb
  have hTT : Fr.total c d fs = T := by rw [et, (Fr.t_some hT).2]
  have HT := Lib.hid hT
  have hlb := tri_lt T_l.out
  have hfb := tri_lt T_f.out
  have hwb := B.out.size
  have hO1 : v1.heap.size ≤ v6.heap.size := by have := tri_lt T_l.out; omega
  rw [hTT] at tk hc m3 hw_v6 ⊢
  have Tf_ := T_f.out
  have Tw_ := T_w.out
  rw [hTT] at Tf_ Tw_
  replace T_f := Lib.hid Tf_
  replace T_w := Lib.hid Tw_
  have hcd : decide (Fr.cmp T.1 T.2 c d ≤ 0) = true := decide_eq_true hc
  clear Tf_ Tw_ hT hTT et eb tk hg m1 m2
  obtain ⟨f_0, f_1, -, -⟩ := duo_at T_f.out
  obtain ⟨w_0, w_1, -, -⟩ := duo_at T_w.out
  obtain ⟨v7, hw_v7, z_, b_, t_⟩ := duo_box v6 0 1 24
  replace T_l := Lib.hid (tri_moreB T_l.out b_)
  replace T_w := Lib.hid (tri_moreB T_w.out b_)
  replace T_f := Lib.hid (tri_moreB T_f.out b_)
  replace B := Lib.hid (B.out.trans (b_.mono B.out.size))
  replace O_l := Lib.hid (O_l.out.below b_)
  have T_s := Lib.hid t_
  clear z_ b_ t_
  obtain ⟨s_0, s_1, -, -⟩ := duo_at T_s.out
  go_wp2
  clear s_0 s_1 f_0 f_1 w_0 w_1 hw_v6 hw_v7
  generalize hgs : v6.heap.size = gs at *
  clear hgs
  go_loopw [9] (fun i wr => ∃ (k : Nat) (t : Int × Int), k ≤ nl ∧ i = .int .i64 (k : Int) ∧ Hid (Fr.tot (0, 1) (fs.take k) = some t) ∧ Hid (Tri wr gs [.int .i64 t.1, .int .i64 t.2] 24) ∧ Hid (Below gs v7 wr)) (fun i _ => nl - (intOf i).toNat)
  case atStart => exact ⟨0, (0, 1), by omega, rfl, rfl, T_s.out, Below.refl _ _⟩
  case round =>
    obtain ⟨k, t, hk, rfl, hT, hO, hB⟩ := hrel
    have U := Lib.hid (T_l.out.below hB.out hlb)
    have UF := Lib.hid (T_f.out.below hB.out hfb)
    have P := Lib.hid (O_l.out.keep (Chg.of_below hB.out) (fun b_ h1 h2 h3 => by omega))
    have zg := tri_lt hO.out
    have zl := tri_lt U.out
    by_cases hlt : k < nl
    · obtain ⟨b, off, x, y, rfl, x0, x1, hx⟩ := P.out.sf.get hlt
      obtain ⟨o0, o1, -, -⟩ := duo_at hO.out
      obtain ⟨-, -, l2, -, -, -⟩ := led_at U.out
      have E1 := Lib.hid (fr_take (show k < fs.length by have := ll.out; omega) hx.out)
      have i0 : (0 : Int) ≤ (k : Int) := by omega
      have i1 : (k : Int) < (nl : Int) := by omega
      have S1 := Lib.hid (show Hid (Below wr.heap.size wr wr.drew) ∧ wr.drew.cell? ⟨gs, 0, none⟩ = some (.int .i64 t.1) ∧ wr.drew.cell? ⟨gs, 1, none⟩ = some (.int .i64 t.2) ∧ wr.drew.cell? ⟨v1.heap.size, 2, none⟩ = some (.slice (some ⟨b, off, none⟩) nl kl) ∧ wr.drew.cell? ⟨b, off + k * 2, none⟩ = some (.int .i64 x) ∧ wr.drew.cell? ⟨b, off + k * 2 + 1, none⟩ = some (.int .i64 y) from ⟨Lib.hid (Below.refl _ _).drew, o0, o1, l2, x0, x1⟩)
      have HB := Lib.hid (show gs < wr.heap.size ∧ gs < wr.heap.size ∧ v1.heap.size < wr.heap.size ∧ b < wr.heap.size ∧ b < wr.heap.size from ⟨zg, zg, zl, cell_lt x0, cell_lt x0⟩)
      go_wp2_with fail
      clear x0 x1 o0 o1 l2
      go_cut [10, 11] (fun p q W => SumAt wr (Fr.sN t.1 t.2 x y) (Fr.sD t.1 t.2 x y) (Fr.sB t.1 t.2 x y) p q W)
      case first =>
        go_region_held3 (fun w' : World => Hid (Below wr.heap.size wr w') ∧ w'.cell? ⟨gs, 0, none⟩ = some (.int .i64 t.1) ∧ w'.cell? ⟨gs, 1, none⟩ = some (.int .i64 t.2) ∧ w'.cell? ⟨v1.heap.size, 2, none⟩ = some (.slice (some ⟨b, off, none⟩) nl kl) ∧ w'.cell? ⟨b, off + k * 2, none⟩ = some (.int .i64 x) ∧ w'.cell? ⟨b, off + k * 2 + 1, none⟩ = some (.int .i64 y)) (first | exact S1.out | exact rg_call (by assumption) b5 | exact rg_call (by assumption) (bel_box _ _) | exact rg_call (by assumption) (bel_box _ _).drew | exact rg_re HB P7 (by assumption) | exact rg_set HB (by assumption) (((Below.refl _ _).setCell (by first | omega | (simp; done) | (simp; omega)) _).setCell (by first | omega | (simp; done) | (simp; omega)) _)) (first | (go_at_call 22; refine (impl_FracSum _ _ _ _ _).mono ?_; rintro e w5 ⟨rfl, b5⟩; have P7 := Lib.hid ((rg_call (W0 := wr) (by assumption) b5).1.out); (first | (have D5 := Duo.now b5; try simp only [Nat.add_zero] at D5) | (have D5 := Duo.nowD b5; try simp only [Nat.add_zero] at D5) | skip); (try (have d0 := D5.c0; have d1 := D5.c1; have d2 := D5.f0; have d3 := D5.f1)); have y5 := (rg_call (W0 := wr) (by assumption) b5).1.out.size))
        all_goals
          go_wp2
          go_meet
          first | exact SumAt.new P7.out | exact SumAt.set P7.out D5 (by first | omega | (simp; done) | (simp; omega))
      case rest =>
        clear S1 HB
        obtain ⟨g, rfl, rfl, BV, DV, hg⟩ := hcut
        have O2 := Lib.hid (hO.out.below BV zg)
        have B2 := Lib.hid (hB.out.trans (BV.mono (by omega)))
        obtain ⟨d0, d1, -, -⟩ := DV
        have zc := BV.size
        clear BV hB hO
        have hs : Fr.sB t.1 t.2 x y = true := by
          cases hs : Fr.sB t.1 t.2 x y
          · have h_ := Fr.tot_none (f := (x, y)) (ys := fs.drop (k + 1)) hT.out hs
            rw [← E1.out.1, HT.out] at h_
            cases h_
          · rfl
        have S2 := Lib.hid (Fr.tot_snoc (f := (x, y)) hT.out)
        rw [if_pos hs, ← E1.out.2] at S2
        rw [hs]
        have O3 := Lib.hid ((O2.out.set (i := 0) (.int .i64 (Fr.sN t.1 t.2 x y))).set (i := 1) (.int .i64 (Fr.sD t.1 t.2 x y)))
        have B3 := Lib.hid ((B2.out.setCell (p := ⟨gs, 0, none⟩) (by simp) (.int .i64 (Fr.sN t.1 t.2 x y))).setCell (p := ⟨gs, 1, none⟩) (by simp) (.int .i64 (Fr.sD t.1 t.2 x y)))
        obtain ⟨o0, o1, f0, f1⟩ := duo_at O2.out
        clear hs B2
        go_wp2
        go_roundw
        case rel => exact ⟨k + 1, _, by omega, by go_num, S2.out, O3.out, B3.out⟩
        case measure => simp [intOf]; omega
    · have e : k = nl := by omega
      have ek : fs.take k = fs := List.take_of_length_le (by have := ll.out; omega)
      rw [ek, HT.out] at hT
      have et : T = t := by have := hT.out; injection this
      subst et
      subst e
      obtain ⟨o0, o1, -, -⟩ := duo_at hO.out
      obtain ⟨f_0, f_1, -, -⟩ := duo_at UF.out
      obtain ⟨l_0, l_1, l_2, -, -, -⟩ := led_at U.out
      replace B := Lib.hid (B.out.trans (hB.out.mono (by omega)))
      clear hO UF U hB P
      go_wp2_with fail
      refine (impl_FracCmp _ _ _ _ _).mono ?_
      rintro e w9 ⟨rfl, b_⟩
      replace B := Lib.hid (B.out.trans (b_.mono B.out.size))
      clear b_
      go_wp2
      go_ret
      exact ⟨rfl, B.out⟩

/-! ### THE ROW's STEP: WRITTEN OUT: LEAVE IT -/
set_option maxRecDepth 100000 in
theorem lifted (os : Os) (started : os.Started) (H : Type) (enc : TypeId × Value → H) :
    ReturnsInHanded {} Try.checked os 6 .any (Rows.fnLedgerSumSpec.pre6 enc Try.prog Try.f6 Rows.fnLedgerSumRow.domain false) (Rows.fnLedgerSumSpec.post enc Try.prog Try.f6 false true false false) := by
  refine returnsInHanded_of_change (C := Try.checked) own started (by kernel_rfl) Try.func6
    (ChangeSpec.witness6 (enc := enc) (C := Try.checked) false ⟨#[], #[.slice none 0 0], []⟩ 8 (by kernel_rfl) (by kernel_rfl) (by kernel_rfl) (by kernel_rfl)) ?_
  intro W base args ds gs before hval0 hW hcnd _
  have hval : ∀ (j : Nat) t v, Try.f6.params[j]? = some t → args[j]? = some v → Value.okWide Try.prog W .any base t v := hval0
  have hW' := hW
  obtain ⟨p, q, hA0, hV, rfl, hfz, hnd⟩ := hW
  have hA : DataW.TrodAll enc Try.prog W 0 (fun _ => true) true Try.f6.params.toList args.toList ds p := hA0
  rw [Try.params6] at hA hval
  obtain ⟨v0, vs0, d0, ds0, p0, q0, hargs, rfl, rfl, h0, r0⟩ := trodAll_cons hA
  obtain ⟨rfl, rfl, rfl⟩ := trodAll_nil r0
  obtain rfl : args = #[v0] := by cases args; simp_all
  obtain ⟨rfl, rfl⟩ := trodVars_none hV
  obtain ⟨a0, len0, cap0, rfl⟩ := okWide_slice Try.underlying22 (hval 0 22 v0 rfl rfl)
  have k0 := h0
  have lt0 : ∀ x ∈ p0, x.block < W.heap.size := by obtain ⟨m, hm⟩ := k0; exact DataW.trod_lt m _ _ _ hm
  obtain ⟨z0, w0⟩ : ∃ zs, IsRow .u8 W a0 len0 cap0 zs := by
    obtain ⟨fuel, hf⟩ := h0
    rcases open_ints Try.underlying22 Try.underlying5 (by kernel_rfl) hf with ⟨hcs, _⟩ | ⟨x, l, c, zs, hcs, _, hl, hm, hz, _, hcell, hwz⟩
    · simp [Value.cells] at hcs
      obtain ⟨rfl, rfl, rfl⟩ := hcs
      exact ⟨[], .inl ⟨rfl, rfl, rfl, rfl⟩⟩
    · simp [Value.cells] at hcs
      obtain ⟨rfl, rfl, rfl⟩ := hcs
      exact ⟨zs, .inr ⟨_, rfl, hl, hm, by simpa using hz, hcell, hwz⟩⟩
  clear hA0 hval0
  refine (walk a0 len0 cap0 z0 W w0).mono fun e W' ⟨he, bel⟩ => ?_
  subst he
  exact ⟨_, rfl, _, _, _, [], _, [], hW', trodAll_mk1 (shut_bool Try.underlying4 _), (trodAll_cons_mk (Below.trod laidOut (by kernel_rfl) (of_decide_eq_true (by kernel_rfl)) k0 bel lt0) trodAll_mk0), rfl, bel.frame _, fun h => by cases h⟩

theorem over : Rows.fnLedgerSumRow.holds Try.pinned (OpenSpec.ofChange Rows.fnLedgerSumSpec) :=
  OpenClaim.holds_of_wide 6 Try.f6 rfl rfl rfl rfl rfl rfl rfl ⟨rfl, rfl, rfl, rfl, rfl⟩ rfl rfl rfl rfl rfl (by kernel_rfl) Try.func6 (by kernel_rfl)
    (of_decide_eq_true (by kernel_rfl)) (by unfold Func.isWrapper; first | (rw [if_pos (by decide +kernel)]; kernel_rfl) | (rw [if_neg (by decide +kernel)]; exact ⟨rfl, rfl⟩))
    (fun os started H enc _ => lifted os started H enc)

/-- ████ THE STATEMENT ████ -/
theorem proved : Rows.FnLedgerSumSaid := over
#print axioms proved
end Go.Proofs.Ytigeffgehckbpab.fnLedgerSum
