/-
  Chapter 32, the model: sums of charges, LedgerOk, LedgerSum.
-/
import Derived.Test.YtigeffgehckbpabLef
namespace Go.Proofs.Ytigeffgehckbpab
open Go.RowKit
set_option linter.unusedVariables false
set_option linter.unusedSimpArgs false
set_option maxRecDepth 20000
set_option maxHeartbeats 2000000 in
theorem spec_l32Sum (a : Option Addr) (n cap : Nat) (fs : List (Int × Int)) (w : World) (h : Sf w a n fs) (hm : n ≤ 1048577) :
    Calls Try.prog 38 #[.slice a n cap] w (Bel (.tuple #[.agg #[.int .i64 (Fr.tV fs).1, .int .i64 (Fr.tV fs).2], .bool (Fr.tB fs)]) w) := by
  obtain ⟨w1, hw1, Z1, B1, T1⟩ := duo_box w 0 0 24
  obtain ⟨w2, hw2, Z2, B2, T2⟩ := duo_box w1 0 1 24
  rw [Z1] at T2
  have H0 := Lib.hid h
  have LL := Lib.hid h.len
  have BW := Lib.hid (B1.trans (B2.mono (by omega)))
  have TR := Lib.hid (T1.below B2 (by omega))
  have TO := Lib.hid T2
  clear h B1 T1 B2 T2
  go_enter Try.func38, Try.ntmps38
  go_wp2
  clear hw1 hw2
  go_loopw [5] (fun i wr => ∃ (k : Nat) (t : Int × Int), k ≤ n ∧ i = .int .i64 (k : Int) ∧ Hid (Fr.tot (0, 1) (fs.take k) = some t) ∧ Hid (Tri wr w.heap.size [.int .i64 0, .int .i64 0] 24) ∧ Hid (Tri wr (w.heap.size + 1) [.int .i64 t.1, .int .i64 t.2] 24) ∧ Hid (Below w.heap.size w wr)) (fun i _ => n - (intOf i).toNat)
  case atStart => exact ⟨0, (0, 1), by omega, rfl, rfl, TR.out, TO.out, BW.out⟩
  case round =>
    clear TR TO BW
    obtain ⟨k, t, hk, rfl, hT, hR, hO, hB⟩ := hrel
    have zr : w.heap.size + 1 < wr.heap.size := cell_lt (duo_at hO.out).1
    by_cases hlt : k < n
    · obtain ⟨b, off, x, y, rfl, x0, x1, hx⟩ := (H0.out.below hB.out).get hlt
      obtain ⟨o0, o1, -, -⟩ := duo_at hO.out
      have E1 := Lib.hid (fr_take (show k < fs.length by have := LL.out; omega) hx.out)
      have i1 : (k : Int) < (n : Int) := by omega
      have S1 := Lib.hid (show Hid (Below wr.heap.size wr wr.drew) ∧ wr.drew.cell? ⟨w.heap.size + 1, 0, none⟩ = some (.int .i64 t.1) ∧ wr.drew.cell? ⟨w.heap.size + 1, 1, none⟩ = some (.int .i64 t.2) ∧ wr.drew.cell? ⟨b, off + k * 2, none⟩ = some (.int .i64 x) ∧ wr.drew.cell? ⟨b, off + k * 2 + 1, none⟩ = some (.int .i64 y) from ⟨Lib.hid (Below.refl _ _).drew, o0, o1, x0, x1⟩)
      have HB := Lib.hid (show w.heap.size + 1 < wr.heap.size ∧ w.heap.size + 1 < wr.heap.size ∧ b < wr.heap.size ∧ b < wr.heap.size from ⟨zr, zr, cell_lt x0, cell_lt x0⟩)
      go_wp2_with fail
      clear x0 x1 o0 o1
      go_cut [6, 7] (fun p q W => SumAt wr (Fr.sN t.1 t.2 x y) (Fr.sD t.1 t.2 x y) (Fr.sB t.1 t.2 x y) p q W)
      case first =>
        go_region_held3 (fun w' : World => Hid (Below wr.heap.size wr w') ∧ w'.cell? ⟨w.heap.size + 1, 0, none⟩ = some (.int .i64 t.1) ∧ w'.cell? ⟨w.heap.size + 1, 1, none⟩ = some (.int .i64 t.2) ∧ w'.cell? ⟨b, off + k * 2, none⟩ = some (.int .i64 x) ∧ w'.cell? ⟨b, off + k * 2 + 1, none⟩ = some (.int .i64 y)) (first | exact S1.out | exact reg4_call (by assumption) b5 | exact reg4_call (by assumption) (bel_box _ _) | exact reg4_re HB P7 (by assumption) | exact reg4_set HB (by assumption) (((Below.refl _ _).setCell (by first | omega | (simp; done) | (simp; omega)) _).setCell (by first | omega | (simp; done) | (simp; omega)) _)) (first | (go_at_call 52; refine (spec_FracSum _ _ _ _ _).mono ?_; rintro e w5 ⟨rfl, b5⟩; have P7 := Lib.hid ((reg4_call (W0 := wr) (by assumption) b5).1.out); (first | (have D5 := Duo.now b5; try simp only [Nat.add_zero] at D5) | (have D5 := Duo.nowD b5; try simp only [Nat.add_zero] at D5) | have D5 := Duo.more (by assumption) b5 | skip); (try (have d0 := D5.c0; have d1 := D5.c1; have d2 := D5.f0; have d3 := D5.f1)); have y5 := (reg4_call (W0 := wr) (by assumption) b5).1.out.size))
        all_goals
          go_wp2
          go_meet
          first | exact SumAt.new P7.out | exact SumAt.set P7.out D5 (by omega)
      case rest =>
        clear S1 HB
        obtain ⟨g, rfl, rfl, BV, DV, hg⟩ := hcut
        have R2 := Lib.hid (hR.out.below BV (by omega))
        have O2 := Lib.hid (hO.out.below BV zr)
        have B2 := Lib.hid (hB.out.trans (BV.mono (by omega)))
        obtain ⟨d0, d1, -, -⟩ := DV
        have zc := BV.size
        clear BV hR hO hB
        cases hs : Fr.sB t.1 t.2 x y
        · have G := Lib.hid (Fr.t_none (fs := fs) (by rw [E1.out.1]; exact Fr.tot_none hT.out hs))
          obtain ⟨e0, e1, f0, f1⟩ := duo_at R2.out
          clear hs
          go_wp2
          exact bodyPost_ret (v := .tuple #[.agg #[.int .i64 0, .int .i64 0], .bool false]) (by simp [results, Try.results38, go_sem, e0, e1]) rfl ⟨by rw [G.out.1, G.out.2], (B2.out.setCell (by simp) _).setCell (by simp) _⟩
        · have S2 := Lib.hid (Fr.tot_snoc (f := (x, y)) hT.out)
          rw [if_pos hs, ← E1.out.2] at S2
          have O3 := Lib.hid ((O2.out.set (i := 0) (.int .i64 (Fr.sN t.1 t.2 x y))).set (i := 1) (.int .i64 (Fr.sD t.1 t.2 x y)))
          have R3 := Lib.hid ((R2.out.far (p := ⟨w.heap.size + 1, 0, none⟩) (.int .i64 (Fr.sN t.1 t.2 x y)) (by simp)).far (p := ⟨w.heap.size + 1, 1, none⟩) (.int .i64 (Fr.sD t.1 t.2 x y)) (by simp))
          have B3 := Lib.hid ((B2.out.setCell (p := ⟨w.heap.size + 1, 0, none⟩) (by simp) (.int .i64 (Fr.sN t.1 t.2 x y))).setCell (p := ⟨w.heap.size + 1, 1, none⟩) (by simp) (.int .i64 (Fr.sD t.1 t.2 x y)))
          obtain ⟨o0, o1, f0, f1⟩ := duo_at O2.out
          clear hs R2
          go_wp2
          go_roundw
          case rel => exact ⟨k + 1, _, by omega, by go_num, S2.out, R3.out, O3.out, B3.out⟩
          case measure => simp [intOf]; omega
    · have e : k = n := by omega
      have ek : fs.take k = fs := List.take_of_length_le (by have := LL.out; omega)
      rw [ek] at hT
      have G := Lib.hid (Fr.t_some hT.out)
      subst e
      obtain ⟨e0, e1, f0, f1⟩ := duo_at hR.out
      obtain ⟨o0, o1, -, -⟩ := duo_at hO.out
      have B2 := Lib.hid hB.out
      clear ek hT hR hO hB
      go_wp2
      exact bodyPost_ret (v := .tuple #[.agg #[.int .i64 t.1, .int .i64 t.2], .bool true]) (by simp [results, Try.results38, go_sem, e0, e1]) rfl ⟨by rw [G.out.1, G.out.2], (B2.out.setCell (by simp) _).setCell (by simp) _⟩
set_option maxHeartbeats 1000000 in
theorem spec_LedgerOk (c d : Int) (a : Option Addr) (n cap : Nat) (fs : List (Int × Int)) (w : World) (h : Sf w a n fs) (hm : n ≤ 1048577) :
    Calls Try.prog 16 #[.agg #[.int .i64 c, .int .i64 d, .slice a n cap]] w (Bel (.bool (Fr.good c d fs)) w) := by
  obtain ⟨w1, hw1, Z1, B1, T1⟩ := led_box w c d a n cap 27
  have H1 := Lib.hid (h.below B1)
  have BB := Lib.hid B1
  have TL := Lib.hid T1
  have LL := Lib.hid h.len
  obtain ⟨c0, c1, c2, -, -, -⟩ := led_at T1
  have GI := Lib.hid (Fr.good_is c d fs)
  clear h B1 T1
  go_enter Try.func16, Try.ntmps16
  go_wp2_with fail
  refine (spec_l32Sum a n cap fs w1 H1.out hm).mono ?_
  rintro e w2 ⟨rfl, b2⟩
  obtain ⟨w3, hw3, Z3, B3, T3⟩ := duo_box w2 (Fr.tV fs).1 (Fr.tV fs).2 24
  have z2 := b2.size
  have BW := Lib.hid ((BB.out.trans (b2.mono (by omega))).trans (B3.mono (by omega)))
  have TL3 := Lib.hid ((TL.out.below b2 (by omega)).below B3 (by omega))
  have TS := Lib.hid T3
  clear c0 c1 c2 hw1 b2 B3 T3
  obtain ⟨c0, c1, c2, -, -, -⟩ := led_at TL3.out
  go_wp2_with fail
  refine (spec_FracOk _ _ _).mono ?_
  rintro e w4 ⟨rfl, b4⟩
  have B4 := Lib.hid (BW.out.trans (b4.mono (by omega)))
  have TL4 := Lib.hid (TL3.out.below b4 (by omega))
  have TS4 := Lib.hid (TS.out.below b4 (by omega))
  clear c0 c1 c2 hw3 b4
  obtain ⟨c0, c1, c2, -, -, -⟩ := led_at TL4.out
  obtain ⟨s0, s1, -, -⟩ := duo_at TS4.out
  cases hok : Fr.ok c d
  · have G := Lib.hid (Fr.good_cap (fs := fs) hok)
    clear hok
    go_wp2
    go_ret
    exact ⟨by rw [G.out]; rfl, B4.out⟩
  by_cases h8 : n ≤ 8
  · have q8 : (n : Int) ≤ 8 := by omega
    cases ht : Fr.tB fs
    · have G := Lib.hid (show Fr.good c d fs = false by rw [GI.out, ht]; simp)
      clear hok ht
      go_wp2
      go_ret
      exact ⟨by rw [G.out]; rfl, B4.out⟩
    · have hto := Fr.t_ok ht
      have CS := Lib.hid (Fr.cmp_sign (Fr.two_iff.2 ⟨hto, hok⟩))
      obtain ⟨x, y, ex, ey, k1, k2, k3, -⟩ := Fr.ok_nat hto
      obtain ⟨u, v, rfl, rfl, l1, l2, l3, -⟩ := Fr.ok_nat hok
      have G := Lib.hid (show Fr.good u v fs = decide (Fr.cmp (Fr.tV fs).1 (Fr.tV fs).2 u v ≤ 0) by rw [GI.out, hok, ht]; simp [LL.out, h8])
      rw [ex] at s0
      rw [ey] at s1
      rw [ex, ey] at CS G
      clear hto hok ht ex ey h8
      go_wp2_with fail
      refine (spec_l31Cmp x y u v _ k1 k3 l1 l3).mono ?_
      rintro e w5 ⟨rfl, b5⟩
      rw [← CS.out]
      have z4 := B4.out.size
      have B5 := Lib.hid (B4.out.trans (b5.mono (by omega)))
      clear b5
      by_cases hc : Fr.cmp x y u v ≤ 0
      all_goals
        have HC := Lib.hid hc
        go_wp2
        go_ret
        exact ⟨by rw [G.out]; first | rw [decide_eq_true HC.out]; rfl | rw [decide_eq_false (by have := HC.out; omega)]; rfl, B5.out⟩
  · have q8 : ¬ (n : Int) ≤ 8 := by omega
    have G := Lib.hid (show Fr.good c d fs = false by rw [GI.out]; simp [LL.out, h8])
    clear hok h8
    go_wp2
    go_ret
    exact ⟨by rw [G.out]; rfl, B4.out⟩
theorem spec_LedgerSum (c d : Int) (a : Option Addr) (n cap : Nat) (fs : List (Int × Int)) (w : World) (h : Sf w a n fs) (hm : n ≤ 1048577) :
    Calls Try.prog 24 #[.agg #[.int .i64 c, .int .i64 d, .slice a n cap]] w (Bel (.tuple #[.agg #[.int .i64 (Fr.total c d fs).1, .int .i64 (Fr.total c d fs).2], .bool (Fr.good c d fs)]) w) := by
  obtain ⟨w1, hw1, Z1, B1, T1⟩ := led_box w c d a n cap 27
  obtain ⟨w2, hw2, Z2, B2, T2⟩ := duo_box w1 0 0 24
  rw [Z1] at T2
  have H1 := Lib.hid ((h.below B1).below B2)
  have BB := Lib.hid (B1.trans (B2.mono (by omega)))
  have TR := Lib.hid T2
  have TL := Lib.hid (T1.below B2 (by omega))
  obtain ⟨c0, c1, c2, -, -, -⟩ := led_at TL.out
  clear h B1 T1 B2 T2
  go_enter Try.func24, Try.ntmps24
  go_wp2_with fail
  refine (spec_LedgerOk c d a n cap fs w2 H1.out hm).mono ?_
  rintro e w4 ⟨rfl, b4⟩
  have B4 := Lib.hid (BB.out.trans (b4.mono (by omega)))
  have TR4 := Lib.hid (TR.out.below b4 (by omega))
  have TL4 := Lib.hid (TL.out.below b4 (by omega))
  have H4 := Lib.hid (H1.out.below b4)
  have z4 := b4.size
  clear b4 c0 c1 c2 hw1 hw2
  cases hg : Fr.good c d fs
  · have HG := Lib.hid (show (Fr.total c d fs).1 = 0 ∧ (Fr.total c d fs).2 = 0 by simp [Fr.total, hg])
    have HH := Lib.hid hg
    obtain ⟨e0, e1, f0, f1⟩ := duo_at TR4.out
    clear hg
    go_wp2
    exact bodyPost_ret (v := .tuple #[.agg #[.int .i64 0, .int .i64 0], .bool false]) (by simp [results, Try.results24, go_sem, e0, e1]) rfl ⟨by rw [HG.out.1, HG.out.2, HH.out], (B4.out.setCell (by simp) _).setCell (by simp) _⟩
  · obtain ⟨t1, t2⟩ := Fr.total_is hg
    have HT := Lib.hid t1
    have HB := Lib.hid t2
    have HH := Lib.hid hg
    obtain ⟨c0, c1, c2, -, -, -⟩ := led_at TL4.out
    clear hg t1 t2
    go_wp2_with fail
    refine (spec_l32Sum a n cap fs w4 H4.out hm).mono ?_
    rintro e w5 ⟨rfl, b5⟩
    have B5 := Lib.hid (B4.out.trans (b5.mono (by omega)))
    obtain ⟨e0, e1, f0, f1⟩ := duo_at (TR4.out.below b5 (by omega))
    clear b5 c0 c1 c2
    go_wp2
    exact bodyPost_ret (v := .tuple #[.agg #[.int .i64 (Fr.tV fs).1, .int .i64 (Fr.tV fs).2], .bool (Fr.tB fs)]) (by simp [results, Try.results24, go_sem, e0, e1]) rfl ⟨by rw [HT.out, HB.out, HH.out], (B5.out.setCell (by simp) _).setCell (by simp) _⟩
end Go.Proofs.Ytigeffgehckbpab
