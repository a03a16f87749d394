/-
  Chapter 32: the draws of its promises, and the comparison of two ledgers that are alike.
-/
import Derived.Test.YtigeffgehckbpabLek
namespace Go.Proofs.Ytigeffgehckbpab
open Go.RowKit
set_option linter.unusedVariables false
set_option linter.unusedSimpArgs false
set_option maxRecDepth 20000
/-- A ledger that is drawn. -/
def LdPost (w : World) (e : Ending) (w' : World) : Prop := ∃ (c d : Int) (a : Option Addr) (n cap : Nat) (fs : List (Int × Int)), n ≤ 7 ∧ e = .returned (.agg #[.int .i64 c, .int .i64 d, .slice a n cap]) ∧ Of w.heap.size w'.heap.size w' a n cap fs ∧ Below w.heap.size w w'
/-- A ledger and a fraction that are drawn. -/
def LfPost (w : World) (e : Ending) (w' : World) : Prop := ∃ (c d : Int) (a : Option Addr) (n cap : Nat) (fs : List (Int × Int)) (x y : Int), n ≤ 7 ∧ e = .returned (.tuple #[.agg #[.int .i64 c, .int .i64 d, .slice a n cap], .agg #[.int .i64 x, .int .i64 y]]) ∧ Of w.heap.size w'.heap.size w' a n cap fs ∧ Below w.heap.size w w'
set_option maxHeartbeats 1000000 in
theorem spec_DrawLedgerSum (a : Option Addr) (len cap : Nat) (w : World) (hb : Bys w.heap.size w a len) (hc : len ≤ cap) (hm : cap ≤ maxLen) :
    Calls Try.prog 23 #[.slice a len cap] w (LdPost w) := by
  obtain ⟨w1, hw1, Z1, B1, T1⟩ := led_box w 0 0 none 0 0 27
  have HB := Lib.hid (hb.below B1)
  have T := Lib.hid T1
  have B := Lib.hid B1
  clear hb B1 T1
  go_enter Try.func23, Try.ntmps23
  go_wp2_with fail
  refine (spec_l6Open w.heap.size a len cap w1 (by omega) HB.out hc hm).mono ?_
  rintro e w3 ⟨rfl, r3, b3, s3⟩
  rw [Z1] at r3
  have R3 := Lib.hid r3
  have T3 := Lib.hid (T.out.below b3 (by omega))
  have B3 := Lib.hid (B.out.trans (b3.mono (by omega)))
  clear r3 b3 hw1 T B
  go_wp2_with fail
  refine (spec_l92Ledger w.heap.size (w.heap.size + 1) 0 w3 R3.out (by omega)).mono ?_
  rintro e w4 ⟨c, d, a4, n4, c4, fs, hn, rfl, o4, r4, k4⟩
  have T4 := Lib.hid (T3.out.kb k4 (by omega))
  have B4 := Lib.hid (B3.out.trans (k4.below (by omega) (by omega)))
  have O4 := Lib.hid (Of.of_row (own2_far (own2_far (own2_far o4 (q := ⟨w.heap.size, 0, none⟩) (by simp; omega) (.int .i64 c)) (q := ⟨w.heap.size, 1, none⟩) (by simp; omega) (.int .i64 d)) (q := ⟨w.heap.size, 2, none⟩) (by simp; omega) (.slice a4 n4 c4)) (by omega))
  clear r4 k4 o4
  obtain ⟨e0, e1, e2, f0, f1, f2⟩ := led_at T4.out
  go_wp2
  exact bodyPost_ret (v := .agg #[.int .i64 c, .int .i64 d, .slice a4 n4 c4]) (by simp [results, Try.results23, go_sem, e0, e1, e2]) rfl ⟨c, d, a4, n4, c4, fs, by omega, rfl, O4.out.more (by omega) (Nat.le_refl _), ((B4.out.setCell (by simp) _).setCell (by simp) _).setCell (by simp) _⟩
set_option maxHeartbeats 1000000 in
theorem spec_DrawLedgerPay (a : Option Addr) (len cap : Nat) (w : World) (hb : Bys w.heap.size w a len) (hc : len ≤ cap) (hm : cap ≤ maxLen) :
    Calls Try.prog 12 #[.slice a len cap] w (LfPost w) := by
  obtain ⟨w1, hw1, Z1, B1, T1⟩ := led_box w 0 0 none 0 0 27
  obtain ⟨w2, hw2, Z2, B2, T2⟩ := duo_box w1 0 0 24
  rw [Z1] at T2
  have HB := Lib.hid ((hb.below B1).below (B2.mono (by omega)))
  have T := Lib.hid (T1.below B2 (by omega))
  have F := Lib.hid T2
  have B := Lib.hid (B1.trans (B2.mono (by omega)))
  have Z : w2.heap.size = w.heap.size + 2 := by omega
  clear hb B1 T1 B2 T2
  go_enter Try.func12, Try.ntmps12
  go_wp2_with fail
  refine (spec_l6Open w.heap.size a len cap w2 (by omega) HB.out hc hm).mono ?_
  rintro e w3 ⟨rfl, r3, b3, s3⟩
  rw [Z] at r3
  have R3 := Lib.hid r3
  have T3 := Lib.hid (T.out.below b3 (by omega))
  have F3 := Lib.hid (F.out.below b3 (by omega))
  have B3 := Lib.hid (B.out.trans (b3.mono (by omega)))
  have y3 : w.heap.size + 2 ≤ w3.heap.size := by have := b3.size; omega
  clear r3 b3 hw1 hw2 T B F
  go_wp2_with fail
  refine (spec_l92Ledger w.heap.size (w.heap.size + 2) 0 w3 R3.out (by omega)).mono ?_
  rintro e w4 ⟨c, d, a4, n4, c4, fs, hn, rfl, o4, r4, k4⟩
  have T4 := Lib.hid (T3.out.kb k4 (by omega))
  have F4 := Lib.hid (F3.out.kb k4 (by omega))
  have B4 := Lib.hid (B3.out.trans (k4.below (by omega) (by omega)))
  have R4 := Lib.hid r4
  have O4 := Lib.hid o4
  clear r4 k4 o4 T3 F3 B3 R3
  go_wp2_with fail
  refine (spec_l92Frac w.heap.size (w.heap.size + 2) (0 + 20) w4 R4.out (by omega)).mono ?_
  rintro e w5 ⟨x, y, rfl, r5, k5⟩
  have T5 := Lib.hid (T4.out.kb k5 (by omega))
  have F5 := Lib.hid (F4.out.kb k5 (by omega))
  have B5 := Lib.hid (B4.out.trans (k5.below (by have := B4.out.size; omega) (by omega)))
  have o5 := own2_kb O4.out k5 (by have := R4.out.inb; have := s3; omega)
  have O5 := Lib.hid (Of.of_row (own2_far (own2_far (own2_far (own2_far (own2_far o5 (q := ⟨w.heap.size, 0, none⟩) (by simp; omega) (.int .i64 c)) (q := ⟨w.heap.size, 1, none⟩) (by simp; omega) (.int .i64 d)) (q := ⟨w.heap.size, 2, none⟩) (by simp; omega) (.slice a4 n4 c4)) (q := ⟨w.heap.size + 1, 0, none⟩) (by simp; omega) (.int .i64 x)) (q := ⟨w.heap.size + 1, 1, none⟩) (by simp; omega) (.int .i64 y)) (by omega))
  clear r5 k5 o5 T4 F4 B4 R4 O4
  obtain ⟨e0, e1, e2, f0, f1, f2⟩ := led_at T5.out
  obtain ⟨e3, e4, f3, f4⟩ := duo_at F5.out
  go_wp2
  exact bodyPost_ret (v := .tuple #[.agg #[.int .i64 c, .int .i64 d, .slice a4 n4 c4], .agg #[.int .i64 x, .int .i64 y]]) (by simp [results, Try.results12, go_sem, e0, e1, e2, e3, e4]) rfl ⟨c, d, a4, n4, c4, fs, x, y, by omega, rfl, O5.out.more (by omega) (Nat.le_refl _), ((((B5.out.setCell (by simp) _).setCell (by simp) _).setCell (by simp) _).setCell (by simp) _).setCell (by simp) _⟩
set_option maxHeartbeats 1000000 in
theorem spec_DrawLedgerCan (a : Option Addr) (len cap : Nat) (w : World) (hb : Bys w.heap.size w a len) (hc : len ≤ cap) (hm : cap ≤ maxLen) :
    Calls Try.prog 25 #[.slice a len cap] w (LfPost w) := by
  obtain ⟨w1, hw1, Z1, B1, T1⟩ := led_box w 0 0 none 0 0 27
  obtain ⟨w2, hw2, Z2, B2, T2⟩ := duo_box w1 0 0 24
  rw [Z1] at T2
  have HB := (hb.below B1).below (B2.mono (by omega))
  have HB2 := Lib.hid (show Bys w2.heap.size w2 a len from fun hl => by
    obtain ⟨bb, off, h1, h2, h3⟩ := HB hl
    exact ⟨bb, off, h1, by omega, h3⟩)
  have T := Lib.hid (T1.below B2 (by omega))
  have F := Lib.hid T2
  have B := Lib.hid (B1.trans (B2.mono (by omega)))
  have Z : w.heap.size + 2 ≤ w2.heap.size := by omega
  clear hb B1 T1 B2 T2 HB
  go_enter Try.func25, Try.ntmps25
  go_wp2_with fail
  refine (spec_DrawLedgerPay a len cap w2 HB2.out hc hm).mono ?_
  rintro e w3 ⟨c, d, a4, n4, c4, fs, x, y, hn, rfl, o3, b3⟩
  have T3 := Lib.hid (T.out.below b3 (by omega))
  have F3 := Lib.hid (F.out.below b3 (by omega))
  have B3 := Lib.hid (B.out.trans (b3.mono (by omega)))
  have O3 := Lib.hid (of_far (of_far (of_far (of_far (of_far o3 (q := ⟨w.heap.size, 0, none⟩) (.inl (by simp; omega)) (.int .i64 c)) (q := ⟨w.heap.size, 1, none⟩) (.inl (by simp; omega)) (.int .i64 d)) (q := ⟨w.heap.size, 2, none⟩) (.inl (by simp; omega)) (.slice a4 n4 c4)) (q := ⟨w.heap.size + 1, 0, none⟩) (.inl (by simp; omega)) (.int .i64 x)) (q := ⟨w.heap.size + 1, 1, none⟩) (.inl (by simp; omega)) (.int .i64 y))
  clear b3 hw1 hw2 T B F o3
  obtain ⟨e0, e1, e2, f0, f1, f2⟩ := led_at T3.out
  obtain ⟨e3, e4, f3, f4⟩ := duo_at F3.out
  go_wp2
  exact bodyPost_ret (v := .tuple #[.agg #[.int .i64 c, .int .i64 d, .slice a4 n4 c4], .agg #[.int .i64 x, .int .i64 y]]) (by simp [results, Try.results25, go_sem, e0, e1, e2, e3, e4]) rfl ⟨c, d, a4, n4, c4, fs, x, y, hn, rfl, O3.out.more (by omega) (by simp [World.setCell]), ((((B3.out.setCell (by simp) _).setCell (by simp) _).setCell (by simp) _).setCell (by simp) _).setCell (by simp) _⟩
set_option maxHeartbeats 1000000 in
theorem laws_loLedger (u v : Int) (a a' : Option Addr) (n n' cap cap' : Nat) (fs : List (Int × Int)) (w : World) (h : Sf w a n fs) (h' : Sf w a' n' fs) (hm : n ≤ 1048577) :
    Calls Try.prog 15 #[.agg #[.int .i64 u, .int .i64 v, .slice a n cap], .agg #[.int .i64 u, .int .i64 v, .slice a' n' cap']] w (Bel (.bool true) w) := by
  have en : n' = n := by have h1 := h.len; have h2 := h'.len; omega
  subst en
  obtain ⟨w1, hw1, Z1, B1, T1⟩ := led_box w u v a n' cap 27
  obtain ⟨w2, hw2, Z2, B2, T2⟩ := led_box w1 u v a' n' cap' 27
  rw [Z1] at T2
  have U1 := T1.below B2 (by omega)
  have B02 := Lib.hid (B1.trans (B2.mono (by omega)))
  obtain ⟨d0, d1, d2, -, -, -⟩ := led_at U1
  obtain ⟨f0, f1, f2, -, -, -⟩ := led_at T2
  have UU := Lib.hid U1
  have TT := Lib.hid T2
  have H := Lib.hid ((h.below B1).below B2)
  have H' := Lib.hid ((h'.below B1).below B2)
  have me : (u == u && v == v) = true := by simp
  clear T1 T2 U1 B1 B2 h h'
  go_enter Try.func15, Try.ntmps15
  go_wp2
  clear d0 d1 d2 f0 f1 f2
  go_loopw [5] (fun i wr => ∃ (k m : Nat), k ≤ n' ∧ i = .int .i64 k ∧ Hid (wr = w2.drewN m)) (fun i _ => n' - (intOf i).toNat)
  case atStart => exact ⟨0, 0, by omega, rfl, rfl⟩
  case round =>
    obtain ⟨k, m, hk, rfl, hw⟩ := hrel
    have P := H.out.drewN m
    have Q := H'.out.drewN m
    have U := show Tri (w2.drewN m) w.heap.size _ _ from UU.out
    have T := show Tri (w2.drewN m) (w.heap.size + 1) _ _ from TT.out
    rw [← hw.out] at P Q U T
    obtain ⟨-, -, d2, -, -, -⟩ := led_at U
    obtain ⟨-, -, f2, -, -, -⟩ := led_at T
    by_cases hlt : k < n'
    · obtain ⟨b, off, x, y, rfl, x0, x1, hx⟩ := P.get hlt
      obtain ⟨b', off', x', y', rfl, y0, y1, hx'⟩ := Q.get hlt
      have exy : (x, y) = (x', y') := hx.out.trans hx'.out.symm
      injection exy with ex ey
      subst ex ey
      have me2 : (x == x && y == y) = true := by simp
      have i0 : (0 : Int) ≤ (k : Int) := by omega
      have i1 : (k : Int) < (n' : Int) := by omega
      clear P Q U T hx hx'
      go_wp2
      go_region
      all_goals
        go_wp2
        go_roundw
        case rel => exact ⟨k + 1, m + 1, by omega, by go_num, by show _ = _; rw [hw.out]; rfl⟩
        case measure => simp [intOf]; omega
    · have e : k = n' := by omega
      subst e
      have BE := Lib.hid (show Below w.heap.size w wr by rw [hw.out]; exact below_drewN B02.out m)
      clear P Q U T
      go_wp2
      go_ret
      exact ⟨rfl, BE.out⟩
end Go.Proofs.Ytigeffgehckbpab
