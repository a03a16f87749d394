/-
  Chapter 32: the model's drawing of a ledger, perhaps with one charge too many.
-/
import Derived.Test.YtigeffgehckbpabLem
namespace Go.Proofs.Ytigeffgehckbpab
open Go.RowKit
set_option linter.unusedVariables false
set_option linter.unusedSimpArgs false
set_option maxRecDepth 20000
set_option maxHeartbeats 4000000 in
theorem spec_DrawLedgerOk (a : Option Addr) (len cap : Nat) (w : World) (hb : Bys w.heap.size w a len) (hc : len ≤ cap) (hm : cap ≤ maxLen) :
    Calls Try.prog 28 #[.slice a len cap] w (LdPost w) := by
  obtain ⟨w1, hw1, Z1, B1, T1⟩ := led_box w 0 0 none 0 0 27
  have HB := Lib.hid (hb.below B1)
  have T := Lib.hid T1
  have B := Lib.hid B1
  clear hb B1 T1
  go_enter Try.func28, Try.ntmps28
  go_wp2_with fail
  refine (spec_l6Open w.heap.size a len cap w1 (by omega) HB.out hc hm).mono ?_
  rintro e w3 ⟨rfl, r3, b3, s3⟩
  rw [Z1] at r3
  have R3 := Lib.hid r3
  have T3 := Lib.hid (T.out.below b3 (by omega))
  have B3 := Lib.hid (B.out.trans (b3.mono (by omega)))
  have y3 : w.heap.size + 1 < w3.heap.size := by omega
  clear r3 b3 hw1 T B
  go_wp2_with fail
  refine (spec_l92Ledger w.heap.size (w.heap.size + 1) 0 w3 R3.out (by omega)).mono ?_
  rintro e w4 ⟨c, d, a4, n4, c4, fs, hn, rfl, o4, r4, k4⟩
  have T4 := Lib.hid (T3.out.kb k4 (by omega))
  have B4 := Lib.hid (B3.out.trans (k4.below (by omega) (by omega)))
  have R4 := Lib.hid r4
  have O4 := Lib.hid (own2_more (base' := w.heap.size + 2) o4 (by omega))
  have y4 : w.heap.size + 1 < w4.heap.size := by have := k4.size; omega
  clear r4 k4 o4 T3 B3 R3
  obtain ⟨w5, hw5, Z5, b5, t5⟩ := led_box w4 c d a4 n4 c4 27
  have U5 := Lib.hid (tri_moreB T4.out b5)
  have B5 := Lib.hid (B4.out.trans (b5.mono B4.out.size))
  have R5 := Lib.hid (R4.out.keep b5)
  have O5 := Lib.hid (own2_below O4.out b5)
  have T5 := Lib.hid t5
  clear b5 t5 T4 B4 R4 O4 Z5
  go_wp2_with fail
  refine (spec_pick w.heap.size (w.heap.size + 1) (0 + 20) 5 w5 R5.out (by omega)).mono ?_
  rintro e w8 ⟨s, ⟨hs1, hs2, -⟩, rfl, r8, k8, s8⟩
  have T8 := Lib.hid (T5.out.kb k8 (by omega))
  have U8 := Lib.hid (U5.out.kb k8 (by omega))
  have O8 := Lib.hid (own2_kb O5.out k8 (by omega))
  have B8 := Lib.hid (B5.out.trans (k8.below B5.out.size (by omega)))
  have R8 := Lib.hid r8
  clear r8 k8 s8 T5 U5 O5 B5 R5 hw5
  generalize hgl : w4.heap.size = gl at *
  clear hgl
  have hgw : ¬ gl = w.heap.size := by omega
  have hwg : ¬ w.heap.size = gl := by omega
  have hnm : n4 ≤ 1048576 := by omega
  have hbO : w.heap.size + 1 < w.heap.size + 2 := by omega
  have y8 : w.heap.size + 2 ≤ w8.heap.size := by have := tri_lt T8.out; omega
  by_cases h0 : s = 0
  · subst h0
    have l2 : w8.drew.cell? ⟨gl, 2, none⟩ = some (.slice a4 n4 c4) := (led_at T8.out).2.2.1
    go_wp2
    go_region_law (first | (refine step_of_wp' (by rfl) ?_; have A1 := own2_below (own2_kb (row2_drew O8.out) k9 hbO) (bel_box w9 (Obj.cells #[.int .i64 x, .int .i64 y] 24)); have A2 := oneF' (w := w9) (k := w9.heap.size) 24 x y rfl; have A3 : w.heap.size + 2 ≤ (w9.alloc (Obj.cells #[.int .i64 x, .int .i64 y] 24)).heap.size := (by (simp; omega)); have A4 := tri_moreB ((tri_drew T8.out).kb k9 (by omega)) (bel_box w9 (Obj.cells #[.int .i64 x, .int .i64 y] 24)); refine wp_pushF2 fr_ty (.tmp 13) (.tmp 16) rfl (w.heap.size + 2) rfl rfl A1 A2 hnm A3 ?_; intro a10 c10 w10 own10 chg10 bel10; have T10 := Lib.hid (tri_chg A4 chg10 (fun hh => row2_at A1 A4 fl_ne gl hh rfl)); obtain ⟨m0, m1, m2, m3, m4, m5⟩ := led_at T10.out) | ((try go_simp); go_at_call 33; refine (spec_l92Frac w.heap.size (w.heap.size + 1) (0 + 20 + 1) _ (R8.out.keep (Below.refl _ _).drew) (by omega)).mono ?_; rintro e w9 ⟨x, y, rfl, r9, k9⟩; have l9 := (led_at ((tri_drew T8.out).kb k9 (by omega))).2.2.1; have l10 := (led_at (tri_moreB ((tri_drew T8.out).kb k9 (by omega)) (bel_box w9 (Obj.cells #[.int .i64 x, .int .i64 y] 24)))).2.2.1; have y9 : w8.heap.size ≤ w9.heap.size := k9.size))
    all_goals
      have E9 := bel_box w9 (Obj.cells #[.int .i64 x, .int .i64 y] 24)
      have U10 := Lib.hid ((tri_moreB ((tri_drew U8.out).kb k9 (by omega)) E9).below bel10 (by omega))
      have B10 := Lib.hid (((B8.out.drew.trans (k9.below (B := w.heap.size) (show w.heap.size ≤ w8.heap.size by omega) (by omega))).trans (E9.mono (by omega))).trans (bel10.mono (by omega)))
      have O11 := Lib.hid (row2_set (i := 2) own10 T10.out fl_ne (.slice a10 (n4 + 1) c10))
      obtain ⟨u0, u1, u2, g0, g1, g2⟩ := led_at U10.out
      have O12 := Lib.hid (Of.of_row (own2_far (own2_far (own2_far O11.out (q := ⟨w.heap.size, 0, none⟩) (by simp) (.int .i64 c)) (q := ⟨w.heap.size, 1, none⟩) (by simp) (.int .i64 d)) (q := ⟨w.heap.size, 2, none⟩) (by simp) (.slice a10 (n4 + 1) c10)) (by omega))
      clear own10 chg10 bel10 T10 U10 r9 k9 E9 A1 A2 A3 A4 O11
      go_wp2
      exact bodyPost_ret (v := .agg #[.int .i64 c, .int .i64 d, .slice a10 (n4 + 1) c10]) (by simp [results, Try.results28, go_sem, u0, u1, u2, hgw, hwg]) rfl ⟨c, d, a10, n4 + 1, c10, fs ++ [(x, y)], by omega, rfl, O12.out.more (by omega) (Nat.le_refl _), (((B10.out.setCell (by simp; omega) _).setCell (by simp) _).setCell (by simp) _).setCell (by simp) _⟩
  · have h0b : (s == 0) = false := beqF h0
    obtain ⟨l0, l1, l2, f0, f1, f2⟩ := led_at T8.out
    obtain ⟨u0, u1, u2, g0, g1, g2⟩ := led_at U8.out
    have O12 := Lib.hid (Of.of_row (own2_far (own2_far (own2_far O8.out (q := ⟨w.heap.size, 0, none⟩) (by simp) (.int .i64 c)) (q := ⟨w.heap.size, 1, none⟩) (by simp) (.int .i64 d)) (q := ⟨w.heap.size, 2, none⟩) (by simp) (.slice a4 n4 c4)) (by omega))
    clear h0
    go_wp2
    exact bodyPost_ret (v := .agg #[.int .i64 c, .int .i64 d, .slice a4 n4 c4]) (by simp [results, Try.results28, go_sem, u0, u1, u2]) rfl ⟨c, d, a4, n4, c4, fs, by omega, rfl, O12.out.more (by omega) (Nat.le_refl _), ((B8.out.setCell (by simp) _).setCell (by simp) _).setCell (by simp) _⟩
end Go.Proofs.Ytigeffgehckbpab
