/-
  Chapter 32: the model's drawing of a ledger.
-/
import Derived.Test.YtigeffgehckbpabLej
namespace Go.Proofs.Ytigeffgehckbpab
open Go.RowKit
set_option linter.unusedVariables false
set_option linter.unusedSimpArgs false
set_option maxRecDepth 20000
set_option maxHeartbeats 8000000 in
theorem spec_l92Ledger (B b q : Nat) (w : World) (h : Rd B b q w) (hq : q ≤ 10000000) :
    Calls Try.prog 32 #[.pointer (some ⟨b, 0, none⟩)] w (LgPost B b q w) := by
  have hbw := h.inb
  obtain ⟨w1, hw1, Z1, B1, T1⟩ := led_box w 0 0 none 0 0 27
  have H := Lib.hid (h.keep B1)
  have TR := Lib.hid T1
  have K1 := Lib.hid (Kb.of_below (b := b) B1)
  clear h B1 T1
  go_enter Try.func32, Try.ntmps32
  go_wp2_with fail
  refine (spec_pick B b q 12 w1 H.out (by omega)).mono ?_
  rintro e w2 ⟨v, ⟨hv1, hv2, -⟩, rfl, r2, k2, s2⟩
  have hv3 := hv2 (by omega)
  obtain ⟨m1, rfl⟩ := Int.eq_ofNat_of_zero_le hv1
  replace TR := Lib.hid (TR.out.kb k2 (by omega))
  have K2 := Lib.hid (K1.out.trans k2)
  have R2 := Lib.hid r2
  clear r2 k2 s2 hw1 K1 H hv2 hv1
  go_wp2_with fail
  refine (spec_pick B b (q + 1) 4 w2 R2.out (by omega)).mono ?_
  rintro e w3 ⟨u, ⟨hu1, hu2, -⟩, rfl, r3, k3, s3⟩
  have hu3 := hu2 (by omega)
  obtain ⟨m2, rfl⟩ := Int.eq_ofNat_of_zero_le hu1
  replace TR := Lib.hid (TR.out.kb k3 (by omega))
  have K3 := Lib.hid (K2.out.trans k3)
  have R3 := Lib.hid r3
  clear r3 k3 s3 K2 R2 hu2 hu1
  go_wp2_with fail
  refine (spec_l31Of' _ _ (1 + m1) (1 + m2) w3 (by omega) (by omega) (by omega) (by omega) (by omega)).mono ?_
  rintro e w4 ⟨rfl, b4⟩
  generalize (Fr.num (1 + m1) (1 + m2) : Int) = c0
  generalize (Fr.den (1 + m1) (1 + m2) : Int) = d0
  have z4 : w.heap.size < w4.heap.size := by have h1 := tri_lt TR.out; have h2 := b4.size; omega
  obtain ⟨w5, hw5, Z5, B5, O5⟩ := emp_box w4 24
  obtain ⟨w6, hw6, Z6, B6, T6⟩ := led_box w5 c0 d0 (some ⟨w4.heap.size, 0, none⟩) 0 0 27
  rw [Z5] at Z6 T6
  replace TR := Lib.hid (((TR.out.below b4 (tri_lt TR.out)).below B5 z4).below B6 (by omega))
  have R6 := Lib.hid (((R3.out.keep b4).keep B5).keep B6)
  have K6 := Lib.hid (((K3.out.trans (Kb.of_below b4)).trans (Kb.of_below B5)).trans (Kb.of_below B6))
  have O6 := Lib.hid (own2_more (base' := w.heap.size + 1) (own2_below O5 B6) (by omega))
  have TL := Lib.hid T6
  have hg0 : w.heap.size < w4.heap.size + 1 := by omega
  clear b4 B5 O5 B6 T6 K3 R3
  go_wp2_with fail
  refine (spec_pick B b (q + 2) 6 w6 R6.out (by omega)).mono ?_
  rintro e w7 ⟨k0, ⟨hk1, hk2, -⟩, rfl, r7, k7, s7⟩
  have hk3 := hk2 (by omega)
  obtain ⟨k0, rfl⟩ := Int.eq_ofNat_of_zero_le hk1
  replace TR := Lib.hid (TR.out.kb k7 (by omega))
  replace TL := Lib.hid (TL.out.kb k7 (by omega))
  have O7 := Lib.hid (own2_kb O6.out k7 (by omega))
  have R7 := Lib.hid r7
  have K7 := Lib.hid (K6.out.trans k7)
  clear r7 k7 s7 hw5 hw6 K6 R6 O6 Z6 hk2 hk1
  generalize hgl : w4.heap.size + 1 = gl at *
  clear hgl
  go_wp2
  go_loopw [4] (fun i wr => ∃ (k n cap : Nat) (c d : Int) (a : Option Addr) (fs : List (Int × Int)), k + n ≤ 5 ∧ i = .int .i64 (k : Int) ∧ Hid (Tri wr gl [.int .i64 c, .int .i64 d, .slice a n cap] 27) ∧ Hid (Tri wr w.heap.size [.int .i64 0, .int .i64 0, .slice none 0 0] 27) ∧ Hid (wr.ownsRow (w.heap.size + 1) 24 2 (.slice a n cap) n ((flat fs).map (Value.int .i64))) ∧ Hid (Rd B b (q + (13 - 2 * k)) wr) ∧ Hid (Kb b w wr)) (fun i _ => (intOf i).toNat)
  case atStart => exact ⟨k0, 0, 0, c0, d0, _, [], by omega, rfl, TL.out, TR.out, O7.out, R7.out.mono (by omega), K7.out⟩
  case round =>
    clear TL TR O7 R7 K7
    obtain ⟨k, n, cap, c, d, a, fs, hkn, rfl, TL, TR, O, R, K⟩ := hrel
    have zl := tri_lt TL.out
    by_cases hk : 0 < k
    · obtain ⟨l0, l1, l2, -, -, -⟩ := led_at TL.out
      have S1 := Lib.hid (show Hid (Kb b wr wr.drew) ∧ wr.drew.cell? ⟨gl, 0, none⟩ = some (.int .i64 c) ∧ wr.drew.cell? ⟨gl, 1, none⟩ = some (.int .i64 d) ∧ wr.drew.cell? ⟨gl, 2, none⟩ = some (.slice a n cap) from ⟨Lib.hid (Kb.refl b wr).drew, l0, l1, l2⟩)
      have HN := Lib.hid (show gl ≠ b ∧ gl ≠ b ∧ gl ≠ b by omega)
      have HL := Lib.hid (show gl < wr.heap.size ∧ gl < wr.heap.size ∧ gl < wr.heap.size from ⟨zl, zl, zl⟩)
      have hbr : b < wr.heap.size := R.out.inb
      have hnm : n ≤ 1048576 := by omega
      have hbO : b < w.heap.size + 1 := by omega
      have hn7 : n ≤ 1048577 := by omega
      have hqq : q + (13 - 2 * k) ≤ 1000000000 := by omega
      clear l0 l1 l2
      go_wp2_with fail
      go_cut [5, 6] (fun p r W => PayAt wr B b (q + (13 - 2 * k) + 2) c d fs p r W)
      case first =>
        go_region_held3 (fun w' : World => Hid (Kb b wr w') ∧ w'.cell? ⟨gl, 0, none⟩ = some (.int .i64 c) ∧ w'.cell? ⟨gl, 1, none⟩ = some (.int .i64 d) ∧ w'.cell? ⟨gl, 2, none⟩ = some (.slice a n cap)) (first | exact S1.out | exact kb_cell3 (by assumption) HN k1 | exact kb_cell3 (by assumption) HN k2 | exact kb_cell3b (by assumption) HN b7 | exact kb_cell3b (by assumption) HN b8 | exact kb_cell3b (by assumption) HN (bel_box _ _) | exact kb_cell3b (by assumption) HN (bel_box _ _).drew | exact kb_re HL P8 (by assumption) | exact kb_cell3s (kb_cell3s (kb_cell3s (by assumption) HL (by first | omega | (simp; done) | (simp; omega)) _) HL (by first | omega | (simp; done) | (simp; omega)) _) HL (by first | omega | (simp; done) | (simp; omega)) _) (first | (go_at_call 47; have gg := r1; clear gg; refine (spec_pick B b _ 6 _ (by first | exact r1 | exact r1.keep (bel_box _ _)) (by omega)).mono ?_; rintro e w2 ⟨x2, ⟨p4, p5, -⟩, rfl, r2, k2, s2⟩; have y2 := ((kb_cell3 (W0 := wr) (by assumption) HN k2).1.out).size; clear s2; have p6 := p5 (by omega); obtain ⟨x2, rfl⟩ := Int.eq_ofNat_of_zero_le p4; have f2 : IntKind.i64.wrap (1 + (x2 : Int)) = 1 + (x2 : Int) := IntWalk.i64_in _ (by omega); (first | (have D5 := tri_nowK (cs := [.int .i64 0, .int .i64 0, .slice none 0 0]) k2 (by omega)) | (have D5 := Tri.kb D5 k2 (by omega)) | skip)) | (go_at_call 47; refine (spec_pick B b _ 3 _ (by first | exact R.out.keep (Below.refl _ _).drew | exact R.out.keep (bel_box _ _).drew) hqq).mono ?_; rintro e w1 ⟨x1, ⟨p1, p2, -⟩, rfl, r1, k1, s1⟩; have y1 := ((kb_cell3 (W0 := wr) (by assumption) HN k1).1.out).size; clear s1; have p3 := p2 (by omega); obtain ⟨x1, rfl⟩ := Int.eq_ofNat_of_zero_le p1; have f1 : IntKind.i64.wrap (1 + (x1 : Int)) = 1 + (x1 : Int) := IntWalk.i64_in _ (by omega); (first | (have D5 := tri_nowKD (cs := [.int .i64 0, .int .i64 0, .slice none 0 0]) k1 hbr) | skip)) | (go_at_call 50; refine (spec_l31Of' _ _ (1 + x1) (1 + x2) _ (by omega) (by omega) (by omega) (by omega) (by omega)).mono ?_; rintro e w7 ⟨rfl, b7⟩; have y7 := ((kb_cell3b (W0 := wr) (by assumption) HN b7).1.out).size; (first | (have R7 := r2.keep b7) | (have R7 := (r2.keep (bel_box _ _)).keep b7)); (first | (have D5 := tri_nowB (cs := [.int .i64 0, .int .i64 0, .slice none 0 0]) b7) | (have D5 := tri_moreB D5 b7) | skip)) | (go_at_call 13; refine (spec_LedgerPayR c d a n cap fs _ _ _ (row2_sf (own2_kb O.out (kb3_of (W0 := wr) (by assumption)) hbO) hn7) hnm).mono ?_; rintro e w8 ⟨a8, n8, c8, rfl, o8, b8, q8⟩; have P8 := Lib.hid ((kb_cell3b (W0 := wr) (by assumption) HN b8).1.out); have z8 := (kb3_of (W0 := wr) (by assumption)).size; (first | (have R8 := R7.keep b8) | (have R8 := (R7.keep (bel_box _ _)).keep b8)); (first | (have D5 := tri_nowB (cs := [.int .i64 0, .int .i64 0, .slice none 0 0]) b8) | (have D5 := tri_moreB D5 b8) | skip); (try (have dd0 := (led_at D5).1; have dd1 := (led_at D5).2.1; have dd2 := (led_at D5).2.2.1; have dd3 := (led_at D5).2.2.2.1; have dd4 := (led_at D5).2.2.2.2.1; have dd5 := (led_at D5).2.2.2.2.2))))
        all_goals
          go_wp2
          go_meet
          first | exact PayAt.new P8.out q8 (by first | omega | (simp; done) | (simp; omega)) R8 | exact PayAt.set P8.out D5 (by first | omega | (simp; done) | (simp; omega)) q8 (by first | omega | (simp; done) | (simp; omega)) R8 hbr
      case rest =>
        clear S1 HL HN
        obtain ⟨x, y, g, a', n', cap', rfl, rfl, kW, tW, hgW, oW, rW⟩ := hcut
        rename World => V
        have T2 := Lib.hid (TL.out.kb kW (by omega))
        have U2 := Lib.hid (TR.out.kb kW (by omega))
        have O2 := Lib.hid (own2_kb O.out kW hbO)
        have K2 := Lib.hid (K.out.trans kW)
        have R2 := Lib.hid rW
        clear kW rW TL TR O R K
        cases hpb : Fr.pB c d fs x y
        · clear tW oW hpb
          go_wp2
          go_roundw
          case rel => exact ⟨k - 1, n, cap, c, d, a, fs, by omega, by go_num, T2.out, U2.out, O2.out, R2.out.mono (by omega), K2.out⟩
          case measure => simp [intOf]; omega
        · have hp2 := hpb
          simp only [Fr.pB, Bool.and_eq_true] at hp2
          obtain ⟨-, e2, e3, e4⟩ := Fr.p_yes hp2.1 hp2.2
          rw [e2, e3] at tW
          rw [e4] at oW
          have ln := row2_len oW
          have lf := row2_len O2.out
          have hn' : n' = n + 1 := by rw [List.length_append] at ln; simp at ln; omega
          subst hn'
          have TW := Lib.hid tW
          have OW := Lib.hid (own2_more (base' := w.heap.size + 1) oW (by omega))
          clear e2 e3 e4 tW oW hpb hp2 O2
          obtain ⟨x0, x1, x2, -, -, -⟩ := led_at TW.out
          obtain ⟨-, -, -, f0, f1, f2⟩ := led_at T2.out
          obtain ⟨l0, l1, l2, -, -, -⟩ := led_at T2.out
          have T3 := Lib.hid (((T2.out.set (i := 0) (.int .i64 c)).set (i := 1) (.int .i64 d)).set (i := 2) (.slice a' (n + 1) cap'))
          have O3 := Lib.hid (row2_set (i := 2) (row2_set (i := 1) (row2_set (i := 0) OW.out T2.out fl_ne (.int .i64 c)) (T2.out.set (i := 0) (.int .i64 c)) fl_ne (.int .i64 d)) ((T2.out.set (i := 0) (.int .i64 c)).set (i := 1) (.int .i64 d)) fl_ne (.slice a' (n + 1) cap'))
          have U3 := Lib.hid (((U2.out.far (p := ⟨gl, 0, none⟩) (.int .i64 c) (by simp; omega)).far (p := ⟨gl, 1, none⟩) (.int .i64 d) (by simp; omega)).far (p := ⟨gl, 2, none⟩) (.slice a' (n + 1) cap') (by simp; omega))
          have R3 := Lib.hid (R2.out.keepB (base := gl) ((((Below.refl gl V).setCell (p := ⟨gl, 0, none⟩) (Nat.le_refl _) (.int .i64 c)).setCell (p := ⟨gl, 1, none⟩) (Nat.le_refl _) (.int .i64 d)).setCell (p := ⟨gl, 2, none⟩) (Nat.le_refl _) (.slice a' (n + 1) cap')) (by omega))
          have K3 := Lib.hid (((K2.out.setNew (p := ⟨gl, 0, none⟩) (by simp; omega) (.int .i64 c)).setNew (p := ⟨gl, 1, none⟩) (by simp; omega) (.int .i64 d)).setNew (p := ⟨gl, 2, none⟩) (by simp; omega) (.slice a' (n + 1) cap'))
          clear T2 U2 R2 K2 OW TW
          go_wp2
          go_roundw
          case rel => exact ⟨k - 1, n + 1, cap', c, d, a', fs ++ [(x, y)], by omega, by go_num, T3.out, U3.out, O3.out, R3.out.mono (by omega), K3.out⟩
          case measure => simp [intOf]; omega
    · have k0 : k = 0 := by omega
      subst k0
      have e0 : ((0 : Nat) : Int) = 0 := rfl
      rw [e0]; clear e0
      have hbO : b < w.heap.size + 1 := by omega
      have hgw : ¬ gl = w.heap.size := by omega
      have hwg : ¬ w.heap.size = gl := by omega
      have hnm : n ≤ 1048576 := by omega
      go_wp2_with fail
      refine (spec_pick B b (q + 13) 30 _ (R.out.mono (by omega)) (by omega)).mono ?_
      rintro e w8 ⟨s, ⟨hs1, hs2, -⟩, rfl, r8, k8, s8⟩
      have T8 := Lib.hid (TL.out.kb k8 (by omega))
      have U8 := Lib.hid (TR.out.kb k8 (by omega))
      have O8 := Lib.hid (own2_kb O.out k8 hbO)
      have K8 := Lib.hid (K.out.trans k8)
      have R8 := Lib.hid r8
      have y8 : w.heap.size ≤ w8.heap.size := K8.out.size
      clear r8 k8 s8 TL TR O R K hs1 hs2
      by_cases h0 : s = 0
      · subst h0
        go_wp2_with fail
        refine (spec_pick B b (q + 13 + 1) 3 _ R8.out (by omega)).mono ?_
        rintro e w9 ⟨x, ⟨hx1, hx2, -⟩, rfl, r9, k9, s9⟩
        have hx3 := hx2 (by omega)
        have T9 := Lib.hid (T8.out.kb k9 (by omega))
        have U9 := Lib.hid (U8.out.kb k9 (by omega))
        have O9 := Lib.hid (own2_kb O8.out k9 hbO)
        have K9 := Lib.hid (K8.out.trans k9)
        have R9 := Lib.hid r9
        clear r9 k9 s9 T8 U8 O8 R8 K8 hx2
        go_wp2_with fail
        refine (spec_pick B b (q + 13 + 1 + 1) 3 _ R9.out (by omega)).mono ?_
        rintro e w10 ⟨y, ⟨hy1, hy2, -⟩, rfl, r10, k10, s10⟩
        have hy3 := hy2 (by omega)
        have T10 := Lib.hid (T9.out.kb k10 (by omega))
        have U10 := Lib.hid (U9.out.kb k10 (by omega))
        have O10 := Lib.hid (own2_kb O9.out k10 hbO)
        have K10 := Lib.hid (K9.out.trans k10)
        have R10 := Lib.hid r10
        clear r10 k10 s10 T9 U9 O9 R9 K9 hy2
        obtain ⟨l0, l1, l2, f0, f1, f2⟩ := led_at T10.out
        obtain ⟨u0, u1, u2, g0, g1, g2⟩ := led_at U10.out
        have O11 := Lib.hid (row2_set (i := 1) (row2_set (i := 0) O10.out T10.out fl_ne (.int .i64 x)) (T10.out.set (i := 0) (.int .i64 x)) fl_ne (.int .i64 (1 + y)))
        have K11 := Lib.hid ((K10.out.setNew (p := ⟨gl, 0, none⟩) (by simp; omega) (.int .i64 x)).setNew (p := ⟨gl, 1, none⟩) (by simp; omega) (.int .i64 (1 + y)))
        have R11 := Lib.hid (R10.out.keepB (base := gl) (((Below.refl gl w10).setCell (p := ⟨gl, 0, none⟩) (Nat.le_refl _) (.int .i64 x)).setCell (p := ⟨gl, 1, none⟩) (Nat.le_refl _) (.int .i64 (1 + y))) (by omega))
        clear T10 U10 O10 R10 K10
        go_wp2
        exact bodyPost_ret (v := .agg #[.int .i64 x, .int .i64 (1 + y), .slice a n cap]) (by simp [results, Try.results32, go_sem, u0, u1, u2, hgw, hwg]) rfl ⟨x, 1 + y, a, n, cap, fs, by omega, rfl, row_endr (r := w.heap.size) O11.out (by omega) (by omega) _ _ _, (R11.out.keepB (base := w.heap.size) ((((Below.refl _ _).setCell (by simp) _).setCell (by simp) _).setCell (by simp) _) hbw).mono (by omega), (((K11.out.setNew (by simp) _).setNew (by simp) _).setNew (by simp) _)⟩
      by_cases h1 : s = 1
      · subst h1
        have l2 : w8.drew.cell? ⟨gl, 2, none⟩ = some (.slice a n cap) := (led_at T8.out).2.2.1
        go_wp2
        go_region_law (first | (refine step_of_wp' (by rfl) ?_; have A1 := own2_below (own2_kb (row2_drew O8.out) k9 hbO) (bel_box w9 (Obj.cells #[.int .i64 x, .int .i64 y] 24)); have A2 := oneF' (w := w9) (k := w9.heap.size) 24 x y rfl; have A3 : w.heap.size + 1 ≤ (w9.alloc (Obj.cells #[.int .i64 x, .int .i64 y] 24)).heap.size := (by (simp; omega)); have A4 := tri_moreB ((tri_drew T8.out).kb k9 (by omega)) (bel_box w9 (Obj.cells #[.int .i64 x, .int .i64 y] 24)); refine wp_pushF2 fr_ty (.tmp 50) (.tmp 53) rfl (w.heap.size + 1) rfl rfl A1 A2 hnm A3 ?_; intro a10 c10 w10 own10 chg10 bel10; have T10 := Lib.hid (tri_chg A4 chg10 (fun hh => row2_at A1 A4 fl_ne gl hh rfl)); obtain ⟨m0, m1, m2, m3, m4, m5⟩ := led_at T10.out) | ((try go_simp); go_at_call 33; refine (spec_l92Frac B b (q + 13 + 1) _ (R8.out.keep (Below.refl _ _).drew) (by omega)).mono ?_; rintro e w9 ⟨x, y, rfl, r9, k9⟩; have l9 := (led_at ((tri_drew T8.out).kb k9 (by omega))).2.2.1; have l10 := (led_at (tri_moreB ((tri_drew T8.out).kb k9 (by omega)) (bel_box w9 (Obj.cells #[.int .i64 x, .int .i64 y] 24)))).2.2.1; have y9 : w8.heap.size ≤ w9.heap.size := k9.size))
        all_goals
          have E9 := bel_box w9 (Obj.cells #[.int .i64 x, .int .i64 y] 24)
          have U10 := Lib.hid ((tri_moreB ((tri_drew U8.out).kb k9 (by omega)) E9).below bel10 (by omega))
          have R10 := Lib.hid ((r9.keep E9).keepB bel10 hbO)
          have K10 := Lib.hid ((((K8.out.drew).trans k9).trans (Kb.of_below E9)).then (bel10.mono (by omega)))
          have O11 := Lib.hid (row2_set (i := 2) own10 T10.out fl_ne (.slice a10 (n + 1) c10))
          obtain ⟨u0, u1, u2, g0, g1, g2⟩ := led_at U10.out
          have K11 := Lib.hid (K10.out.setNew (p := ⟨gl, 2, none⟩) (by simp; omega) (.slice a10 (n + 1) c10))
          have R11 := Lib.hid (R10.out.keepB (base := gl) ((Below.refl gl w10).setCell (p := ⟨gl, 2, none⟩) (Nat.le_refl _) (.slice a10 (n + 1) c10)) (by omega))
          clear own10 chg10 bel10 T10 U10 R10 K10 r9 k9 E9 A1 A2 A3 A4
          go_wp2
          exact bodyPost_ret (v := .agg #[.int .i64 c, .int .i64 d, .slice a10 (n + 1) c10]) (by simp [results, Try.results32, go_sem, u0, u1, u2, hgw, hwg]) rfl ⟨c, d, a10, n + 1, c10, fs ++ [(x, y)], by omega, rfl, row_endr (r := w.heap.size) O11.out (by omega) (by omega) _ _ _, (R11.out.keepB (base := w.heap.size) ((((Below.refl _ _).setCell (by simp) _).setCell (by simp) _).setCell (by simp) _) hbw).mono (by omega), (((K11.out.setNew (by simp) _).setNew (by simp) _).setNew (by simp) _)⟩
      · have h0b : (s == 0) = false := beqF h0
        have h1b : (s == 1) = false := beqF h1
        obtain ⟨l0, l1, l2, f0, f1, f2⟩ := led_at T8.out
        obtain ⟨u0, u1, u2, g0, g1, g2⟩ := led_at U8.out
        clear h0 h1
        go_wp2
        exact bodyPost_ret (v := .agg #[.int .i64 c, .int .i64 d, .slice a n cap]) (by simp [results, Try.results32, go_sem, u0, u1, u2]) rfl ⟨c, d, a, n, cap, fs, by omega, rfl, row_endr (r := w.heap.size) O8.out (by omega) (by omega) _ _ _, (R8.out.keepB (base := w.heap.size) ((((Below.refl _ _).setCell (by simp) _).setCell (by simp) _).setCell (by simp) _) hbw).mono (by omega), (((K8.out.setNew (by simp) _).setNew (by simp) _).setNew (by simp) _)⟩
end Go.Proofs.Ytigeffgehckbpab
