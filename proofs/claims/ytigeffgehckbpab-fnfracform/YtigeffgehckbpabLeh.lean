/-
  Chapter 32, the model: paying.
-/
import Derived.Test.YtigeffgehckbpabLeg
namespace Go.Proofs.Ytigeffgehckbpab
open Go.RowKit
set_option linter.unusedVariables false
set_option linter.unusedSimpArgs false
set_option maxRecDepth 20000
theorem cut5_mk {w W : World} {g : Nat} {p1 p2 p3 p4 p5 : Addr} {x1 x2 x3 x4 x5 : Value} (hl : Hid (w.cell? p1 = some x1 ∧ w.cell? p2 = some x2 ∧ w.cell? p3 = some x3 ∧ w.cell? p4 = some x4 ∧ w.cell? p5 = some x5)) (h : CutW w W g) :
    Hid (CutW w W g) ∧ W.cell? p1 = some x1 ∧ W.cell? p2 = some x2 ∧ W.cell? p3 = some x3 ∧ W.cell? p4 = some x4 ∧ W.cell? p5 = some x5 ∧ W.cell? ⟨g, 0, none⟩ = some (was W g 0) ∧ W.cell? ⟨g, 1, none⟩ = some (was W g 1) ∧ W.cell? ⟨g, 2, none⟩ = some (was W g 2) ∧ W.frozen? ⟨g, 0, none⟩ = false ∧ W.frozen? ⟨g, 1, none⟩ = false ∧ W.frozen? ⟨g, 2, none⟩ = false := by
  obtain ⟨h1, h2, h3, h4, h5⟩ := hl.out
  exact ⟨h, (h.1.cell (cell_lt h1)).trans h1, (h.1.cell (cell_lt h2)).trans h2, (h.1.cell (cell_lt h3)).trans h3, (h.1.cell (cell_lt h4)).trans h4, (h.1.cell (cell_lt h5)).trans h5, was_of (h.2 0 (by omega)).1, was_of (h.2 1 (by omega)).1, was_of (h.2 2 (by omega)).1, (h.2 0 (by omega)).2, (h.2 1 (by omega)).2, (h.2 2 (by omega)).2⟩
theorem CutW.keepB {w W W' : World} {g B : Nat} (h : CutW w W g) (k : Below B W W') (h1 : g < B) (h2 : w.heap.size ≤ B) : CutW w W' g := by
  refine ⟨h.1.trans (k.mono h2), fun j hj => ?_⟩
  rw [k.cell (p := ⟨g, 0 + j, none⟩) h1, k.frozen (p := ⟨g, 0 + j, none⟩) h1]
  exact h.2 j hj
theorem oneF2 {w w' : World} {k : Nat} {t : TypeId} {x y : Int} (hk : k = w.heap.size) (b : Below (w.alloc (.cells #[.int .i64 x, .int .i64 y] t)).drew.heap.size (w.alloc (.cells #[.int .i64 x, .int .i64 y] t)).drew w') : Sf w' (some ⟨k, 0, none⟩) 1 [(x, y)] :=
  Sf.below (w := (w.alloc (.cells #[.int .i64 x, .int .i64 y] t)).drew) (by have h := oneF' (w := w) t x y hk; exact ⟨h.len, h.row.len, h.row.at_⟩) b
theorem oneF3 {w w' : World} {k : Nat} {t : TypeId} {x y : Int} {o : Obj} (hk : k = w.heap.size) (b : Below ((w.alloc (.cells #[.int .i64 x, .int .i64 y] t)).alloc o).drew.heap.size ((w.alloc (.cells #[.int .i64 x, .int .i64 y] t)).alloc o).drew w') : Sf w' (some ⟨k, 0, none⟩) 1 [(x, y)] :=
  Sf.below (w := ((w.alloc (.cells #[.int .i64 x, .int .i64 y] t)).alloc o).drew) (by have h := (oneF' (w := w) t x y hk).below (bel_box _ o); exact ⟨h.len, h.row.len, h.row.at_⟩) b
/-- A row of its own stays one where nothing of it is touched. -/
theorem own2_chg {p : Nat → Prop} {base base' : Nat} {e : TypeId} {v : Value} {n : Nat} {xs : List Value} {w w' : World} (h : w.ownsRow base e 2 v n xs) (k : Chg p w w') (hp : ∀ b, base ≤ b → b < w.heap.size → ¬ p b) (hb : base' ≤ base) : w'.ownsRow base' e 2 v n xs := by
  rcases h with ⟨h1, h2 | ⟨g, cap, cur, hv, hg, hh, h3⟩⟩
  · exact ⟨h1, .inl h2⟩
  · have hlt : g < w.heap.size := by
      rcases Nat.lt_or_ge g w.heap.size with h' | h'
      · exact h'
      · rw [Array.getElem?_eq_none h'] at hh; cases hh
    exact ⟨h1, .inr ⟨g, cap, cur, hv, Nat.le_trans hb hg, by rw [k.block g hlt (hp g hg hlt)]; exact hh, h3⟩⟩
theorem own2_below {base : Nat} {e : TypeId} {v : Value} {n : Nat} {xs : List Value} {w w' : World} (h : w.ownsRow base e 2 v n xs) (k : Below w.heap.size w w') : w'.ownsRow base e 2 v n xs :=
  own2_chg h (Chg.of_below k) (fun b _ h2 => by omega) (Nat.le_refl _)
theorem own2_far {base : Nat} {e : TypeId} {v : Value} {n : Nat} {xs : List Value} {w : World} (h : w.ownsRow base e 2 v n xs) {q : Addr} (hq : q.block < base) (x : Value) : (w.setCell q x).ownsRow base e 2 v n xs :=
  own2_chg h (p := fun k => k = q.block) (Chg.setCell (p := fun k => k = q.block) (Chg.refl (fun k => k = q.block) w) (q := q) (.inl rfl) x) (fun b h1 _ h3 => by omega) (Nat.le_refl _)
theorem own2_more {base base' : Nat} {e : TypeId} {v : Value} {n : Nat} {xs : List Value} {w : World} (h : w.ownsRow base e 2 v n xs) (hb : base' ≤ base) : w.ownsRow base' e 2 v n xs :=
  own2_chg h (Chg.refl (fun _ => False) w) (fun b _ _ h3 => h3) hb
theorem own2_kb {base b : Nat} {e : TypeId} {v : Value} {n : Nat} {xs : List Value} {w w' : World} (h : w.ownsRow base e 2 v n xs) (k : Kb b w w') (hb : b < base) : w'.ownsRow base e 2 v n xs :=
  own2_chg h (Chg.kb k) (fun c h1 _ h3 => by omega) (Nat.le_refl _)
/-- The last store of a function that returns a ledger: at block r; its row. -/
theorem row_endr {base r : Nat} {w w3 : World} {e : TypeId} {v : Value} {n : Nat} {xs : List Value} (O : w3.ownsRow base e 2 v n xs) (h0 : w.heap.size ≤ base) (h1 : r < base) (x y z : Value) :
    (((w3.setCell ⟨r, 0, none⟩ x).setCell ⟨r, 1, none⟩ y).setCell ⟨r, 2, none⟩ z).ownsRow w.heap.size e 2 v n xs :=
  own2_more (own2_far (own2_far (own2_far O (q := ⟨r, 0, none⟩) h1 x) (q := ⟨r, 1, none⟩) h1 y) (q := ⟨r, 2, none⟩) h1 z) h0
/-- A ledger returned, its row one of its own. -/
def LedPostR (c d : Int) (fs : List (Int × Int)) (w : World) (e : Ending) (w' : World) : Prop := ∃ a n cap, e = .returned (.agg #[.int .i64 c, .int .i64 d, .slice a n cap]) ∧ Of w.heap.size w'.heap.size w' a n cap fs ∧ Below w.heap.size w w' ∧ w'.ownsRow w.heap.size 24 2 (.slice a n cap) n ((flat fs).map (Value.int .i64))
def LpPostR (c d : Int) (fs : List (Int × Int)) (x y : Int) (w : World) (e : Ending) (w' : World) : Prop := ∃ a n cap, e = .returned (.tuple #[.agg #[.int .i64 (Fr.pC c d fs x y), .int .i64 (Fr.pD c d fs x y), .slice a n cap], .bool (Fr.pB c d fs x y)]) ∧ Of w.heap.size w'.heap.size w' a n cap (Fr.pL c d fs x y) ∧ Below w.heap.size w w' ∧ w'.ownsRow w.heap.size 24 2 (.slice a n cap) n ((flat (Fr.pL c d fs x y)).map (Value.int .i64))
set_option maxHeartbeats 2000000 in
theorem spec_l32PayR (c d : Int) (a : Option Addr) (n cap : Nat) (fs : List (Int × Int)) (x y : Int) (w : World) (h : Sf w a n fs) (hm : n ≤ 1048576) :
    Calls Try.prog 34 #[.agg #[.int .i64 c, .int .i64 d, .slice a n cap], .agg #[.int .i64 x, .int .i64 y]] w (LedPostR c d (fs ++ [(x, y)]) w) := by
  obtain ⟨w1, hw1, Z1, B1, T1⟩ := led_box w c d a n cap 27
  obtain ⟨w2, hw2, Z2, B2, T2⟩ := duo_box w1 x y 24
  obtain ⟨w3, hw3, Z3, B3, T3⟩ := led_box w2 0 0 none 0 0 27
  rw [Z1] at Z2 T2
  rw [show w.heap.size + 1 + 1 = w.heap.size + 2 by omega] at Z2
  rw [Z2] at Z3 T3
  have H2 := Lib.hid ((h.below B1).below B2)
  have B20 := Lib.hid (B1.trans (B2.mono (by omega)))
  have hr3 : w.heap.size + 2 < w3.heap.size := by omega
  have hz2 : w2.heap.size ≤ w3.heap.size := by omega
  have hr2 : w2.heap.size ≤ w.heap.size + 2 := by omega
  obtain ⟨c0, c1, c2, -, -, -⟩ := led_at (T1.below B2 (by omega))
  obtain ⟨f0, f1, -, -⟩ := duo_at T2
  have LD := Lib.hid (show w2.cell? ⟨w.heap.size, 0, none⟩ = some (.int .i64 c) ∧ w2.cell? ⟨w.heap.size, 1, none⟩ = some (.int .i64 d) ∧ w2.cell? ⟨w.heap.size, 2, none⟩ = some (.slice a n cap) ∧ w2.cell? ⟨w.heap.size + 1, 0, none⟩ = some (.int .i64 x) ∧ w2.cell? ⟨w.heap.size + 1, 1, none⟩ = some (.int .i64 y) from ⟨c0, c1, c2, f0, f1⟩)
  have S0 := Lib.hid (show CutW w2 w3.drew (w.heap.size + 2) from ⟨B3.drew, T3.there⟩)
  have hm8 : n ≤ 1048577 := by omega
  go_enter Try.func34, Try.ntmps34
  go_wp2_with fail
  clear hw1 hw2 hw3 c0 c1 c2 f0 f1 B1 T1 B2 T2 B3 T3 Z3 Z2 Z1 h
  go_region_held3 (fun w' : World => Hid (CutW w2 w' (w.heap.size + 2)) ∧ w'.cell? ⟨w.heap.size, 0, none⟩ = some (.int .i64 c) ∧ w'.cell? ⟨w.heap.size, 1, none⟩ = some (.int .i64 d) ∧ w'.cell? ⟨w.heap.size, 2, none⟩ = some (.slice a n cap) ∧ w'.cell? ⟨w.heap.size + 1, 0, none⟩ = some (.int .i64 x) ∧ w'.cell? ⟨w.heap.size + 1, 1, none⟩ = some (.int .i64 y) ∧ w'.cell? ⟨w.heap.size + 2, 0, none⟩ = some (was w' (w.heap.size + 2) 0) ∧ w'.cell? ⟨w.heap.size + 2, 1, none⟩ = some (was w' (w.heap.size + 2) 1) ∧ w'.cell? ⟨w.heap.size + 2, 2, none⟩ = some (was w' (w.heap.size + 2) 2) ∧ w'.frozen? ⟨w.heap.size + 2, 0, none⟩ = false ∧ w'.frozen? ⟨w.heap.size + 2, 1, none⟩ = false ∧ w'.frozen? ⟨w.heap.size + 2, 2, none⟩ = false) (first | exact cut5_mk LD S0.out | exact cut5_mk LD (CutW.keep (cut_w (by assumption)) bel5) | exact cut5_mk LD (CutW.keepB (cut_w (by assumption)) bel8 hr3 hz2) | exact cut5_mk LD (CutW.keep (cut_w (by assumption)) (bel_box _ _)) | exact cut5_mk LD (CutW.keep (cut_w (by assumption)) (bel_box _ _).drew) | exact cut5_mk LD (CutW.cells (cut_w (by assumption)) hr2 [.int .i64 c, .int .i64 d, .slice a8 (n + 1) c8])) (first | (refine step_of_wp' (by rfl) (wp_freshF fr_ty (.tmp 7) (.tmp 9) rfl w3.heap.size rfl rfl (by first | exact ofEmpty' (by first | rfl | simp) (by first | exact Nat.le_refl _ | simp) | exact (ofEmpty' (by first | rfl | simp) (by first | exact Nat.le_refl _ | simp)).alloc _) (H2.out.below (cut_bl (by assumption))) hm8 (by first | exact Nat.le_refl _ | (simp; done) | (simp; omega)) ?_); intro a5 c5 w5 own5 bel5; have z5 := bel5.size; (try simp at z5)) | (refine step_of_wp' (by rfl) (wp_pushF1 fr_ty (.tmp 10) (.tmp 12) rfl w3.heap.size rfl rfl (by first | exact own5 | exact own5.alloc _) (by first | exact oneF' _ x y (by first | rfl | simp) | exact oneF2 (by first | rfl | simp) bel5 | exact oneF3 (by first | rfl | simp) bel5) hm (by first | omega | (simp; omega)) ?_); intro a8 c8 w8 own8 bel8; have hw8 := Lib.hid (CutW.keepB (w := w2) (g := w.heap.size + 2) (cut_w (by assumption)) bel8 hr3 hz2)))
  all_goals
    have O8 := Of.of_row own8 (by omega)
    have E8 := cut5_mk LD hw8.out
    obtain ⟨-, -, -, -, -, -, e0, e1, e2, g0, g1, g2⟩ := E8
    have B8 := Lib.hid (B20.out.trans (hw8.out.1.mono (by have := B20.out.size; omega)))
    have EE := Lib.hid (led_endr (r := w.heap.size + 2) O8 B8.out (by omega) hr3 (Nat.le_refl _) (.int .i64 c) (.int .i64 d) (.slice a8 (n + 1) c8))
    have RR := Lib.hid (row_endr (w := w) (r := w.heap.size + 2) own8 (by omega) hr3 (.int .i64 c) (.int .i64 d) (.slice a8 (n + 1) c8))
    clear own5 own8 bel5 bel8 O8 hw8 z5
    go_wp2
    exact bodyPost_ret (v := .agg #[.int .i64 c, .int .i64 d, .slice a8 (n + 1) c8]) (by simp [results, Try.results34, go_sem, e0, e1, e2]) rfl ⟨a8, n + 1, c8, rfl, EE.out.1, EE.out.2, RR.out⟩
theorem spec_l32Pay (c d : Int) (a : Option Addr) (n cap : Nat) (fs : List (Int × Int)) (x y : Int) (w : World) (h : Sf w a n fs) (hm : n ≤ 1048576) :
    Calls Try.prog 34 #[.agg #[.int .i64 c, .int .i64 d, .slice a n cap], .agg #[.int .i64 x, .int .i64 y]] w (LedPost c d (fs ++ [(x, y)]) w) :=
  (spec_l32PayR c d a n cap fs x y w h hm).mono fun e w' ⟨a', n', c', h1, h2, h3, _⟩ => ⟨a', n', c', h1, h2, h3⟩
set_option maxHeartbeats 2000000 in
theorem spec_LedgerPayR (c d : Int) (a : Option Addr) (n cap : Nat) (fs : List (Int × Int)) (x y : Int) (w : World) (h : Sf w a n fs) (hm : n ≤ 1048576) :
    Calls Try.prog 13 #[.agg #[.int .i64 c, .int .i64 d, .slice a n cap], .agg #[.int .i64 x, .int .i64 y]] w (LpPostR c d fs x y w) := by
  obtain ⟨w1, hw1, Z1, B1, T1⟩ := led_box w c d a n cap 27
  obtain ⟨w2, hw2, Z2, B2, T2⟩ := duo_box w1 x y 24
  obtain ⟨w3, hw3, Z3, B3, T3⟩ := led_box w2 0 0 none 0 0 27
  rw [Z1] at Z2 T2
  rw [show w.heap.size + 1 + 1 = w.heap.size + 2 by omega] at Z2
  rw [Z2] at Z3 T3
  have H2 := Lib.hid ((h.below B1).below B2)
  have H3 := Lib.hid (((h.below B1).below B2).below B3)
  have B20 := Lib.hid (B1.trans (B2.mono (by omega)))
  have hr2 : w2.heap.size ≤ w.heap.size + 2 := by omega
  have hz2 : w.heap.size + 2 ≤ w2.heap.size := by omega
  have TL := Lib.hid ((T1.below B2 (by omega)).below B3 (by omega))
  have TF := Lib.hid (T2.below B3 (by omega))
  obtain ⟨c0, c1, c2, -, -, -⟩ := led_at (T1.below B2 (by omega))
  obtain ⟨f0, f1, -, -⟩ := duo_at T2
  have LD := Lib.hid (show w2.cell? ⟨w.heap.size, 0, none⟩ = some (.int .i64 c) ∧ w2.cell? ⟨w.heap.size, 1, none⟩ = some (.int .i64 d) ∧ w2.cell? ⟨w.heap.size, 2, none⟩ = some (.slice a n cap) ∧ w2.cell? ⟨w.heap.size + 1, 0, none⟩ = some (.int .i64 x) ∧ w2.cell? ⟨w.heap.size + 1, 1, none⟩ = some (.int .i64 y) from ⟨c0, c1, c2, f0, f1⟩)
  have S3 := Lib.hid (show CutW w2 w3 (w.heap.size + 2) from ⟨B3, T3.there⟩)
  have hm8 : n ≤ 1048577 := by omega
  clear c0 c1 c2 f0 f1
  obtain ⟨c0, c1, c2, -, -, -⟩ := led_at TL.out
  clear B1 T1 B2 T2 B3 T3 h
  go_enter Try.func13, Try.ntmps13
  go_wp2_with fail
  refine (spec_LedgerOk c d a n cap fs w3 H3.out hm8).mono ?_
  rintro e w4 ⟨rfl, b4⟩
  have z4 : w.heap.size + 2 < w4.heap.size := by have := b4.size; omega
  have S4 := Lib.hid (S3.out.keep b4)
  clear hw1 hw2 hw3 c0 c1 c2 TL TF S3 b4 Z3 Z2 Z1 H3
  obtain ⟨-, c0, c1, c2, f0, f1, e0, e1, e2, g0, g1, g2⟩ := cut5_mk LD S4.out
  cases hg : Fr.good c d fs
  · have B4 := Lib.hid (B20.out.trans (S4.out.1.mono (by omega)))
    obtain ⟨k1, k2, k3, k4⟩ := Fr.p_no (Fr.may_g (x := x) (y := y) hg)
    have K := Lib.hid (And.intro k1 (And.intro k2 (And.intro k3 k4)))
    have EE := Lib.hid (led_endr (r := w.heap.size + 2) (Of.nil (w.heap.size + 3) w4.heap.size w4 none 0 (Nat.zero_le _)) B4.out (by omega) (by omega) (Nat.le_refl _) (.int .i64 0) (.int .i64 0) (.slice none 0 0))
    clear k1 k2 k3 k4 hg
    go_wp2
    exact bodyPost_ret (v := .tuple #[.agg #[.int .i64 0, .int .i64 0, .slice none 0 0], .bool false]) (by simp [results, Try.results13, go_sem, e0, e1, e2]) rfl ⟨none, 0, 0, by rw [K.out.1, K.out.2.1, K.out.2.2.1], by rw [K.out.2.2.2]; exact EE.out.1, EE.out.2, by rw [K.out.2.2.2]; exact ofNil _ _ _⟩
  have HG := Lib.hid hg
  clear hg
  go_wp2_with fail
  refine (spec_FracOk _ _ _).mono ?_
  rintro e w5 ⟨rfl, b5⟩
  have z5 : w.heap.size + 2 < w5.heap.size := by have := b5.size; omega
  have S5 := Lib.hid (S4.out.keep b5)
  clear c0 c1 c2 f0 f1 e0 e1 e2 g0 g1 g2 S4 b5
  obtain ⟨-, c0, c1, c2, f0, f1, e0, e1, e2, g0, g1, g2⟩ := cut5_mk LD S5.out
  have B5 := Lib.hid (B20.out.trans (S5.out.1.mono (by omega)))
  cases hf : Fr.ok x y
  · obtain ⟨k1, k2, k3, k4⟩ := Fr.p_no (Fr.may_f (c := c) (d := d) (fs := fs) hf)
    have K := Lib.hid (And.intro k1 (And.intro k2 (And.intro k3 k4)))
    have EE := Lib.hid (led_endr (r := w.heap.size + 2) (Of.nil (w.heap.size + 3) w5.heap.size w5 none 0 (Nat.zero_le _)) B5.out (by omega) (by omega) (Nat.le_refl _) (.int .i64 0) (.int .i64 0) (.slice none 0 0))
    clear k1 k2 k3 k4 hf
    go_wp2
    exact bodyPost_ret (v := .tuple #[.agg #[.int .i64 0, .int .i64 0, .slice none 0 0], .bool false]) (by simp [results, Try.results13, go_sem, e0, e1, e2]) rfl ⟨none, 0, 0, by rw [K.out.1, K.out.2.1, K.out.2.2.1], by rw [K.out.2.2.2]; exact EE.out.1, EE.out.2, by rw [K.out.2.2.2]; exact ofNil _ _ _⟩
  have MY := Lib.hid (Fr.may_y HG.out hf)
  have H5 := Lib.hid (H2.out.below S5.out.1)
  clear hf
  go_wp2_with fail
  refine (spec_l32PayR c d a n cap fs x y w5 H5.out hm).mono ?_
  rintro e w6 ⟨a6, n6, c6, rfl, o6, b6, q6⟩
  have z50 : w.heap.size + 2 < w5.heap.size := z5
  obtain ⟨w7, hw7, Z7, B7, T7⟩ := led_box w6 c d a6 n6 c6 27
  have z6 := b6.size
  have S7 := Lib.hid ((S5.out.keep b6).keep B7)
  have O7 := Lib.hid (o6.below B7)
  have Q7 := Lib.hid (own2_below q6 B7)
  have TX := Lib.hid T7
  have n6l : n6 ≤ 1048577 := by have h1 := o6.len; have h2 := H2.out.len; simp at h1; omega
  obtain ⟨x0, x1, x2, -, -, -⟩ := led_at T7
  clear c0 c1 c2 f0 f1 e0 e1 e2 g0 g1 g2 S5 B5 b6 o6 q6 B7 T7
  go_wp2_with fail
  refine (spec_LedgerOk c d a6 n6 c6 (fs ++ [(x, y)]) w7 O7.out.sf n6l).mono ?_
  rintro e w8 ⟨rfl, b8⟩
  have z8 : w6.heap.size < w8.heap.size := by have := b8.size; omega
  have S8 := Lib.hid (S7.out.keep b8)
  have O8 := Lib.hid (O7.out.below b8)
  have Q8 := Lib.hid (own2_below Q7.out b8)
  have TX8 := Lib.hid (TX.out.below b8 (by omega))
  clear hw7 x0 x1 x2 b8 S7 O7 Q7 TX Z7
  cases hp : Fr.good c d (fs ++ [(x, y)])
  · obtain ⟨k1, k2, k3, k4⟩ := Fr.p_not MY.out hp
    have K := Lib.hid (And.intro k1 (And.intro k2 (And.intro k3 k4)))
    have S0 := Lib.hid (show CutW w2 w8.drew (w.heap.size + 2) from ⟨S8.out.1.drew, S8.out.2⟩)
    clear k1 k2 k3 k4 hp O8 Q8 TX8
    go_wp2_with fail
    go_region_held3 (fun w' : World => Hid (CutW w2 w' (w.heap.size + 2)) ∧ w'.cell? ⟨w.heap.size, 0, none⟩ = some (.int .i64 c) ∧ w'.cell? ⟨w.heap.size, 1, none⟩ = some (.int .i64 d) ∧ w'.cell? ⟨w.heap.size, 2, none⟩ = some (.slice a n cap) ∧ w'.cell? ⟨w.heap.size + 1, 0, none⟩ = some (.int .i64 x) ∧ w'.cell? ⟨w.heap.size + 1, 1, none⟩ = some (.int .i64 y) ∧ w'.cell? ⟨w.heap.size + 2, 0, none⟩ = some (was w' (w.heap.size + 2) 0) ∧ w'.cell? ⟨w.heap.size + 2, 1, none⟩ = some (was w' (w.heap.size + 2) 1) ∧ w'.cell? ⟨w.heap.size + 2, 2, none⟩ = some (was w' (w.heap.size + 2) 2) ∧ w'.frozen? ⟨w.heap.size + 2, 0, none⟩ = false ∧ w'.frozen? ⟨w.heap.size + 2, 1, none⟩ = false ∧ w'.frozen? ⟨w.heap.size + 2, 2, none⟩ = false) (first | exact cut5_mk LD S0.out | exact cut5_mk LD (CutW.keep (cut_w (by assumption)) bel5) | exact cut5_mk LD (CutW.keep (cut_w (by assumption)) (bel_box _ _)) | exact cut5_mk LD (CutW.keep (cut_w (by assumption)) (bel_box _ _).drew) | exact cut5_mk LD (CutW.cells (cut_w (by assumption)) hr2 [.int .i64 c, .int .i64 d, .slice a5 n c5])) ((refine step_of_wp' (by rfl) (wp_freshF fr_ty (.tmp 24) (.tmp 26) rfl w8.heap.size rfl rfl (by first | exact ofEmpty' (by first | rfl | simp) (by first | exact Nat.le_refl _ | simp) | exact (ofEmpty' (by first | rfl | simp) (by first | exact Nat.le_refl _ | simp)).alloc _) (H2.out.below (cut_bl (by assumption))) hm8 (by first | exact Nat.le_refl _ | (simp; done) | (simp; omega)) ?_); intro a5 c5 w9 own5 bel5; have hw9 := Lib.hid (CutW.keep (w := w2) (g := w.heap.size + 2) (cut_w (by assumption)) bel5)))
    all_goals
      have O9 := Of.of_row own5 hm8
      have E9 := cut5_mk LD hw9.out
      obtain ⟨-, -, -, -, -, -, e0, e1, e2, g0, g1, g2⟩ := E9
      have B9 := Lib.hid (B20.out.trans (hw9.out.1.mono (by have := B20.out.size; omega)))
      have EE := Lib.hid (led_endr (r := w.heap.size + 2) O9 B9.out (by omega) (by omega) (Nat.le_refl _) (.int .i64 c) (.int .i64 d) (.slice a5 n c5))
      have RR := Lib.hid (row_endr (w := w) (r := w.heap.size + 2) own5 (by omega) (by omega) (.int .i64 c) (.int .i64 d) (.slice a5 n c5))
      clear own5 bel5 O9 hw9
      go_wp2
      exact bodyPost_ret (v := .tuple #[.agg #[.int .i64 c, .int .i64 d, .slice a5 n c5], .bool false]) (by simp [results, Try.results13, go_sem, e0, e1, e2]) rfl ⟨a5, n, c5, by rw [K.out.1, K.out.2.1, K.out.2.2.1], by rw [K.out.2.2.2]; exact EE.out.1, EE.out.2, by rw [K.out.2.2.2]; exact RR.out⟩
  · obtain ⟨k1, k2, k3, k4⟩ := Fr.p_yes MY.out hp
    have K := Lib.hid (And.intro k1 (And.intro k2 (And.intro k3 k4)))
    obtain ⟨-, c0, c1, c2, f0, f1, e0, e1, e2, g0, g1, g2⟩ := cut5_mk LD S8.out
    obtain ⟨x0, x1, x2, -, -, -⟩ := led_at TX8.out
    have B8 := Lib.hid (B20.out.trans (S8.out.1.mono (by have := B20.out.size; omega)))
    have EE := Lib.hid (led_endr (r := w.heap.size + 2) O8.out B8.out (by omega) (by omega) (by omega) (.int .i64 c) (.int .i64 d) (.slice a6 n6 c6))
    have RR := Lib.hid (row_endr (w := w) (r := w.heap.size + 2) Q8.out (by omega) z50 (.int .i64 c) (.int .i64 d) (.slice a6 n6 c6))
    clear k1 k2 k3 k4 hp c0 c1 c2 f0 f1
    go_wp2
    exact bodyPost_ret (v := .tuple #[.agg #[.int .i64 c, .int .i64 d, .slice a6 n6 c6], .bool true]) (by simp [results, Try.results13, go_sem, e0, e1, e2]) rfl ⟨a6, n6, c6, by rw [K.out.1, K.out.2.1, K.out.2.2.1], by rw [K.out.2.2.2]; exact EE.out.1, EE.out.2, by rw [K.out.2.2.2]; exact RR.out⟩
theorem spec_LedgerPay (c d : Int) (a : Option Addr) (n cap : Nat) (fs : List (Int × Int)) (x y : Int) (w : World) (h : Sf w a n fs) (hm : n ≤ 1048576) :
    Calls Try.prog 13 #[.agg #[.int .i64 c, .int .i64 d, .slice a n cap], .agg #[.int .i64 x, .int .i64 y]] w (LpPost c d fs x y w) :=
  (spec_LedgerPayR c d a n cap fs x y w h hm).mono fun e w' ⟨a', n', c', h1, h2, h3, _⟩ => ⟨a', n', c', h1, h2, h3⟩
end Go.Proofs.Ytigeffgehckbpab
