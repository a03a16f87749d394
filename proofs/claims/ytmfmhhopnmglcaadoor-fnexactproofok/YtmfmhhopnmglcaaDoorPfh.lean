/-
  Chapter 12: the laws' toProof, szProof.
-/
import Derived.Test.YtmfmhhopnmglcaaDoorPfl
namespace Go.Proofs.YtmfmhhopnmglcaaDoor
open Go.RowKit
set_option linter.unusedVariables false
set_option linter.unusedSimpArgs false
set_option maxRecDepth 20000
theorem prf_boxL (w : World) (u v : Int) (a : Option Addr) (n cap : Nat) (t : TypeId) : ∃ w1, w.alloc (.cells #[.int .i64 u, .int .i64 v, .slice a n cap] t) = w1 ∧ w1.heap.size = w.heap.size + 1 ∧ Below w.heap.size w w1 ∧ Tri w1 w.heap.size (prc u v a n cap) t :=
  ⟨_, rfl, size_alloc1 _ _, (Below.refl _ _).alloc (Nat.le_refl _) _, Tri.new _ _ _⟩
theorem Tri.trip {w : World} {g : Nat} {u v : Int} {a : Option Addr} {n c : Nat} {t : TypeId} (h : Tri w g (prc u v a n c) t) : w.cell? ⟨g, 0, none⟩ = some (.int .i64 u) ∧ w.cell? ⟨g, 1, none⟩ = some (.int .i64 v) ∧ w.cell? ⟨g, 2, none⟩ = some (.slice a n c) ∧ w.frozen? ⟨g, 0, none⟩ = false ∧ w.frozen? ⟨g, 1, none⟩ = false ∧ w.frozen? ⟨g, 2, none⟩ = false :=
  ⟨h.at_ 0, h.at_ 1, h.at_ 2, (h.there 0 (by simp [prc])).2, (h.there 1 (by simp [prc])).2, (h.there 2 (by simp [prc])).2⟩
theorem Tri.set {w : World} {g i : Nat} {cs : List Value} {t : TypeId} (h : Tri w g cs t) (v : Value) : Tri (w.setCell ⟨g, i, none⟩ v) g (cs.set i v) t := by
  unfold Tri at h ⊢
  have hl : g < w.heap.size := by
    rcases Nat.lt_or_ge g w.heap.size with h' | h'
    · exact h'
    · rw [Array.getElem?_eq_none h'] at h; cases h
  simp [World.setCell, Array.getElem?_modify, h]
theorem Tri.far {w : World} {g : Nat} {p : Addr} {cs : List Value} {t : TypeId} (h : Tri w g cs t) (v : Value) (hp : p.block ≠ g) : Tri (w.setCell p v) g cs t := by
  unfold Tri at h ⊢
  rw [← h]
  simp [World.setCell, Array.getElem?_modify, hp]
theorem Own.lod {w W : World} {hi : Nat} {a : Option Addr} {n c : Nat} {zs : List Int} (h : Own w.drew.heap.size hi W a n c zs) : Own w.heap.size hi W a n c zs := h
theorem three_keepL {w w' : World} {g : Nat} {x y z : Value} (h : w.cell? ⟨g, 0, none⟩ = some x ∧ w.cell? ⟨g, 1, none⟩ = some y ∧ w.cell? ⟨g, 2, none⟩ = some z) (k : Below w.heap.size w w') : w'.cell? ⟨g, 0, none⟩ = some x ∧ w'.cell? ⟨g, 1, none⟩ = some y ∧ w'.cell? ⟨g, 2, none⟩ = some z :=
  have hg : g < w.heap.size := cell_lt h.1
  ⟨(k.cell (p := ⟨g, 0, none⟩) hg).trans h.1, (k.cell (p := ⟨g, 1, none⟩) hg).trans h.2.1, (k.cell (p := ⟨g, 2, none⟩) hg).trans h.2.2⟩
theorem three_keep2 {w w' : World} {g g' : Nat} {x y z x' y' z' : Value} (h : (w.cell? ⟨g, 0, none⟩ = some x ∧ w.cell? ⟨g, 1, none⟩ = some y ∧ w.cell? ⟨g, 2, none⟩ = some z) ∧ (w.cell? ⟨g', 0, none⟩ = some x' ∧ w.cell? ⟨g', 1, none⟩ = some y' ∧ w.cell? ⟨g', 2, none⟩ = some z')) (k : Below w.heap.size w w') :
    (w'.cell? ⟨g, 0, none⟩ = some x ∧ w'.cell? ⟨g, 1, none⟩ = some y ∧ w'.cell? ⟨g, 2, none⟩ = some z) ∧ (w'.cell? ⟨g', 0, none⟩ = some x' ∧ w'.cell? ⟨g', 1, none⟩ = some y' ∧ w'.cell? ⟨g', 2, none⟩ = some z') := ⟨three_keepL h.1 k, three_keepL h.2 k⟩
theorem prf_descL : ∃ d, Tryd.prog.underlying 24 = some d ∧ d.isRow = true ∧ (Tryd.prog.info? 24).map (·.size) = some 3 := ⟨_, Tryd.underlying24, rfl, by kernel_rfl⟩
theorem laws_szIntS (a : Option Addr) (n cap : Nat) (q : Int) (w : World) (hq : -1 ≤ q) (hq1 : q ≤ 1048576) (hn : (n : Int) ≤ maxLen) :
    Calls Tryd.prog 33 #[.slice a n cap, .int .i64 q] w fun e w' => e = .returned (.int .i64 (max (-1) (q - n))) ∧ w = w' := by
  unfold maxLen at hn
  by_cases h : (n : Int) ≤ q
  · rw [show max (-1) (q - n) = q - n by omega]
    go_enter Tryd.func33, Tryd.ntmps33
    go_wp2
    go_ret
    exact ⟨rfl, rfl⟩
  · rw [show max (-1) (q - n) = -1 by omega]
    go_enter Tryd.func33, Tryd.ntmps33
    go_wp2
    go_ret
    exact ⟨rfl, rfl⟩
theorem laws_szProof (u v : Int) (a : Option Addr) (n cap : Nat) (q : Int) (w : World) (hq : -1 ≤ q) (hq1 : q ≤ 1048576) (hn : (n : Int) ≤ maxLen) :
    Calls Tryd.prog 9 #[.agg #[.int .i64 u, .int .i64 v, .slice a n cap], .int .i64 q] w (Bel (.int .i64 (max (-1) (q - n))) w) := by
  obtain ⟨w1, hw1, Z1, B1, T1⟩ := prf_boxL w u v a n cap 24
  have c2 : w1.cell? ⟨w.heap.size, 2, none⟩ = some (.slice a n cap) := T1.at_ 2
  have BB := Lib.hid B1
  clear T1 B1
  by_cases h : (n : Int) ≤ q
  · have C := laws_szIntS a n cap q w1 hq hq1 hn
    rw [show max (-1) (q - n) = q - n by omega] at C ⊢
    go_enter Tryd.func9, Tryd.ntmps9
    go_wp2_with (go_at_call 33; refine C.mono ?_; rintro e w' ⟨rfl, rfl⟩)
    go_ret
    exact ⟨rfl, BB.out⟩
  · have C := laws_szIntS a n cap q w1 hq hq1 hn
    rw [show max (-1) (q - n) = -1 by omega] at C ⊢
    go_enter Tryd.func9, Tryd.ntmps9
    go_wp2_with (go_at_call 33; refine C.mono ?_; rintro e w' ⟨rfl, rfl⟩)
    go_ret
    exact ⟨rfl, BB.out⟩
theorem laws_toProof (u v : Int) (a : Option Addr) (n cap : Nat) (zs : List Int) (w : World) (h : Sl w a n zs) (hm : n ≤ 1048576) :
    Calls Tryd.prog 12 #[.agg #[.int .i64 u, .int .i64 v, .slice a n cap]] w (NewPrf u v zs w) := by
  obtain ⟨w1, hw1, Z1, B1, T1⟩ := prf_boxL w u v a n cap 24
  obtain ⟨w2, hw2, Z2, B2, T2⟩ := prf_boxL w1 0 0 none 0 0 28
  obtain ⟨w3, hw3, Z3, B3, T3⟩ := prf_boxL w2 0 0 none 0 0 28
  rw [Z1] at T2
  rw [Z2, Z1] at T3
  have U1 := T1.below ((B2.trans (B3.mono (by omega)))) (by omega)
  have U2 := T2.below B3 (by omega)
  have q3 := T3.trip
  obtain ⟨w4, hw4⟩ : ∃ w4, w3.setCell ⟨w.heap.size + 1 + 1, 0, none⟩ (.int .i64 u) = w4 := ⟨_, rfl⟩
  have T4 : Tri w4 (w.heap.size + 1 + 1) (prc u 0 none 0 0) 28 := by rw [← hw4]; exact T3.set (i := 0) _
  have V1 : Tri w4 w.heap.size (prc u v a n cap) 24 := by rw [← hw4]; exact U1.far _ (by show w.heap.size + 1 + 1 ≠ _; omega)
  have V2 : Tri w4 (w.heap.size + 1) (prc 0 0 none 0 0) 28 := by rw [← hw4]; exact U2.far _ (by show w.heap.size + 1 + 1 ≠ _; omega)
  obtain ⟨w5, hw5⟩ : ∃ w5, w4.setCell ⟨w.heap.size + 1 + 1, 1, none⟩ (.int .i64 v) = w5 := ⟨_, rfl⟩
  have T5 : Tri w5 (w.heap.size + 1 + 1) (prc u v none 0 0) 28 := by rw [← hw5]; exact T4.set (i := 1) _
  have X1 : Tri w5 w.heap.size (prc u v a n cap) 24 := by rw [← hw5]; exact V1.far _ (by show w.heap.size + 1 + 1 ≠ _; omega)
  have X2 : Tri w5 (w.heap.size + 1) (prc 0 0 none 0 0) 28 := by rw [← hw5]; exact V2.far _ (by show w.heap.size + 1 + 1 ≠ _; omega)
  have B5 : Below w.heap.size w w5 := by
    rw [← hw5, ← hw4]
    exact ((B1.trans ((B2.trans (B3.mono (by omega))).mono (by omega))).setCell (p := ⟨w.heap.size + 1 + 1, 0, none⟩) (by show w.heap.size ≤ w.heap.size + 1 + 1; omega) _).setCell (p := ⟨w.heap.size + 1 + 1, 1, none⟩) (by show w.heap.size ≤ w.heap.size + 1 + 1; omega) _
  have Z5 : w5.heap.size = w.heap.size + 1 + 1 + 1 := by rw [← hw5, ← hw4]; simp [World.setCell]; omega
  obtain ⟨d0, d1, d2, -, -, -⟩ := U1.trip
  obtain ⟨e0, e1, e2, e3, e4, e5⟩ := T3.trip
  obtain ⟨f0, f1, f2, -, -, -⟩ := V1.trip
  obtain ⟨h0, h1, h2, h3, h4, h5⟩ := T4.trip
  obtain ⟨j0, j1, j2, -, -, -⟩ := X1.trip
  have H5 := Lib.hid (h.below B5)
  have TT5 := Lib.hid T5
  have XX2 := Lib.hid X2
  have BB5 := Lib.hid B5
  have ZZ5 := Lib.hid Z5
  obtain ⟨d, D1, D2, D3⟩ := prf_desc
  clear T1 T2 B1 B2 B3 T3 U1 U2 V1 V2 T4 T5 X1 X2 B5 Z5 h q3
  go_enter Tryd.func12, Tryd.ntmps12
  go_wp2_with fail
  refine (laws_toIntS _ _ _ _ _ H5.out hm).mono ?_
  rintro e w6 ⟨a6, n6, c6, rfl, o6, b6⟩
  have z5 := ZZ5.out
  have z6 := b6.size
  have T6 := TT5.out.below b6 (by omega)
  have X6 := XX2.out.below b6 (by omega)
  have B6 := BB5.out.trans (b6.mono (by omega))
  obtain ⟨w7, hw7⟩ : ∃ w7, w6.setCell ⟨w.heap.size + 1 + 1, 2, none⟩ (.slice a6 n6 c6) = w7 := ⟨_, rfl⟩
  have T7 : Tri w7 (w.heap.size + 1 + 1) (prc u v a6 n6 c6) 28 := by rw [← hw7]; exact T6.set (i := 2) _
  have X7 : Tri w7 (w.heap.size + 1) (prc 0 0 none 0 0) 28 := by rw [← hw7]; exact X6.far _ (by show w.heap.size + 1 + 1 ≠ _; omega)
  have B7 : Below w.heap.size w w7 := by rw [← hw7]; exact B6.setCell (p := ⟨w.heap.size + 1 + 1, 2, none⟩) (by show w.heap.size ≤ w.heap.size + 1 + 1; omega) _
  have o7 : Own w5.heap.size w6.heap.size w7 a6 n6 c6 zs := by rw [← hw7]; exact o6.far (q := ⟨w.heap.size + 1 + 1, 2, none⟩) (.inl (by show w.heap.size + 1 + 1 < _; omega)) _
  have z7 : w7.heap.size = w6.heap.size := by rw [← hw7]; simp [World.setCell]
  obtain ⟨-, -, k2, -, -, k5⟩ := T6.trip
  obtain ⟨V, hV⟩ : ∃ V, w7.setCells (w.heap.size + 1) 0 (prc u v a6 n6 c6) = V := ⟨_, rfl⟩
  have E := prf_end (g := w.heap.size + 1) (u := u) (v := v) (a := a6) (n := n6) (cap := c6) (w := w) X7 rfl o7 (by omega) (by omega) B7 (by omega)
  rw [hV] at E
  have EE := Lib.hid E
  have TT := Lib.hid T7
  have XT := Lib.hid X7.there
  clear E T7 X7 B7 o7 z7 o6 b6 z5 z6 T6 X6 B6
  go_wp2_with (first | (refine wpList_load_mid rfl 28 (.tmp 3) rfl (w.heap.size + 1 + 1) 0 rfl (prc u v a6 n6 c6) _ TT.out.range D1 D2 D3 ?_) | (refine wpList_store_mid rfl 28 (.tmp 2) (.tmp 14) rfl (w.heap.size + 1) 0 (prc u v a6 n6 c6).toArray rfl rfl XT.out D3 (prc_one _ _ _ _ _) ?_; rw [show (prc u v a6 n6 c6).toArray.toList = prc u v a6 n6 c6 from rfl, hV]))
  refine bodyPost_ret (v := .agg (prc u v a6 n6 c6).toArray) (results_mid rfl _ _ (w.heap.size + 1) (prc u v a6 n6 c6) _ rfl EE.out.1 D1 D2 D3) rfl ?_
  exact ⟨_, _, _, rfl, EE.out.2.1, EE.out.2.2⟩
end Go.Proofs.YtmfmhhopnmglcaaDoor
