/-
  Chapter 12: the program's ProofMake.
-/
import Derived.Test.YtmfmhhopnmglcaaDoorPf
import Derived.Test.YtmfmhhopnmglcaaDoorPft
namespace Go.Proofs.YtmfmhhopnmglcaaDoor
open Go.RowKit
set_option linter.unusedVariables false
set_option linter.unusedSimpArgs false
set_option maxRecDepth 20000
theorem impl_prove (a : Option Addr) (n cap : Nat) (zs : List Int) (u v : Int) (w : World) (h : Sl w a n zs) (hz : Fp.sok zs = true) (hn : n ≤ 4) (hu : Fp.ok u = true) (hv : Fp.ok v = true) :
    Calls Tryd.prog 42 #[.slice a n cap, .agg #[.int .i64 u, .int .i64 v]] w (NewPrf u v (Fp.prf zs u v) w) := by
  have L := Lib.hid h.len
  obtain ⟨w0, hw0⟩ : ∃ w0, w.alloc (.cells #[.int .i64 u, .int .i64 v] 56) = w0 := ⟨_, rfl⟩
  have B0 := Lib.hid (show Below w.heap.size w w0 by rw [← hw0]; exact (Below.refl _ _).alloc (Nat.le_refl _) _)
  have Z0 : w0.heap.size = w.heap.size + 1 := by rw [← hw0]; exact size_alloc1 _ _
  have T0 := Lib.hid (show Tri w0 w.heap.size [.int .i64 u, .int .i64 v] 56 by rw [← hw0]; exact Tri.new _ _ _)
  obtain ⟨w1, hw1⟩ : ∃ w1, w0.alloc (.cells #[.int .i64 0, .int .i64 0, .slice none 0 0] 58) = w1 := ⟨_, rfl⟩
  have B1' : Below w0.heap.size w0 w1 := by rw [← hw1]; exact (Below.refl _ _).alloc (Nat.le_refl _) _
  have B1 := Lib.hid (B0.out.trans (B1'.mono (by omega)))
  have Z1 : w1.heap.size = w.heap.size + 1 + 1 := by rw [← hw1, size_alloc1, Z0]
  have T1 := Lib.hid (show Tri w1 (w.heap.size + 1) [.int .i64 0, .int .i64 0, .slice none 0 0] 58 by rw [← hw1, ← Z0]; exact Tri.new _ _ _)
  have U1 := Lib.hid (T0.out.below B1' (by omega))
  have C1 : w1.cell? ⟨w.heap.size, 0, none⟩ = some (.int .i64 u) := U1.out.at_ 0
  have H := Lib.hid (h.below B1.out)
  have Z := Lib.hid hz
  clear h hz T0 B0 B1'
  obtain ⟨d, D1, D2, D3⟩ := prf_desc'
  obtain ⟨d', D1', D2', D3'⟩ := pair_desc
  go_enter Tryd.func42, Tryd.ntmps42
  go_wp2_with fail
  clear hw1 hw0
  refine (impl_through _ _ _ _ _ _ _ H.out hu rfl Z.out (by omega)).mono ?_
  rintro e w2 ⟨a2, n2, c2, rfl, o2, b2⟩
  have Z2 := b2.size
  have O2 := Lib.hid o2
  have B2 := Lib.hid b2
  have C2 : w2.cell? ⟨w.heap.size, 1, none⟩ = some (.int .i64 v) := (U1.out.below b2 (by omega)).at_ 1
  have H2 := Lib.hid (H.out.below b2)
  clear o2 b2 C1
  go_wp2_with fail
  refine (impl_through _ _ _ _ _ _ _ H2.out hv rfl Z.out (by omega)).mono ?_
  rintro e w3 ⟨a3, n3, c3, rfl, o3, b3⟩
  have Z3 := b3.size
  have O3 := Lib.hid o3
  have O2' := Lib.hid (O2.out.below b3)
  have B3 := Lib.hid (B2.out.trans (b3.mono Z2))
  have l2 := O2'.out.len
  have l3 := O3.out.len
  have l0 := L.out
  simp only [Fp.thr_len, List.length_cons, Fp.less_len] at l2 l3
  have P2 := Lib.hid (Fp.thr_pok (vals := u :: Fp.less 0 zs) (by simp [Fp.less_len]; omega))
  have P3 := Lib.hid (Fp.thr_pok (vals := v :: Fp.less 1 zs) (by simp [Fp.less_len]; omega))
  clear o3 b3 C2 O2 B2 H2
  go_wp2_with fail
  refine (impl_PolyMul_yes _ _ _ _ _ _ _ _ _ O2'.out.sl O3.out.sl P2.out P3.out (by omega) (by omega) (by omega)).mono ?_
  rintro e w6 ⟨a6, n6, c6, rfl, o6, b6⟩
  have Z6 := b6.size
  have B6 := Lib.hid (B3.out.trans (b6.mono (by omega)))
  have T6 := Lib.hid (T1.out.below B6.out (by omega))
  have U6 := Lib.hid (U1.out.below B6.out (by omega))
  have E := Lib.hid (prf_end (u := u) (v := v) (w := w) T6.out rfl o6 (by omega) (Nat.le_refl _) (B1.out.trans (B6.out.mono (by omega))) (by omega))
  clear o6 b6 B3 T1 O3 O2' B6 U1
  go_wp2_with (first | (refine wpList_load_mid rfl 56 (.tmp 3) rfl w.heap.size 0 rfl [.int .i64 u, .int .i64 v] _ U6.out.range D1' D2' D3' ?_) | (refine wpList_store_mid rfl 58 (.tmp 4) (.tmp 25) rfl (w.heap.size + 1) 0 (prc u v a6 n6 c6).toArray rfl rfl T6.out.there D3 (prc_one _ _ _ _ _) ?_))
  refine bodyPost_ret (v := .agg (prc u v a6 n6 c6).toArray) (results_mid rfl _ _ (w.heap.size + 1) (prc u v a6 n6 c6) _ rfl E.out.1 D1 D2 D3) rfl ?_
  exact ⟨_, _, _, rfl, E.out.2.1, E.out.2.2⟩
theorem impl_ProofMake_no (k : Int) (a : Option Addr) (n cap : Nat) (zs : List Int) (u v : Int) (w : World) (h : Sl w a n zs) (hc : Fp.pcan k zs u v = false) :
    Calls Tryd.prog 22 #[.int .i64 k, .slice a n cap, .int .i64 u, .int .i64 v] w (NewPrfB 0 0 [] false w) := by
  obtain ⟨w1, hw1⟩ : ∃ w1, w.alloc (.cells #[.int .i64 0, .int .i64 0, .slice none 0 0] 28) = w1 := ⟨_, rfl⟩
  have B1 := Lib.hid (show Below w.heap.size w w1 by rw [← hw1]; exact (Below.refl _ _).alloc (Nat.le_refl _) _)
  have Z1 : w1.heap.size = w.heap.size + 1 := by rw [← hw1]; exact size_alloc1 _ _
  have T1 := Lib.hid (show Tri w1 w.heap.size [.int .i64 0, .int .i64 0, .slice none 0 0] 28 by rw [← hw1]; exact Tri.new _ _ _)
  have H := Lib.hid (h.below B1.out)
  clear h
  obtain ⟨d, D1, D2, D3⟩ := prf_desc
  cases hv : Fp.tvec k zs
  · clear hc
    go_enter Tryd.func22, Tryd.ntmps22
    go_wp2_with fail
    clear hw1
    refine (impl_fits _ _ _ _ _ _ H.out).mono ?_
    rintro e w2 ⟨rfl, b2⟩
    rw [hv]
    have Z2 := b2.size
    have T2 := Lib.hid (T1.out.below b2 (by omega))
    have E := Lib.hid (prf_end (u := 0) (v := 0) (w := w) T2.out rfl (Own.nil w2.heap.size w2.heap.size w2 none 0 (by unfold maxLen; omega)) (by omega) (Nat.le_refl _) (B1.out.trans (b2.mono (by omega))))
    clear b2
    go_wp2_with (first | (refine wpList_store_mid rfl 28 (.tmp 8) (.tmp 25) rfl w.heap.size 0 (prc 0 0 none 0 0).toArray rfl rfl T2.out.there D3 (prc_one _ _ _ _ _) ?_))
    refine bodyPost_ret (v := .tuple #[.agg (prc 0 0 none 0 0).toArray, .bool false]) (results_mid2 rfl _ _ w.heap.size (prc 0 0 none 0 0) _ _ rfl rfl E.out.1 D1 D2 D3) rfl ?_
    exact ⟨_, _, _, rfl, E.out.2.1, E.out.2.2⟩
  cases hu : Fp.ok u
  · clear hc
    go_enter Tryd.func22, Tryd.ntmps22
    go_wp2_with fail
    clear hw1
    refine (impl_fits _ _ _ _ _ _ H.out).mono ?_
    rintro e w2 ⟨rfl, b2⟩
    rw [hv]
    have Z2 := b2.size
    have T2 := Lib.hid (T1.out.below b2 (by omega))
    have E := Lib.hid (prf_end (u := 0) (v := 0) (w := w) T2.out rfl (Own.nil w2.heap.size w2.heap.size w2 none 0 (by unfold maxLen; omega)) (by omega) (Nat.le_refl _) (B1.out.trans (b2.mono (by omega))))
    clear b2
    go_wp2_with (first | (go_at_call 48; (with_reducible refine (impl_FieldOk _ _).mono ?_); rintro e w' ⟨rfl, rfl⟩) | (refine wpList_store_mid rfl 28 (.tmp 8) (.tmp 25) rfl w.heap.size 0 (prc 0 0 none 0 0).toArray rfl rfl T2.out.there D3 (prc_one _ _ _ _ _) ?_))
    refine bodyPost_ret (v := .tuple #[.agg (prc 0 0 none 0 0).toArray, .bool false]) (results_mid2 rfl _ _ w.heap.size (prc 0 0 none 0 0) _ _ rfl rfl E.out.1 D1 D2 D3) rfl ?_
    exact ⟨_, _, _, rfl, E.out.2.1, E.out.2.2⟩
  have hw : Fp.ok v = false := by simpa [Fp.pcan, hv, hu] using hc
  clear hc
  go_enter Tryd.func22, Tryd.ntmps22
  go_wp2_with fail
  clear hw1
  refine (impl_fits _ _ _ _ _ _ H.out).mono ?_
  rintro e w2 ⟨rfl, b2⟩
  rw [hv]
  have Z2 := b2.size
  have T2 := Lib.hid (T1.out.below b2 (by omega))
  have E := Lib.hid (prf_end (u := 0) (v := 0) (w := w) T2.out rfl (Own.nil w2.heap.size w2.heap.size w2 none 0 (by unfold maxLen; omega)) (by omega) (Nat.le_refl _) (B1.out.trans (b2.mono (by omega))))
  clear b2
  go_wp2_with (first | (go_at_call 48; (with_reducible refine (impl_FieldOk _ _).mono ?_); rintro e w' ⟨rfl, rfl⟩) | (refine wpList_store_mid rfl 28 (.tmp 8) (.tmp 25) rfl w.heap.size 0 (prc 0 0 none 0 0).toArray rfl rfl T2.out.there D3 (prc_one _ _ _ _ _) ?_))
  refine bodyPost_ret (v := .tuple #[.agg (prc 0 0 none 0 0).toArray, .bool false]) (results_mid2 rfl _ _ w.heap.size (prc 0 0 none 0 0) _ _ rfl rfl E.out.1 D1 D2 D3) rfl ?_
  exact ⟨_, _, _, rfl, E.out.2.1, E.out.2.2⟩
theorem impl_ProofMake (k : Int) (a : Option Addr) (n cap : Nat) (zs : List Int) (u v : Int) (w : World) (h : Sl w a n zs) :
    Calls Tryd.prog 22 #[.int .i64 k, .slice a n cap, .int .i64 u, .int .i64 v] w (NewPrfB (Fp.pU k zs u v) (Fp.pV k zs u v) (Fp.pH k zs u v) (Fp.pcan k zs u v) w) := by
  cases hc : Fp.pcan k zs u v
  · obtain ⟨e1, e2, e3⟩ := Fp.pH_no hc
    rw [e1, e2, e3]
    exact impl_ProofMake_no k a n cap zs u v w h hc
  obtain ⟨e1, e2, e3⟩ := Fp.pH_yes hc
  rw [e1, e2, e3]
  clear e1 e2 e3
  obtain ⟨hv, hu, hw⟩ := Fp.pcan_iff.1 hc
  have hs := (Fp.tvec_iff.1 hv).2.1
  have h4 : n ≤ 4 := by rw [← h.len]; exact Fp.tvec_len hv
  clear hc
  obtain ⟨w1, hw1⟩ : ∃ w1, w.alloc (.cells #[.int .i64 0, .int .i64 0, .slice none 0 0] 28) = w1 := ⟨_, rfl⟩
  have B1 := Lib.hid (show Below w.heap.size w w1 by rw [← hw1]; exact (Below.refl _ _).alloc (Nat.le_refl _) _)
  have Z1 : w1.heap.size = w.heap.size + 1 := by rw [← hw1]; exact size_alloc1 _ _
  have T1 := Lib.hid (show Tri w1 w.heap.size [.int .i64 0, .int .i64 0, .slice none 0 0] 28 by rw [← hw1]; exact Tri.new _ _ _)
  have H := Lib.hid (h.below B1.out)
  clear h
  obtain ⟨d, D1, D2, D3⟩ := prf_desc
  obtain ⟨d', D1', D2', D3'⟩ := prf_desc'
  go_enter Tryd.func22, Tryd.ntmps22
  go_wp2_with fail
  clear hw1
  refine (impl_fits _ _ _ _ _ _ H.out).mono ?_
  rintro e w2 ⟨rfl, b2⟩
  rw [hv]
  have Z2 := b2.size
  have T2 := Lib.hid (T1.out.below b2 (by omega))
  have H2 := Lib.hid (H.out.below b2)
  have B2 := Lib.hid (B1.out.trans (b2.mono (by omega)))
  clear b2 T1 H B1
  go_wp2_with (first | (go_at_call 48; (with_reducible refine (impl_FieldOk _ _).mono ?_); rintro e w' ⟨rfl, rfl⟩) | (go_at_call 42; fail))
  refine (impl_prove _ _ _ _ _ _ _ H2.out hs h4 hu hw).mono ?_
  rintro e w6 ⟨a6, n6, c6, rfl, o6, b6⟩
  obtain ⟨w7, hw7⟩ : ∃ w7, w6.alloc (.cells #[.int .i64 0, .int .i64 0, .slice none 0 0] 58) = w7 := ⟨_, rfl⟩
  obtain ⟨w8, hw8⟩ : ∃ w8, w7.setCells w6.heap.size 0 (prc u v a6 n6 c6) = w8 := ⟨_, rfl⟩
  have T7 := Lib.hid (show Tri w7 w6.heap.size [.int .i64 0, .int .i64 0, .slice none 0 0] 58 by rw [← hw7]; exact Tri.new _ _ _)
  have Z6 := b6.size
  have B7 : Below w6.heap.size w6 w7 := by rw [← hw7]; exact (Below.refl _ _).alloc (Nat.le_refl _) _
  have B8 : Below w6.heap.size w6 w8 := by rw [← hw8]; exact below_cells (Nat.le_refl _) _ 0 B7
  have R8 : w8.rangeAt w6.heap.size 0 (prc u v a6 n6 c6) := by rw [← hw8]; exact World.rangeAt_setCells_same _ _ _ _ T7.out.there
  have C0 : w8.cell? ⟨w6.heap.size, 0, none⟩ = some (.int .i64 u) := R8 0 _ rfl
  have C1 : w8.cell? ⟨w6.heap.size, 1, none⟩ = some (.int .i64 v) := R8 1 _ rfl
  have C2 : w8.cell? ⟨w6.heap.size, 2, none⟩ = some (.slice a6 n6 c6) := R8 2 _ rfl
  have Z8 := B8.size
  have T8 := Lib.hid ((T2.out.below b6 (by omega)).below B8 (by omega))
  have E := Lib.hid (prf_end (u := u) (v := v) (w := w) T8.out rfl (o6.below B8) (by omega) B8.size (B2.out.trans ((b6.mono (by omega)).trans (B8.mono (by omega)))))
  clear o6 b6 B7 B8 R8
  go_wp2_with (first | (refine wpList_store_mid rfl 58 (.tmp 10) (.tmp 30) rfl w6.heap.size 0 (prc u v a6 n6 c6).toArray rfl rfl T7.out.there D3' (prc_one _ _ _ _ _) ?_; rw [show (prc u v a6 n6 c6).toArray.toList = prc u v a6 n6 c6 from rfl, hw8]) | (refine wpList_store_mid rfl 28 (.tmp 8) (.tmp 39) rfl w.heap.size 0 (prc u v a6 n6 c6).toArray rfl rfl T8.out.there D3 (prc_one _ _ _ _ _) ?_))
  refine bodyPost_ret (v := .tuple #[.agg (prc u v a6 n6 c6).toArray, .bool true]) (results_mid2 rfl _ _ w.heap.size (prc u v a6 n6 c6) _ _ rfl rfl E.out.1 D1 D2 D3) rfl ?_
  exact ⟨_, _, _, rfl, E.out.2.1, E.out.2.2⟩
end Go.Proofs.YtmfmhhopnmglcaaDoor
