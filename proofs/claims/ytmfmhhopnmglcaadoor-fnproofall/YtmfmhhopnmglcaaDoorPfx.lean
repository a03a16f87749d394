/-
  Chapter 12: words for a proof that is returned.
-/
import Derived.Test.YtmfmhhopnmglcaaDoorPfs
import Derived.Test.YtmfmhhopnmglcaaDoorPft
namespace Go.Proofs.YtmfmhhopnmglcaaDoor
open Go.RowKit
set_option linter.unusedVariables false
set_option linter.unusedSimpArgs false
set_option maxRecDepth 20000
theorem spec_l12Make (a : Option Addr) (n cap : Nat) (zs : List Int) (u v : Int) (w : World) (h : Sl w a n zs) (hz : Fp.sok zs = true) (hn : n ≤ 4) (hu : Fp.ok u = true) (hv : Fp.ok v = true) :
    Calls Tryd.prog 38 #[.slice a n cap, .int .i64 u, .int .i64 v] w (NewPrf u v (Fp.prf zs u v) w) := by
  have H := Lib.hid h
  have L := Lib.hid h.len
  have P1 := Lib.hid (Fp.less_pok (c := 0) hu (show zs.length ≤ 8 by rw [h.len]; omega))
  have P2 := Lib.hid (Fp.less_pok (c := 1) hv (show zs.length ≤ 8 by rw [h.len]; omega))
  have Z := Lib.hid hz
  clear h hz
  obtain ⟨d, D1, D2, D3⟩ := prf_desc
  go_enter Tryd.func38, Tryd.ntmps38
  obtain ⟨w1, hw1⟩ : ∃ w1, w.alloc (.cells #[.int .i64 0, .int .i64 0, .slice none 0 0] 28) = w1 := ⟨_, rfl⟩
  have B1 := Lib.hid (show Below w.heap.size w w1 by rw [← hw1]; exact (Below.refl _ _).alloc (Nat.le_refl _) _)
  have Z1 : w1.heap.size = w.heap.size + 1 := by rw [← hw1]; exact size_alloc1 _ _
  have T1 := Lib.hid (show Tri w1 w.heap.size [.int .i64 0, .int .i64 0, .slice none 0 0] 28 by rw [← hw1]; exact Tri.new _ _ _)
  go_wp2_with fail
  clear hw1
  refine (spec_l12First _ _ _ _ _ _ (H.out.below B1.out) (by omega)).mono ?_
  rintro e w2 ⟨a2, n2, c2, rfl, o2, b2⟩
  have Z2 := b2.size
  have O2 := Lib.hid o2
  have B2 := Lib.hid b2
  clear o2 b2
  go_wp2_with fail
  refine (spec_l2Through _ _ _ _ _ O2.out.sl (by rw [← Fp.less_zero Z.out]; exact P1.out)).mono ?_
  rintro e w3 ⟨a3, n3, c3, rfl, o3, b3⟩
  have Z3 := b3.size
  have O3 := Lib.hid o3
  have B3 := Lib.hid (B2.out.trans (b3.mono Z2))
  clear o3 b3 B2
  go_wp2_with fail
  refine (spec_l12Second _ _ _ _ _ _ (H.out.below (B1.out.trans (B3.out.mono B1.out.size))) Z.out (by omega)).mono ?_
  rintro e w4 ⟨a4, n4, c4, rfl, o4, b4⟩
  have Z4 := b4.size
  have O4 := Lib.hid o4
  have O3' := Lib.hid (O3.out.below b4)
  have B4 := Lib.hid (B3.out.trans (b4.mono (by omega)))
  clear o4 b4 B3 O3
  go_wp2_with fail
  refine (spec_l2Through _ _ _ _ _ O4.out.sl P2.out).mono ?_
  rintro e w5 ⟨a5, n5, c5, rfl, o5, b5⟩
  have Z5 := b5.size
  have O5 := Lib.hid o5
  have O3 := Lib.hid (O3'.out.below b5)
  have B5 := Lib.hid (B4.out.trans (b5.mono (by omega)))
  have l3 := O3.out.len
  have l5 := O5.out.len
  have l0 := L.out
  simp only [Fp.thr_len, List.length_cons, Fp.less_len] at l3 l5
  clear o5 b5 B4 O3' O4
  go_wp2_with fail
  refine (spec_l2Mul _ _ _ _ _ _ _ _ _ O3.out.sl O5.out.sl (Fp.thr_get _) (Fp.thr_get _) (by omega) (by omega)).mono ?_
  rintro e w6 ⟨a6, n6, c6, rfl, o6, b6⟩
  have Z6 := b6.size
  have B6 := Lib.hid (B5.out.trans (b6.mono (by omega)))
  have T6 := Lib.hid (T1.out.below B6.out (by omega))
  have E := Lib.hid (prf_end (u := u) (v := v) T6.out rfl o6 (by omega) (Nat.le_refl _) (B1.out.trans (B6.out.mono (by omega))))
  clear o6 b6 B5 T1 O3 O5 B6
  go_wp2_with (refine wpList_store_mid rfl 28 (.tmp 6) (.tmp 18) rfl w.heap.size 0 (prc u v a6 n6 c6).toArray rfl rfl T6.out.there D3 (prc_one _ _ _ _ _) ?_)
  refine bodyPost_ret (v := .agg (prc u v a6 n6 c6).toArray) (results_mid rfl _ _ w.heap.size (prc u v a6 n6 c6) _ rfl E.out.1 D1 D2 D3) rfl ?_
  have F : Fp.prf zs u v = Fp.mulL (Fp.thr (u :: zs)) (Fp.thr (v :: Fp.less 1 zs)) := by rw [Fp.prf, Fp.less_zero Z.out]
  exact ⟨_, _, _, rfl, by rw [F]; exact E.out.2.1, E.out.2.2⟩
theorem spec_ProofMake_no (k : Int) (a : Option Addr) (n cap : Nat) (zs : List Int) (u v : Int) (w : World) (h : Sl w a n zs) (hm : n ≤ 1048576) (hc : Fp.pcan k zs u v = false) :
    Calls Tryd.prog 72 #[.int .i64 k, .slice a n cap, .int .i64 u, .int .i64 v] w (NewPrfB 0 0 [] false w) := by
  obtain ⟨w1, hw1⟩ : ∃ w1, w.alloc (.cells #[.int .i64 0, .int .i64 0, .slice none 0 0] 28) = w1 := ⟨_, rfl⟩
  have B1 := Lib.hid (show Below w.heap.size w w1 by rw [← hw1]; exact (Below.refl _ _).alloc (Nat.le_refl _) _)
  have Z1 : w1.heap.size = w.heap.size + 1 := by rw [← hw1]; exact size_alloc1 _ _
  have T1 := Lib.hid (show Tri w1 w.heap.size [.int .i64 0, .int .i64 0, .slice none 0 0] 28 by rw [← hw1]; exact Tri.new _ _ _)
  have H := Lib.hid (h.below B1.out)
  have E := Lib.hid (prf_end (u := 0) (v := 0) T1.out rfl (Own.nil w1.heap.size w1.heap.size w1 none 0 (by unfold maxLen; omega)) (by omega) (Nat.le_refl _) B1.out)
  clear h
  obtain ⟨d, D1, D2, D3⟩ := prf_desc
  cases hv : Fp.tvec k zs
  · clear hc
    go_enter Tryd.func72, Tryd.ntmps72
    go_wp2_with (first | (go_at_call 35; refine (spec_l11Vec _ _ _ _ _ _ H.out hm).mono ?_; rintro e w' ⟨rfl, rfl⟩; rw [hv]) | (refine wpList_store_mid rfl 28 (.tmp 8) (.tmp 24) rfl w.heap.size 0 (prc 0 0 none 0 0).toArray rfl rfl T1.out.there D3 (prc_one _ _ _ _ _) ?_))
    refine bodyPost_ret (v := .tuple #[.agg (prc 0 0 none 0 0).toArray, .bool false]) (results_mid2 rfl _ _ w.heap.size (prc 0 0 none 0 0) _ _ rfl rfl E.out.1 D1 D2 D3) rfl ?_
    exact ⟨_, _, _, rfl, E.out.2.1, E.out.2.2⟩
  cases hu : Fp.ok u
  · clear hc
    go_enter Tryd.func72, Tryd.ntmps72
    go_wp2_with (first | (go_at_call 35; refine (spec_l11Vec _ _ _ _ _ _ H.out hm).mono ?_; rintro e w' ⟨rfl, rfl⟩; rw [hv]) | (go_at_call 58; (with_reducible refine (spec_FieldOk _ _).mono ?_); rintro e w' ⟨rfl, rfl⟩) | (refine wpList_store_mid rfl 28 (.tmp 8) (.tmp 24) rfl w.heap.size 0 (prc 0 0 none 0 0).toArray rfl rfl T1.out.there D3 (prc_one _ _ _ _ _) ?_))
    refine bodyPost_ret (v := .tuple #[.agg (prc 0 0 none 0 0).toArray, .bool false]) (results_mid2 rfl _ _ w.heap.size (prc 0 0 none 0 0) _ _ rfl rfl E.out.1 D1 D2 D3) rfl ?_
    exact ⟨_, _, _, rfl, E.out.2.1, E.out.2.2⟩
  have hw : Fp.ok v = false := by simpa [Fp.pcan, hv, hu] using hc
  clear hc
  go_enter Tryd.func72, Tryd.ntmps72
  go_wp2_with (first | (go_at_call 35; refine (spec_l11Vec _ _ _ _ _ _ H.out hm).mono ?_; rintro e w' ⟨rfl, rfl⟩; rw [hv]) | (go_at_call 58; (with_reducible refine (spec_FieldOk _ _).mono ?_); rintro e w' ⟨rfl, rfl⟩) | (refine wpList_store_mid rfl 28 (.tmp 8) (.tmp 24) rfl w.heap.size 0 (prc 0 0 none 0 0).toArray rfl rfl T1.out.there D3 (prc_one _ _ _ _ _) ?_))
  refine bodyPost_ret (v := .tuple #[.agg (prc 0 0 none 0 0).toArray, .bool false]) (results_mid2 rfl _ _ w.heap.size (prc 0 0 none 0 0) _ _ rfl rfl E.out.1 D1 D2 D3) rfl ?_
  exact ⟨_, _, _, rfl, E.out.2.1, E.out.2.2⟩
theorem spec_ProofMake (k : Int) (a : Option Addr) (n cap : Nat) (zs : List Int) (u v : Int) (w : World) (h : Sl w a n zs) (hm : n ≤ 1048576) :
    Calls Tryd.prog 72 #[.int .i64 k, .slice a n cap, .int .i64 u, .int .i64 v] w (NewPrfB (Fp.pU k zs u v) (Fp.pV k zs u v) (Fp.pH k zs u v) (Fp.pcan k zs u v) w) := by
  cases hc : Fp.pcan k zs u v
  · obtain ⟨e1, e2, e3⟩ := Fp.pH_no hc
    rw [e1, e2, e3]
    exact spec_ProofMake_no k a n cap zs u v w h hm hc
  obtain ⟨e1, e2, e3⟩ := Fp.pH_yes hc
  rw [e1, e2, e3]
  clear e1 e2 e3
  obtain ⟨hv, hu, hw⟩ := Fp.pcan_iff.1 hc
  have hs := (Fp.tvec_iff.1 hv).2.1
  have h4 : n ≤ 4 := by rw [← h.len]; exact Fp.tvec_len hv
  clear hc
  obtain ⟨w1, hw1⟩ : ∃ w1, w.alloc (.cells #[.int .i64 0, .int .i64 0, .slice none 0 0] 28) = w1 := ⟨_, rfl⟩
  have B1 := Lib.hid (show Below w.heap.size w w1 by rw [← hw1]; exact (Below.refl _ _).alloc (Nat.le_refl _) _)
  have Z1 : w1.heap.size = w.heap.size + 1 := by rw [← hw1]; exact size_alloc1 _ _
  have T1 := Lib.hid (show Tri w1 w.heap.size [.int .i64 0, .int .i64 0, .slice none 0 0] 28 by rw [← hw1]; exact Tri.new _ _ _)
  have H := Lib.hid (h.below B1.out)
  clear h
  obtain ⟨d, D1, D2, D3⟩ := prf_desc
  go_enter Tryd.func72, Tryd.ntmps72
  go_wp2_with (first | (go_at_call 35; refine (spec_l11Vec _ _ _ _ _ _ H.out hm).mono ?_; rintro e w' ⟨rfl, rfl⟩; rw [hv]) | (go_at_call 58; (with_reducible refine (spec_FieldOk _ _).mono ?_); rintro e w' ⟨rfl, rfl⟩) | (go_at_call 38; fail))
  clear hw1
  refine (spec_l12Make _ _ _ _ _ _ _ H.out hs h4 hu hw).mono ?_
  rintro e w6 ⟨a6, n6, c6, rfl, o6, b6⟩
  have Z6 := b6.size
  have T6 := Lib.hid (T1.out.below b6 (by omega))
  have E := Lib.hid (prf_end (u := u) (v := v) T6.out rfl o6 (by omega) (Nat.le_refl _) (B1.out.trans (b6.mono (by omega))))
  clear o6 b6 T1
  go_wp2_with (refine wpList_store_mid rfl 28 (.tmp 8) (.tmp 28) rfl w.heap.size 0 (prc u v a6 n6 c6).toArray rfl rfl T6.out.there D3 (prc_one _ _ _ _ _) ?_)
  refine bodyPost_ret (v := .tuple #[.agg (prc u v a6 n6 c6).toArray, .bool true]) (results_mid2 rfl _ _ w.heap.size (prc u v a6 n6 c6) _ _ rfl rfl E.out.1 D1 D2 D3) rfl ?_
  exact ⟨_, _, _, rfl, E.out.2.1, E.out.2.2⟩
end Go.Proofs.YtmfmhhopnmglcaaDoor
