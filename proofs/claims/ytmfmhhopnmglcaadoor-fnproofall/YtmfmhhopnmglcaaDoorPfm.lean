/-
  Chapter 12: ProofCut, the program's and the model's, at every argument.
-/
import Derived.Test.YtmfmhhopnmglcaaDoorPfk
import Derived.RegionTactic
namespace Go.Proofs.YtmfmhhopnmglcaaDoor
open Go.RowKit
set_option linter.unusedVariables false
set_option linter.unusedSimpArgs false
set_option maxRecDepth 20000
theorem Fp.cV_len (k : Int) (l : List Int) : (Fp.cV k l).length ≤ 20 := by
  unfold Fp.cV; split
  · rename_i h; have := Fp.sok_len (Fp.cok_iff.1 h).2.2; rw [List.length_take]; omega
  · simp
theorem Fp.cH_len (k : Int) (l : List Int) : (Fp.cH k l).length ≤ 20 := by
  unfold Fp.cH; split
  · rename_i h; have := Fp.sok_len (Fp.cok_iff.1 h).2.2; rw [List.length_drop]; omega
  · simp
theorem rps_end {w w6 : World} {g : Nat} {x y : Int} {a4 a6 : Option Addr} {n4 c4 n6 c6 : Nat} {xs zs : List Int} {f : Bool} (h : CutW w w6 g) (hg : w.heap.size ≤ g) (O4 : Own (g + 1) w6.heap.size w6 a4 n4 c4 xs) (O6 : Own (g + 1) w6.heap.size w6 a6 n6 c6 zs) :
    (w6.setCells g 0 (prc x y a6 n6 c6)).rangeAt g 0 (prc x y a6 n6 c6) ∧ NewRpS xs x y zs f w (.returned (.tuple #[.slice a4 n4 c4, .agg (prc x y a6 n6 c6).toArray, .bool f])) (w6.setCells g 0 (prc x y a6 n6 c6)) := by
  have b2 := (below_cells (Nat.le_refl g) (prc x y a6 n6 c6) 0 (Below.refl g w6)).size
  exact ⟨World.rangeAt_setCells_same _ _ _ _ h.2, _, _, _, _, _, _, rfl, (own_cells (.inl (Nat.lt_succ_self _)) _ 0 O4).more (by omega) b2, (own_cells (.inl (Nat.lt_succ_self _)) _ 0 O6).more (by omega) b2, below_cells hg _ 0 h.1⟩
/-- Where nothing is cut. -/
theorem rpb_none {w w6 : World} {g : Nat} (h : CutW w w6 g) (hg : w.heap.size ≤ g) :
    (w6.setCells g 0 (prc 0 0 none 0 0)).rangeAt g 0 (prc 0 0 none 0 0) ∧ NewRpB [] 0 0 [] false w (.returned (.tuple #[.slice none 0 0, .agg (prc 0 0 none 0 0).toArray, .bool false])) (w6.setCells g 0 (prc 0 0 none 0 0)) := by
  have b2 := below_cells hg (prc 0 0 none 0 0) 0 h.1
  exact ⟨World.rangeAt_setCells_same _ _ _ _ h.2, w.heap.size, _, _, _, _, _, _, rfl, Nat.le_refl _, b2.size, Own.nil _ _ _ _ _ (by unfold maxLen; omega), Own.nil _ _ _ _ _ (by unfold maxLen; omega), b2⟩
theorem impl_ProofCut_no (k : Int) (a : Option Addr) (n cap : Nat) (zs : List Int) (w : World) (h : Sl w a n zs) (hk : Fp.cok k zs = false) :
    Calls Tryd.prog 28 #[.int .i64 k, .slice a n cap] w (NewRpB [] 0 0 [] false w) := by
  have L := h.len
  obtain ⟨w1, hw1⟩ : ∃ w1, w.alloc (.cells #[.int .i64 0, .int .i64 0, .slice none 0 0] 28) = w1 := ⟨_, rfl⟩
  have W1 := Lib.hid (show CutW w w1 w.heap.size from ⟨by rw [← hw1]; exact (Below.refl _ _).alloc (Nat.le_refl _) _, by rw [← hw1]; exact (Tri.new w [.int .i64 0, .int .i64 0, .slice none 0 0] 28).there⟩)
  obtain ⟨d, D1, D2, D3⟩ := prf_desc
  cases ht : Fp.tk k
  · have T0 : ((Fp.tlen k : Nat) : Int) = 0 := by rw [Fp.tlen_no ht]; rfl
    clear ht hk L
    go_enter Tryd.func28, Tryd.ntmps28
    go_wp2_with fail
    clear hw1
    refine (impl_TypeLen _ _).mono ?_
    rintro e w2 ⟨rfl, b2⟩
    rw [T0]
    have W2 := Lib.hid (W1.out.keep b2)
    have E := Lib.hid (rpb_none W2.out (Nat.le_refl _))
    clear b2
    go_wp2_with (refine wpList_store_mid rfl 28 (.tmp 5) (.tmp 26) rfl w.heap.size 0 (prc 0 0 none 0 0).toArray rfl rfl W2.out.2 D3 (prc_one _ _ _ _ _) ?_)
    refine bodyPost_ret (v := .tuple #[.slice none 0 0, .agg (prc 0 0 none 0 0).toArray, .bool false]) (results_mid3 rfl _ _ w.heap.size (prc 0 0 none 0 0) _ _ _ rfl rfl rfl E.out.1 D1 D2 D3) rfl ?_
    exact E.out.2
  have t0 : ((Fp.tlen k : Int) == 0) = false := beqF (by have := Fp.tlen_pos ht; omega)
  have H := Lib.hid h
  by_cases hn : n = Fp.plen k
  · have hs : Fp.sok zs = false := by simpa [Fp.cok, ht, L, hn] using hk
    have e1 : ((n : Int) == ((Fp.plen k : Nat) : Int)) = true := beqT (by omega)
    have e2 : ((n : Int) != ((Fp.plen k : Nat) : Int)) = false := by rw [bne, e1]; rfl
    clear ht hk L hn h
    go_enter Tryd.func28, Tryd.ntmps28
    go_wp2_with fail
    clear hw1
    refine (impl_TypeLen _ _).mono ?_
    rintro e w2 ⟨rfl, b2⟩
    have W2 := Lib.hid (W1.out.keep b2)
    clear b2
    go_wp2_with fail
    refine (impl_ProofLen _ _).mono ?_
    rintro e w3 ⟨rfl, b3⟩
    have W3 := Lib.hid (W2.out.keep b3)
    have E := Lib.hid (rpb_none W3.out (Nat.le_refl _))
    clear b3
    go_wp2_with (first | (go_at_call 32; refine (impl_ShareOk _ _ _ _ _ (H.out.below W3.out.1)).mono ?_; rintro e w' ⟨rfl, rfl⟩; rw [hs]) | (refine wpList_store_mid rfl 28 (.tmp 5) (.tmp 26) rfl w.heap.size 0 (prc 0 0 none 0 0).toArray rfl rfl W3.out.2 D3 (prc_one _ _ _ _ _) ?_))
    refine bodyPost_ret (v := .tuple #[.slice none 0 0, .agg (prc 0 0 none 0 0).toArray, .bool false]) (results_mid3 rfl _ _ w.heap.size (prc 0 0 none 0 0) _ _ _ rfl rfl rfl E.out.1 D1 D2 D3) rfl ?_
    exact E.out.2
  · have e1 : ((n : Int) == ((Fp.plen k : Nat) : Int)) = false := beqF (by omega)
    have e2 : ((n : Int) != ((Fp.plen k : Nat) : Int)) = true := by rw [bne, e1]; rfl
    clear ht hk L hn h
    go_enter Tryd.func28, Tryd.ntmps28
    go_wp2_with fail
    clear hw1
    refine (impl_TypeLen _ _).mono ?_
    rintro e w2 ⟨rfl, b2⟩
    have W2 := Lib.hid (W1.out.keep b2)
    clear b2
    go_wp2_with fail
    refine (impl_ProofLen _ _).mono ?_
    rintro e w3 ⟨rfl, b3⟩
    have W3 := Lib.hid (W2.out.keep b3)
    have E := Lib.hid (rpb_none W3.out (Nat.le_refl _))
    clear b3
    go_wp2_with (refine wpList_store_mid rfl 28 (.tmp 5) (.tmp 26) rfl w.heap.size 0 (prc 0 0 none 0 0).toArray rfl rfl W3.out.2 D3 (prc_one _ _ _ _ _) ?_)
    refine bodyPost_ret (v := .tuple #[.slice none 0 0, .agg (prc 0 0 none 0 0).toArray, .bool false]) (results_mid3 rfl _ _ w.heap.size (prc 0 0 none 0 0) _ _ _ rfl rfl rfl E.out.1 D1 D2 D3) rfl ?_
    exact E.out.2
theorem impl_ProofCut (k : Int) (a : Option Addr) (n cap : Nat) (zs : List Int) (w : World) (h : Sl w a n zs) (hc : n ≤ cap) (hc' : cap ≤ maxLen) :
    Calls Tryd.prog 28 #[.int .i64 k, .slice a n cap] w (NewRpB (Fp.cV k zs) (Fp.cX k zs) (Fp.cY k zs) (Fp.cH k zs) (Fp.cok k zs) w) := by
  cases hk : Fp.cok k zs
  · obtain ⟨e1, e2, e3, e4⟩ := Fp.cut_no hk
    rw [e1, e2, e3, e4]
    exact impl_ProofCut_no k a n cap zs w h hk
  · obtain ⟨e1, e2, e3, e4⟩ := Fp.cut_yes hk
    rw [e1, e2, e3, e4]
    exact impl_ProofCut_yes k a n cap zs w h hc hc' hk
theorem spec_ProofCut_yes (k : Int) (a : Option Addr) (n cap : Nat) (zs : List Int) (w : World) (h : Sl w a n zs) (hm : n ≤ 1048576) (hc : n ≤ cap) (hc' : cap ≤ maxLen) (hk : Fp.cok k zs = true) :
    Calls Tryd.prog 31 #[.int .i64 k, .slice a n cap] w (NewRpS (zs.take (Fp.tlen k)) (zs.getD (Fp.tlen k) 0) (zs.getD (Fp.tlen k + 1) 0) (zs.drop (Fp.tlen k + 2)) true w) := by
  obtain ⟨hk1, hk2, hs⟩ := Fp.cok_iff.1 hk
  obtain ⟨w1, hw1⟩ : ∃ w1, w.alloc (.cells #[.int .i64 0, .int .i64 0, .slice none 0 0] 28) = w1 := ⟨_, rfl⟩
  have W1 := Lib.hid (show CutW w w1 w.heap.size from ⟨by rw [← hw1]; exact (Below.refl _ _).alloc (Nat.le_refl _) _, by rw [← hw1]; exact (Tri.new w [.int .i64 0, .int .i64 0, .slice none 0 0] 28).there⟩)
  obtain ⟨d, D1, D2, D3⟩ := prf_desc
  have e1 : ((n : Int) == ((Fp.plen k : Nat) : Int)) = true := beqT (by rw [← hk2, h.len])
  have e2 : ((n : Int) != ((Fp.plen k : Nat) : Int)) = false := by rw [bne, e1]; rfl
  obtain ⟨x, hx⟩ : ∃ x, zs.getD (Fp.tlen k) 0 = x := ⟨_, rfl⟩
  obtain ⟨y, hy⟩ : ∃ y, zs.getD (Fp.tlen k + 1) 0 = y := ⟨_, rfl⟩
  have H := Lib.hid (h.below W1.out.1)
  have C := Lib.hid (spec_l12Cut k a n cap zs w1 H.out hc hc' hk)
  rw [hx, hy] at C ⊢
  clear hk hk2 h hx hy
  go_enter Tryd.func31, Tryd.ntmps31
  go_wp2_with (first | (go_at_call 54; refine (spec_l11Kind _ _).mono ?_; rintro e w' ⟨rfl, rfl⟩; rw [hk1]) | (go_at_call 55; refine (spec_ShareOk _ _ _ _ _ H.out hm).mono ?_; rintro e w' ⟨rfl, rfl⟩; rw [hs]) | (go_at_call 56; refine (spec_ProofLen _ _).mono ?_; rintro e w' ⟨rfl, rfl⟩) | (go_at_call 57; fail))
  clear hw1
  refine C.out.mono ?_
  rintro e w2 ⟨a2, n2, c2, a3, n3, c3, rfl, o2, o3, b2⟩
  have W2 := W1.out.keep b2
  have z2 := W1.out.lt
  obtain ⟨A, V, hA, nt, hV, bh, rh, zh⟩ := prf_hold w2 x y a3 n3 c3 28
  have NT := Lib.hid nt
  have WV := Lib.hid (W2.keep bh)
  have E := Lib.hid (rps_end (x := x) (y := y) (f := true) (show CutW w V.drew w.heap.size from ⟨WV.out.1.drew, WV.out.2⟩) (Nat.le_refl _) ((o2.below bh).drew.more (by omega) (Nat.le_of_lt zh)) ((o3.below bh).drew.more (by omega) (Nat.le_of_lt zh)))
  have R0 : V.cell? ⟨w2.heap.size, 0, none⟩ = some (.int .i64 x) := rh 0 _ rfl
  have R1 : V.cell? ⟨w2.heap.size, 1, none⟩ = some (.int .i64 y) := rh 1 _ rfl
  have R2 : V.cell? ⟨w2.heap.size, 2, none⟩ = some (.slice a3 n3 c3) := rh 2 _ rfl
  have ne : ¬ w2.heap.size = w.heap.size := by have := b2.size; omega
  obtain ⟨-, -, -, q0, q1, q2, q3, q4, q5⟩ := cut_mk R0 R1 (show CutW V V w.heap.size from ⟨Below.refl _ _, WV.out.2⟩)
  clear o2 o3 b2 nt bh rh zh W2
  go_wp2_with (refine wpList_store_mid rfl 28 (.tmp 8) (.tmp 31) rfl w2.heap.size 0 (prc x y a3 n3 c3).toArray rfl rfl NT.out D3 (prc_one _ _ _ _ _) ?_; rw [show (prc x y a3 n3 c3).toArray.toList = prc x y a3 n3 c3 from rfl, hV])
  clear hA hV
  go_region
  all_goals
    go_wp2
    refine bodyPost_ret (v := .tuple #[.slice a2 n2 c2, .agg (prc x y a3 n3 c3).toArray, .bool true]) (results_mid3 rfl _ _ w.heap.size (prc x y a3 n3 c3) _ _ _ rfl rfl rfl E.out.1 D1 D2 D3) rfl ?_
    exact E.out.2
/-- Where nothing is cut. -/
theorem rps_none {w w6 : World} {g g' : Nat} (h : CutW w w6 g) (hg : w.heap.size ≤ g) :
    (w6.setCells g 0 (prc 0 0 none 0 0)).rangeAt g 0 (prc 0 0 none 0 0) ∧ NewRpS [] 0 0 [] false w (.returned (.tuple #[.slice (some ⟨g', 0, none⟩) 0 0, .agg (prc 0 0 none 0 0).toArray, .bool false])) (w6.setCells g 0 (prc 0 0 none 0 0)) :=
  ⟨World.rangeAt_setCells_same _ _ _ _ h.2, _, _, _, _, _, _, rfl, Own.nil _ _ _ _ _ (by unfold maxLen; omega), Own.nil _ _ _ _ _ (by unfold maxLen; omega), below_cells hg (prc 0 0 none 0 0) 0 h.1⟩
theorem spec_ProofCut_no (k : Int) (a : Option Addr) (n cap : Nat) (zs : List Int) (w : World) (h : Sl w a n zs) (hm : n ≤ 1048576) (hk : Fp.cok k zs = false) :
    Calls Tryd.prog 31 #[.int .i64 k, .slice a n cap] w (NewRpS [] 0 0 [] false w) := by
  have L := h.len
  obtain ⟨w1, hw1⟩ : ∃ w1, w.alloc (.cells #[.int .i64 0, .int .i64 0, .slice none 0 0] 28) = w1 := ⟨_, rfl⟩
  have W1 := Lib.hid (show CutW w w1 w.heap.size from ⟨by rw [← hw1]; exact (Below.refl _ _).alloc (Nat.le_refl _) _, by rw [← hw1]; exact (Tri.new w [.int .i64 0, .int .i64 0, .slice none 0 0] 28).there⟩)
  have W2 := Lib.hid (W1.out.keep ((Below.refl _ _).alloc (Nat.le_refl _) (.cells #[] 3)))
  have E := Lib.hid (rps_none (g' := w1.heap.size) W2.out (Nat.le_refl _))
  obtain ⟨d, D1, D2, D3⟩ := prf_desc
  have H := Lib.hid (h.below W1.out.1)
  have Z1 : w1.heap.size = w.heap.size + 1 := by rw [← hw1]; exact size_alloc1 _ _
  rw [Z1] at E
  cases ht : Fp.tk k
  · clear hk L h
    go_enter Tryd.func31, Tryd.ntmps31
    go_wp2_with (first | (go_at_call 54; refine (spec_l11Kind _ _).mono ?_; rintro e w' ⟨rfl, rfl⟩; rw [ht]) | (refine wpList_store_mid rfl 28 (.tmp 5) (.tmp 25) rfl w.heap.size 0 (prc 0 0 none 0 0).toArray rfl rfl W2.out.2 D3 (prc_one _ _ _ _ _) ?_))
    refine bodyPost_ret (v := .tuple #[.slice (some ⟨w.heap.size + 1, 0, none⟩) 0 0, .agg (prc 0 0 none 0 0).toArray, .bool false]) (results_mid3 rfl _ _ w.heap.size (prc 0 0 none 0 0) _ _ _ rfl rfl rfl E.out.1 D1 D2 D3) rfl ?_
    exact E.out.2
  cases hs : Fp.sok zs
  · clear hk L h
    go_enter Tryd.func31, Tryd.ntmps31
    go_wp2_with (first | (go_at_call 54; refine (spec_l11Kind _ _).mono ?_; rintro e w' ⟨rfl, rfl⟩; rw [ht]) | (go_at_call 55; refine (spec_ShareOk _ _ _ _ _ H.out hm).mono ?_; rintro e w' ⟨rfl, rfl⟩; rw [hs]) | (refine wpList_store_mid rfl 28 (.tmp 5) (.tmp 25) rfl w.heap.size 0 (prc 0 0 none 0 0).toArray rfl rfl W2.out.2 D3 (prc_one _ _ _ _ _) ?_))
    refine bodyPost_ret (v := .tuple #[.slice (some ⟨w.heap.size + 1, 0, none⟩) 0 0, .agg (prc 0 0 none 0 0).toArray, .bool false]) (results_mid3 rfl _ _ w.heap.size (prc 0 0 none 0 0) _ _ _ rfl rfl rfl E.out.1 D1 D2 D3) rfl ?_
    exact E.out.2
  have hn : n ≠ Fp.plen k := by simpa [Fp.cok, ht, hs, L] using hk
  have e1 : ((n : Int) == ((Fp.plen k : Nat) : Int)) = false := beqF (by omega)
  have e2 : ((n : Int) != ((Fp.plen k : Nat) : Int)) = true := by rw [bne, e1]; rfl
  clear hk L h hn
  go_enter Tryd.func31, Tryd.ntmps31
  go_wp2_with (first | (go_at_call 54; refine (spec_l11Kind _ _).mono ?_; rintro e w' ⟨rfl, rfl⟩; rw [ht]) | (go_at_call 55; refine (spec_ShareOk _ _ _ _ _ H.out hm).mono ?_; rintro e w' ⟨rfl, rfl⟩; rw [hs]) | (go_at_call 56; refine (spec_ProofLen _ _).mono ?_; rintro e w' ⟨rfl, rfl⟩) | (refine wpList_store_mid rfl 28 (.tmp 5) (.tmp 25) rfl w.heap.size 0 (prc 0 0 none 0 0).toArray rfl rfl W2.out.2 D3 (prc_one _ _ _ _ _) ?_))
  refine bodyPost_ret (v := .tuple #[.slice (some ⟨w.heap.size + 1, 0, none⟩) 0 0, .agg (prc 0 0 none 0 0).toArray, .bool false]) (results_mid3 rfl _ _ w.heap.size (prc 0 0 none 0 0) _ _ _ rfl rfl rfl E.out.1 D1 D2 D3) rfl ?_
  exact E.out.2
theorem spec_ProofCut (k : Int) (a : Option Addr) (n cap : Nat) (zs : List Int) (w : World) (h : Sl w a n zs) (hm : n ≤ 1048576) (hc : n ≤ cap) (hc' : cap ≤ maxLen) :
    Calls Tryd.prog 31 #[.int .i64 k, .slice a n cap] w (NewRpS (Fp.cV k zs) (Fp.cX k zs) (Fp.cY k zs) (Fp.cH k zs) (Fp.cok k zs) w) := by
  cases hk : Fp.cok k zs
  · obtain ⟨e1, e2, e3, e4⟩ := Fp.cut_no hk
    rw [e1, e2, e3, e4]
    exact spec_ProofCut_no k a n cap zs w h hm hk
  · obtain ⟨e1, e2, e3, e4⟩ := Fp.cut_yes hk
    rw [e1, e2, e3, e4]
    exact spec_ProofCut_yes k a n cap zs w h hm hc hc' hk
end Go.Proofs.YtmfmhhopnmglcaaDoor
