/-
  Chapter 31: the model's drawing of a fraction that may be none.
-/
import Derived.Test.YtigeffgehckbpabFrg
import Derived.Test.YtigeffgehckbpabLej
import Derived.Deep.RegionLaw
namespace Go.Proofs.Ytigeffgehckbpab
open Go.RowKit
set_option linter.unusedVariables false
set_option linter.unusedSimpArgs false
set_option maxRecDepth 20000
/-- One of four. -/
theorem pick4 (a b c d : Int) {i : Nat} (hi : i < 4) : ∃ z : Int, (#[Value.int .i64 a, Value.int .i64 b, Value.int .i64 c, Value.int .i64 d] : Array Value)[i]? = some (.int .i64 z) := by
  have : i = 0 ∨ i = 1 ∨ i = 2 ∨ i = 3 := by omega
  rcases this with rfl | rfl | rfl | rfl
  · exact ⟨a, rfl⟩
  · exact ⟨b, rfl⟩
  · exact ⟨c, rfl⟩
  · exact ⟨d, rfl⟩
theorem cell4 (W : World) (vs : Array Value) (t : TypeId) (i : Nat) : (W.alloc (.cells vs t)).cell? ⟨W.heap.size, i, none⟩ = vs[i]? := by simp
theorem cell4o (W : World) (vs : Array Value) (t : TypeId) (i : Nat) (o : Obj) : ((W.alloc (.cells vs t)).alloc o).cell? ⟨W.heap.size, i, none⟩ = vs[i]? := by
  rw [(bel_box (W.alloc (.cells vs t)) o).cell (p := ⟨W.heap.size, i, none⟩) (by simp), cell4]
theorem cellk {b : Nat} {W V : World} {g i : Nat} {x : Value} (k : Kb b W V) (h : W.cell? ⟨g, i, none⟩ = some x) (hg : g ≠ b) : V.cell? ⟨g, i, none⟩ = some x := (k.cell (p := ⟨g, i, none⟩) (cell_lt h) hg).trans h
theorem cello {W : World} {g i : Nat} {x : Value} (h : W.cell? ⟨g, i, none⟩ = some x) (o : Obj) : (W.alloc o).cell? ⟨g, i, none⟩ = some x := cell_later (bel_box W o) h
theorem duo_o {W : World} {g : Nat} {x y : Value} {t : TypeId} (h : Tri W g [x, y] t) (o : Obj) : (W.alloc o).cell? ⟨g, 0, none⟩ = some x ∧ (W.alloc o).cell? ⟨g, 1, none⟩ = some y ∧ (W.alloc o).frozen? ⟨g, 0, none⟩ = false ∧ (W.alloc o).frozen? ⟨g, 1, none⟩ = false := duo_at (tri_moreB h (bel_box W o))
set_option maxHeartbeats 8000000 in
theorem spec_DrawFracOk (a : Option Addr) (len cap : Nat) (w : World) (hb : Bys w.heap.size w a len) (hc : len ≤ cap) (hm : cap ≤ maxLen) :
    Calls Try.prog 29 #[.slice a len cap] w (fun e w' => ∃ x y : Int, e = .returned (.agg #[.int .i64 x, .int .i64 y]) ∧ Below w.heap.size w w') := by
  obtain ⟨w1, hw1, Z1, B1, T1⟩ := duo_box w 0 0 24
  have HB := Lib.hid (hb.below B1)
  have T := Lib.hid T1
  have B := Lib.hid B1
  clear hb B1 T1
  go_enter Try.func29, Try.ntmps29
  go_wp2_with fail
  refine (spec_l6Open w.heap.size a len cap w1 (by omega) HB.out hc hm).mono ?_
  rintro e w3 ⟨rfl, r3, b3, s3⟩
  rw [Z1] at r3
  have R3 := Lib.hid r3
  have T3 := Lib.hid (T.out.below b3 (by omega))
  have B3 := Lib.hid (B.out.trans (b3.mono (by omega)))
  have y3 : w.heap.size + 1 < w3.heap.size := by omega
  clear r3 b3 hw1 T B s3
  have HU := fun (W : World) (vs : Array Value) (t : TypeId) (i : Nat) (o : Obj) => cell4o W vs t i o
  go_wp2
  go_region_law (first | ((try go_simp); go_at_call 47; have gg := r7; clear gg; refine (spec_pick w.heap.size (w.heap.size + 1) (0 + 1 + 1 + 1) 4 _ (by first | exact r7 | exact r7.keep (bel_box _ _) | exact (r7.keep (bel_box _ _)).keep (bel_box _ _)) (by omega)).mono ?_; rintro e w8 ⟨v4, ⟨p7, p8, -⟩, rfl, r8, k8, s8⟩; clear s8; have p9 := p8 (by omega); obtain ⟨m4, rfl⟩ := Int.eq_ofNat_of_zero_le p7; obtain ⟨z4, hz4⟩ := pick4 v3 60 61 1 (i := m4) (by omega); have y8 := k8.size; (try (simp at y8)); (first | (have T8 := Tri.kb T7 k8 (by omega)) | (have T8 := Tri.kb (tri_moreB T7 (bel_box _ _)) k8 (by omega)) | (have T8 := Tri.kb (tri_moreB (tri_moreB T7 (bel_box _ _)) (bel_box _ _)) k8 (by omega))); (first | (have B8 := Below.trans B7 (Kb.below k8 (by first | omega | (simp; omega)) (by omega))) | (have B8 := Below.trans (Below.trans B7 (Below.mono (bel_box _ _) (by first | omega | (simp; omega)))) (Kb.below k8 (by first | omega | (simp; omega)) (by omega))) | (have B8 := Below.trans (Below.trans (Below.trans B7 (Below.mono (bel_box _ _) (by first | omega | (simp; omega)))) (Below.mono (bel_box _ _) (by first | omega | (simp; omega)))) (Kb.below k8 (by first | omega | (simp; omega)) (by omega)))); have t8 := duo_at T8; obtain ⟨t0, t1, t2, t3⟩ := t8; have t4 := fun o => (duo_o T8 o).1; have t5 := fun o => (duo_o T8 o).2.1; have t6 := fun o => (duo_o T8 o).2.2.1; have t7 := fun o => (duo_o T8 o).2.2.2; have t9 := fun o o' => (duo_o (tri_moreB T8 (bel_box w8 o)) o').1; have ta := fun o o' => (duo_o (tri_moreB T8 (bel_box w8 o)) o').2.1; have tb := fun o o' => (duo_o (tri_moreB T8 (bel_box w8 o)) o').2.2.1; have tc := fun o o' => (duo_o (tri_moreB T8 (bel_box w8 o)) o').2.2.2; (try (first | (have ca4 := cellk k8 ca3 (by first | omega | (simp; omega)); have ca4o := fun o => cello ca4 o) | (have ca4 := cellk k8 (cello ca3 _) (by first | omega | (simp; omega)); have ca4o := fun o => cello ca4 o))); (try (first | (have cb4 := cellk k8 cb3 (by first | omega | (simp; omega)); have cb4o := fun o => cello cb4 o) | (have cb4 := cellk k8 (cello cb3 _) (by first | omega | (simp; omega)); have cb4o := fun o => cello cb4 o))); (try (first | (have cc4 := cellk k8 ((cell4 w7 #[.int .i64 v1, .int .i64 999, .int .i64 1000, .int .i64 (-1)] 3 m2).trans hz2) (by first | omega | (simp; omega)); have cc4o := fun o => cello cc4 o) | (have cc4 := cellk k8 ((cell4o w7 #[.int .i64 v1, .int .i64 999, .int .i64 1000, .int .i64 (-1)] 3 m2 (Obj.cells #[.int .i64 v3, .int .i64 60, .int .i64 61, .int .i64 1] 3)).trans hz2) (by first | omega | (simp; omega)); have cc4o := fun o => cello cc4 o) | (have cc4 := cellk k8 ((cell4 (w7.alloc (Obj.cells #[.int .i64 v3, .int .i64 60, .int .i64 61, .int .i64 1] 3)) #[.int .i64 v1, .int .i64 999, .int .i64 1000, .int .i64 (-1)] 3 m2).trans hz2) (by first | omega | (simp; omega)); simp at cc4; have cc4o := fun o => cello cc4 o))); (try (first | (have cd4 := cellk k8 ((cell4 w7 #[.int .i64 v3, .int .i64 60, .int .i64 61, .int .i64 1] 3 m4).trans hz4) (by first | omega | (simp; omega)); have cd4o := fun o => cello cd4 o) | (have cd4 := cellk k8 ((cell4o w7 #[.int .i64 v3, .int .i64 60, .int .i64 61, .int .i64 1] 3 m4 (Obj.cells #[.int .i64 v1, .int .i64 999, .int .i64 1000, .int .i64 (-1)] 3)).trans hz4) (by first | omega | (simp; omega)); have cd4o := fun o => cello cd4 o) | (have cd4 := cellk k8 ((cell4 (w7.alloc (Obj.cells #[.int .i64 v1, .int .i64 999, .int .i64 1000, .int .i64 (-1)] 3)) #[.int .i64 v3, .int .i64 60, .int .i64 61, .int .i64 1] 3 m4).trans hz4) (by first | omega | (simp; omega)); simp at cd4; have cd4o := fun o => cello cd4 o)))) | ((try go_simp); go_at_call 47; have gg := r6; clear gg; refine (spec_pick w.heap.size (w.heap.size + 1) (0 + 1 + 1) 9 _ (by first | exact r6 | exact r6.keep (bel_box _ _)) (by omega)).mono ?_; rintro e w7 ⟨v3, hv3, rfl, r7, k7, s7⟩; clear s7; have y7 := k7.size; (try (simp at y7)); (first | (have T7 := Tri.kb T6 k7 (by omega)) | (have T7 := Tri.kb (tri_moreB T6 (bel_box _ _)) k7 (by omega))); (first | (have B7 := Below.trans B6 (Kb.below k7 (by first | omega | (simp; omega)) (by omega))) | (have B7 := Below.trans (Below.trans B6 (Below.mono (bel_box _ _) (by first | omega | (simp; omega)))) (Kb.below k7 (by first | omega | (simp; omega)) (by omega)))); (try (have ca3 := cellk k7 ca2 (by first | omega | (simp; omega)); have ca3o := fun o => cello ca3 o)); (try (have cb3 := cellk k7 ((cell4 w6 #[.int .i64 v1, .int .i64 999, .int .i64 1000, .int .i64 (-1)] 3 m2).trans hz2) (by first | omega | (simp; omega)); have cb3o := fun o => cello cb3 o))) | ((try go_simp); go_at_call 47; have gg := r5; clear gg; refine (spec_pick w.heap.size (w.heap.size + 1) (0 + 1) 4 _ (by first | exact r5 | exact r5.keep (bel_box _ _)) (by omega)).mono ?_; rintro e w6 ⟨v2, ⟨p1, p2, -⟩, rfl, r6, k6, s6⟩; clear s6; have p3 := p2 (by omega); obtain ⟨m2, rfl⟩ := Int.eq_ofNat_of_zero_le p1; obtain ⟨z2, hz2⟩ := pick4 v1 999 1000 (-1) (i := m2) (by omega); have y6 := k6.size; (try (simp at y6)); (first | (have T6 := Tri.kb T5 k6 (by omega)) | (have T6 := Tri.kb (tri_moreB T5 (bel_box _ _)) k6 (by omega))); (first | (have B6 := Below.trans B5 (Kb.below k6 (by first | omega | (simp; omega)) (by omega))) | (have B6 := Below.trans (Below.trans B5 (Below.mono (bel_box _ _) (by first | omega | (simp; omega)))) (Kb.below k6 (by first | omega | (simp; omega)) (by omega)))); (try (have ca2 := cellk k6 ((cell4 w5 #[.int .i64 v1, .int .i64 999, .int .i64 1000, .int .i64 (-1)] 3 m2).trans hz2) (by first | omega | (simp; omega)); have ca2o := fun o => cello ca2 o))) | ((try go_simp); go_at_call 47; refine (spec_pick w.heap.size (w.heap.size + 1) 0 9 _ (R3.out.keep (Below.refl _ _).drew) (by omega)).mono ?_; rintro e w5 ⟨v1, hv1, rfl, r5, k5, s5⟩; clear s5; have y5 : w3.heap.size ≤ w5.heap.size := k5.size; have T5 := Tri.kb (tri_drew T3.out) k5 (by omega); have B5 := Below.trans B3.out.drew (Kb.below k5 (show w.heap.size ≤ w3.heap.size by omega) (by omega))))
  all_goals
    have y9 := B8.size
    go_wp2
    refine bodyPost_ret (v := .agg #[.int .i64 z2, .int .i64 z4]) (by simp [results, Try.results29, go_sem, t0, t1, t4, t5, t9, ta]) rfl ?_
    refine ⟨z2, z4, rfl, ?_⟩
    first | exact (B8.setCell (by simp) _).setCell (by simp) _ | exact ((B8.trans (Below.mono (bel_box _ _) (by first | omega | (simp; done) | (simp; omega)))).setCell (by simp) _).setCell (by simp) _ | exact (((B8.trans (Below.mono (bel_box _ _) (by first | omega | (simp; done) | (simp; omega)))).trans (Below.mono (bel_box _ _) (by first | omega | (simp; done) | (simp; omega)))).setCell (by simp) _).setCell (by simp) _
end Go.Proofs.Ytigeffgehckbpab
