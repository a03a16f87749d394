/-
  Chapter 12: the model's l12All, ProofAll.
-/
import Derived.Test.YtmfmhhopnmglcaaDoorPfv
namespace Go.Proofs.YtmfmhhopnmglcaaDoor
open Go.RowKit
set_option linter.unusedVariables false
set_option linter.unusedSimpArgs false
set_option maxRecDepth 20000
/-- As wp_fresh, and the row may be appended to. -/
theorem wp_fresh2 {P : Program} {w : World} {o : Oper} {a : Act} {K : Act → World → Prop} {Q : Exit → Act → World → Prop} {t e : TypeId} (T : IntTy P t e) (s x : Operand)
    (ho : o.op = .call { callee := .builtin .append, args := #[s, x], argTypes := #[t, t] }) (base : Nat) {g : Nat} {A : Option Addr} {m c : Nat} {zs : List Int}
    (hs : a.eval s = .slice (some ⟨g, 0, none⟩) 0 0) (hx : a.eval x = .slice A m c) (hr : Sl w A m zs) (h0 : 0 < m) (hm : m ≤ 1048576) (hb : base ≤ w.heap.size)
    (h : ∀ a' cap' w', w'.ownsRow base e 1 (.slice a' m cap') m (zs.map (Value.int .i64)) → Below w.heap.size w w' → K (a.put o.dst (.slice a' m cap')) w') : o.wp P a w K Q := by
  obtain ⟨i0, hi0, hz0, hz1, hz2⟩ := info_parts T.info
  obtain ⟨b, off, rfl, h2⟩ := hr.at_ h0
  obtain ⟨v', w', hrun, own, grow⟩ := run_append_arg_grows (P := P) w t o.type e i0 _ 1 8 T.sl hi0 hz0 hz1 hz2 rfl (by decide) ⟨g, 0, none⟩ 0 0 [] rfl (by intro j u hu; simp at hu) ⟨b, off, none⟩ m c (zs.map (Value.int .i64)) (by simp [hr.len]) (by
    intro j u hu
    have hj : j < m := by
      rcases Nat.lt_or_ge j m with h' | h'
      · exact h'
      · rw [List.getElem?_eq_none (by simp [hr.len]; omega)] at hu; cases hu
    rw [Addr.add_mid, h2 j hj]
    rw [List.getElem?_map, List.getElem?_eq_getElem (by rw [hr.len]; exact hj)] at hu
    simp at hu
    rw [← hu, List.getD_eq_getElem?_getD, List.getElem?_eq_getElem (by rw [hr.len]; exact hj)]; rfl) (by omega) (by unfold maxLen; omega) (by omega)
  rw [Nat.zero_add, List.nil_append] at own
  obtain ⟨a', cap', rfl⟩ := row_form own
  have own' : w'.ownsRow base e 1 (.slice a' m cap') m (zs.map (Value.int .i64)) := ⟨own.1, own.2.imp id fun ⟨g', c', cur, q1, q2, q3⟩ => ⟨g', c', cur, q1, Nat.le_trans hb q2, q3⟩⟩
  unfold Oper.wp execOp
  simp only [ho, resolve, invoke, builtin, Sem.run_bind, Sem.run_pure, Result.andThen_ok, List.map_toArray, List.map_cons, List.map_nil, hs, hx, hrun]
  exact h _ _ _ own' ((Below.refl w.heap.size w).grown grow (Nat.le_refl _) (by simp))
/-- What is kept through the region: nothing below w1's size is written; three cells. -/
theorem all_keep {w1 W W' : World} {g : Nat} {x y z : Value} (h : Hid (Below w1.heap.size w1 W) ∧ W.cell? ⟨g, 0, none⟩ = some x ∧ W.cell? ⟨g, 1, none⟩ = some y ∧ W.cell? ⟨g, 2, none⟩ = some z) (hg : g < w1.heap.size) (k : Below w1.heap.size W W') :
    Hid (Below w1.heap.size w1 W') ∧ W'.cell? ⟨g, 0, none⟩ = some x ∧ W'.cell? ⟨g, 1, none⟩ = some y ∧ W'.cell? ⟨g, 2, none⟩ = some z :=
  ⟨h.1.out.trans k, (k.cell (p := ⟨g, 0, none⟩) hg).trans h.2.1, (k.cell (p := ⟨g, 1, none⟩) hg).trans h.2.2.1, (k.cell (p := ⟨g, 2, none⟩) hg).trans h.2.2.2⟩
theorem all_b {w1 W : World} {R : Prop} (h : Hid (Below w1.heap.size w1 W) ∧ R) : Below w1.heap.size w1 W := h.1.out
theorem all_alloc {w1 W : World} (h : Below w1.heap.size w1 W) (o : Obj) : Below w1.heap.size W (W.alloc o) := (Below.refl _ _).alloc h.size o
theorem two_lit {w : World} {g : Nat} {t : TypeId} (x y : Int) (hg : g = w.heap.size) : Sl (w.alloc (.cells #[.int .i64 x, .int .i64 y] t)) (some ⟨g, 0, none⟩) 2 [x, y] := by
  subst hg
  have T : Tri (w.alloc (.cells #[.int .i64 x, .int .i64 y] t)) w.heap.size [.int .i64 x, .int .i64 y] t := Tri.new w _ t
  refine ⟨rfl, fun _ => ⟨_, 0, rfl, fun i hi => ?_⟩⟩
  rw [Nat.zero_add, T.at_]
  match i, hi with
  | 0, _ => rfl
  | 1, _ => rfl
set_option maxHeartbeats 2000000 in
theorem spec_l12All (a : Option Addr) (n cap : Nat) (zs : List Int) (x y : Int) (b : Option Addr) (m cp : Nat) (hs : List Int) (w : World) (h : Sl w a n zs) (h' : Sl w b m hs) (h0 : 0 < n) (hn : n ≤ 100) (hm : m ≤ 100) :
    Calls Tryd.prog 43 #[.slice a n cap, .agg #[.int .i64 x, .int .i64 y, .slice b m cp]] w (NewInts (zs ++ [x, y] ++ hs) w) := by
  obtain ⟨w1, hw1, Z1, B1, T1⟩ := prf_box w x y b m cp 28
  obtain ⟨c0, c1, c2, -, -, -⟩ := T1.three'
  have CC := Lib.hid (show Hid (Below w1.heap.size w1 w1.drew) ∧ w1.drew.cell? ⟨w.heap.size, 0, none⟩ = some (.int .i64 x) ∧ w1.drew.cell? ⟨w.heap.size, 1, none⟩ = some (.int .i64 y) ∧ w1.drew.cell? ⟨w.heap.size, 2, none⟩ = some (.slice b m cp) from ⟨(Below.refl _ _).drew, c0, c1, c2⟩)
  have H := Lib.hid (h.below B1)
  have H' := Lib.hid (h'.below B1)
  have BB := Lib.hid B1
  have hg : w.heap.size < w1.heap.size := by omega
  clear h h' B1 T1 c0 c1 c2
  go_enter Tryd.func43, Tryd.ntmps43
  go_wp2_with fail
  go_region_held3 (fun w' : World => Hid (Below w1.heap.size w1 w') ∧ w'.cell? ⟨w.heap.size, 0, none⟩ = some (.int .i64 x) ∧ w'.cell? ⟨w.heap.size, 1, none⟩ = some (.int .i64 y) ∧ w'.cell? ⟨w.heap.size, 2, none⟩ = some (.slice b m cp)) (first | exact CC.out | exact all_keep (by assumption) hg (bel7.mono (all_b (by assumption)).size) | exact all_keep (by assumption) hg bel13 | exact all_keep (by assumption) hg bel16 | exact all_keep (by assumption) hg (all_alloc (all_b (by assumption)) _) | exact all_keep (by assumption) hg (all_alloc (all_b (by assumption)) _).drew) (first | (refine step_of_wp' (by rfl) (wp_fresh2 int_ty (.tmp 5) (.tmp 6) rfl w1.heap.size rfl rfl (H.out.below (all_b (by assumption))) h0 (by omega) (all_b (by assumption)).size ?_); intro a7 c7 w7 own7 bel7) | (refine step_of_wp' (by rfl) (wp_cat int_ty (.tmp 7) (.tmp 12) rfl w1.heap.size (xs := zs) rfl rfl (by first | exact own7 | exact own7.alloc _) (by first | exact two_lit x y (by first | rfl | omega) | exact (two_lit x y (by first | rfl | omega | (rw [size_alloc1]; omega))).drew.below bel7 | exact ((two_lit x y (by first | rfl | omega)).below ((Below.refl _ _).alloc (Nat.le_refl _) _)).drew.below bel7) (by omega) (all_b (by assumption)).size ?_); intro a13 c13 w13 own13 bel13) | (refine step_of_wp' (by rfl) (wp_cat int_ty (.tmp 13) (.tmp 15) rfl w1.heap.size (xs := zs ++ [x, y]) rfl rfl own13 (H'.out.below (all_b (by assumption))) (by omega) (all_b (by assumption)).size ?_); intro a16 c16 w16 own16 bel16; have hw16 := Lib.hid (Below.trans (all_b (w1 := w1) (by assumption)) bel16)))
  all_goals
    have O := Lib.hid (Own.of_row own16)
    have z16 := hw16.out.size
    clear own7 own13 own16 bel7 bel13 bel16
    go_wp2
    go_ret
    exact ⟨_, _, _, rfl, O.out.more (by omega) (Nat.le_refl _), BB.out.trans (hw16.out.mono (by omega))⟩
theorem spec_ProofAll (k : Int) (a : Option Addr) (n cap : Nat) (zs : List Int) (x y : Int) (b : Option Addr) (m cp : Nat) (hs : List Int) (w : World) (h : Sl w a n zs) (h' : Sl w b m hs) (hn : n ≤ 1048576) (hm : m ≤ 1048576) :
    Calls Tryd.prog 16 #[.int .i64 k, .slice a n cap, .agg #[.int .i64 x, .int .i64 y, .slice b m cp]] w (NewIntsB (Fp.palL k zs x y hs) (Fp.pall k zs x y hs) w) := by
  obtain ⟨w1, hw1, Z1, B1, T1⟩ := prf_box w x y b m cp 28
  obtain ⟨d, D1, D2, D3⟩ := prf_desc
  have H := Lib.hid (h.below B1)
  have H' := Lib.hid (h'.below B1)
  have BB := Lib.hid B1
  have TT := Lib.hid T1
  have L := h.len
  have L' := h'.len
  clear h h' B1 T1
  cases hf : Fp.form k x y hs
  · have E : Fp.pall k zs x y hs = false := by rw [Fp.pall_eq, hf]; rfl
    rw [Fp.palL_no E, E]
    clear L L'
    go_enter Tryd.func16, Tryd.ntmps16
    go_wp2_with (first | (refine wpList_load_mid rfl 28 (.tmp 5) rfl w.heap.size 0 rfl (prc x y b m cp) _ TT.out.range D1 D2 D3 ?_) | (go_at_call 34; fail))
    refine (spec_l12Form k x y b m cp hs _ H'.out hm).mono ?_
    rintro e w4 ⟨rfl, b4⟩
    rw [hf]
    have B4 := Lib.hid (BB.out.trans (b4.mono BB.out.size))
    clear b4
    go_wp2
    go_ret2
    exact ⟨_, _, _, rfl, Own.nil _ _ _ _ _ (by unfold maxLen; omega), B4.out.alloc B4.out.size _⟩
  cases hv : Fp.tvec k zs
  · have E : Fp.pall k zs x y hs = false := by rw [Fp.pall_eq, hf, hv]; rfl
    rw [Fp.palL_no E, E]
    clear L L'
    go_enter Tryd.func16, Tryd.ntmps16
    go_wp2_with (first | (refine wpList_load_mid rfl 28 (.tmp 5) rfl w.heap.size 0 rfl (prc x y b m cp) _ TT.out.range D1 D2 D3 ?_) | (go_at_call 34; fail))
    refine (spec_l12Form k x y b m cp hs _ H'.out hm).mono ?_
    rintro e w4 ⟨rfl, b4⟩
    rw [hf]
    have B4 := Lib.hid (BB.out.trans (b4.mono BB.out.size))
    have H4 := Lib.hid (H.out.below b4)
    clear b4
    go_wp2_with (go_at_call 35; refine (spec_l11Vec _ _ _ _ zs _ H4.out hn).mono ?_; rintro e w' ⟨rfl, rfl⟩; rw [hv])
    go_ret2
    exact ⟨_, _, _, rfl, Own.nil _ _ _ _ _ (by unfold maxLen; omega), B4.out.alloc B4.out.size _⟩
  have E : Fp.pall k zs x y hs = true := by rw [Fp.pall_eq, hf, hv]; rfl
  rw [Fp.palL_yes E, E]
  have n4 : n ≤ 4 := by rw [← L]; exact Fp.tvec_len hv
  have n0 : 0 < n := by rw [← L, (Fp.tvec_iff.1 hv).2.2]; exact Fp.tlen_pos (Fp.tvec_iff.1 hv).1
  have m9 : m ≤ 100 := by have := Fp.tlen_le k; rw [← L', (Fp.wf_iff.1 (Fp.form_iff.1 hf).2).2.2.1]; omega
  clear L L' E
  go_enter Tryd.func16, Tryd.ntmps16
  go_wp2_with (first | (refine wpList_load_mid rfl 28 (.tmp 5) rfl w.heap.size 0 rfl (prc x y b m cp) _ TT.out.range D1 D2 D3 ?_) | (go_at_call 34; fail))
  refine (spec_l12Form k x y b m cp hs _ H'.out hm).mono ?_
  rintro e w4 ⟨rfl, b4⟩
  rw [hf]
  have B4 := Lib.hid (BB.out.trans (b4.mono BB.out.size))
  have H4 := Lib.hid (H.out.below b4)
  have H4' := Lib.hid (H'.out.below b4)
  have T4 := Lib.hid (TT.out.below b4 (by omega))
  clear b4
  go_wp2_with (first | (go_at_call 35; refine (spec_l11Vec _ _ _ _ zs _ H4.out hn).mono ?_; rintro e w' ⟨rfl, rfl⟩; rw [hv]) | (refine wpList_load_mid rfl 28 (.tmp 5) rfl w.heap.size 0 rfl (prc x y b m cp) _ T4.out.range D1 D2 D3 ?_) | (go_at_call 43; fail))
  refine (spec_l12All a n cap zs x y b m cp hs _ H4.out H4'.out n0 (by omega) m9).mono ?_
  rintro e w5 ⟨a5, n5, c5, rfl, o5, b5⟩
  have O5 := Lib.hid (o5.more B4.out.size (Nat.le_refl _))
  have B5 := Lib.hid (B4.out.trans (b5.mono B4.out.size))
  clear o5 b5
  go_wp2
  go_ret2
  exact ⟨_, _, _, rfl, O5.out, B5.out⟩
end Go.Proofs.YtmfmhhopnmglcaaDoor
