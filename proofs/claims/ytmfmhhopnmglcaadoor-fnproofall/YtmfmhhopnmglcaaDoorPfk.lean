/-
  Chapter 12: the model's ProofCut; the program's where it fails.
-/
import Derived.Test.YtmfmhhopnmglcaaDoorPfc
import Derived.Deep.RegionHeld3
namespace Go.Proofs.YtmfmhhopnmglcaaDoor
open Go.RowKit
set_option linter.unusedVariables false
set_option linter.unusedSimpArgs false
set_option maxRecDepth 20000
/-- Behind a slice of no room: what is appended has a row of its own, and nothing else is written. -/
theorem wp_fresh {P : Program} {w : World} {o : Oper} {a : Act} {K : Act → World → Prop} {Q : Exit → Act → World → Prop} {t e : TypeId} (T : IntTy P t e) (s x : Operand)
    (ho : o.op = .call { callee := .builtin .append, args := #[s, x], argTypes := #[t, t] }) {g : Nat} {A : Option Addr} {m c : Nat} {zs : List Int}
    (hs : a.eval s = .slice (some ⟨g, 0, none⟩) 0 0) (hx : a.eval x = .slice A m c) (hr : Sl w A m zs) (h0 : 0 < m) (hm : m ≤ 1048576)
    (h : ∀ a' cap' w', Own w.heap.size w'.heap.size w' a' m cap' zs → Below w.heap.size w w' → K (a.put o.dst (.slice a' m cap')) w') : o.wp P a w K Q := by
  obtain ⟨i0, hi0, hz0, hz1, hz2⟩ := info_parts T.info
  obtain ⟨b, off, rfl, h2⟩ := hr.at_ h0
  obtain ⟨v', w', hrun, own, grow⟩ := run_append_arg_grows (P := P) w t o.type e i0 _ 1 8 T.sl hi0 hz0 hz1 hz2 rfl (by decide) ⟨g, 0, none⟩ 0 0 [] rfl (by intro j u hu; simp at hu) ⟨b, off, none⟩ m c (zs.map (Value.int .i64)) (by simp [hr.len]) (by
    intro j u hu
    have hj : j < m := by
      rcases Nat.lt_or_ge j m with h' | h'
      · exact h'
      · rw [List.getElem?_eq_none (by simp [hr.len]; omega)] at hu; cases hu
    rw [Addr.add_mid, h2 j hj]
    rw [List.getElem?_map, List.getElem?_eq_getElem (by rw [hr.len]; exact hj)] at hu
    simp at hu
    rw [← hu, List.getD_eq_getElem?_getD, List.getElem?_eq_getElem (by rw [hr.len]; exact hj)]; rfl) (by omega) (by unfold maxLen; omega) (by omega)
  rw [Nat.zero_add, List.nil_append] at own
  obtain ⟨a', cap', rfl⟩ := row_form own
  unfold Oper.wp execOp
  simp only [ho, resolve, invoke, builtin, Sem.run_bind, Sem.run_pure, Result.andThen_ok, List.map_toArray, List.map_cons, List.map_nil, hs, hx, hrun]
  exact h _ _ _ (Own.of_row own) ((Below.refl w.heap.size w).grown grow (Nat.le_refl _) (by simp))
/-- A row, a proof, a bool: the rows may lie in whatever order. -/
def NewRpS (xs : List Int) (u v : Int) (zs : List Int) (t : Bool) (w : World) (e : Ending) (w' : World) : Prop := ∃ a n c a' n' c', e = .returned (.tuple #[.slice a n c, .agg #[.int .i64 u, .int .i64 v, .slice a' n' c'], .bool t]) ∧ Own w.heap.size w'.heap.size w' a n c xs ∧ Own w.heap.size w'.heap.size w' a' n' c' zs ∧ Below w.heap.size w w'
/-- A row and a proof. -/
def NewRp (xs : List Int) (u v : Int) (zs : List Int) (w : World) (e : Ending) (w' : World) : Prop := ∃ a n c a' n' c', e = .returned (.tuple #[.slice a n c, .agg #[.int .i64 u, .int .i64 v, .slice a' n' c']]) ∧ Own w.heap.size w'.heap.size w' a n c xs ∧ Own w.heap.size w'.heap.size w' a' n' c' zs ∧ Below w.heap.size w w'
/-- Nothing below is written, and the three cells at g are there. -/
def CutW (w w' : World) (g : Nat) : Prop := Below w.heap.size w w' ∧ w'.there g 0 3
theorem CutW.keep {w W W' : World} {g : Nat} (h : CutW w W g) (k : Below W.heap.size W W') : CutW w W' g := by
  have hg : g < W.heap.size := by
    rcases Nat.lt_or_ge g W.heap.size with h' | h'
    · exact h'
    · have := (h.2 0 (by omega)).1
      unfold World.cell? at this
      simp [Array.getElem?_eq_none h'] at this
  refine ⟨h.1.trans (k.mono h.1.size), fun j hj => ?_⟩
  rw [k.cell (p := ⟨g, 0 + j, none⟩) hg, World.frozen?_of_block (w := W) (k.block g hg)]
  exact h.2 j hj
theorem CutW.cells {w W : World} {g : Nat} (h : CutW w W g) (hg : w.heap.size ≤ g) (vs : List Value) : CutW w (W.setCells g 0 vs) g := ⟨below_cells hg vs 0 h.1, World.there_setCells h.2 _ _ _⟩
theorem cut_w {p R : Prop} (h : Hid p ∧ R) : p := h.1.out
theorem cut_bl {w W : World} {g : Nat} {R : Prop} (h : Hid (CutW w W g) ∧ R) : Below w.heap.size w W := h.1.out.1
theorem cut_th {w W : World} {g : Nat} {R : Prop} (h : Hid (CutW w W g) ∧ R) : W.there g 0 3 := h.1.out.2
/-- What the cell holds. -/
def was (w : World) (g i : Nat) : Value := (w.cell? ⟨g, i, none⟩).getD undef
theorem was_of {w : World} {g i : Nat} (h : (w.cell? ⟨g, i, none⟩).isSome = true) : w.cell? ⟨g, i, none⟩ = some (was w g i) := by
  obtain ⟨v, hv⟩ := Option.isSome_iff_exists.1 h
  rw [was, hv]; rfl
theorem cut_mk {w W : World} {g b i j : Nat} {x y : Int} (h1 : w.cell? ⟨b, i, none⟩ = some (.int .i64 x)) (h2 : w.cell? ⟨b, j, none⟩ = some (.int .i64 y)) (h : CutW w W g) :
    Hid (CutW w W g) ∧ W.cell? ⟨b, i, none⟩ = some (.int .i64 x) ∧ W.cell? ⟨b, j, none⟩ = some (.int .i64 y) ∧ W.cell? ⟨g, 0, none⟩ = some (was W g 0) ∧ W.cell? ⟨g, 1, none⟩ = some (was W g 1) ∧ W.cell? ⟨g, 2, none⟩ = some (was W g 2) ∧ W.frozen? ⟨g, 0, none⟩ = false ∧ W.frozen? ⟨g, 1, none⟩ = false ∧ W.frozen? ⟨g, 2, none⟩ = false :=
  ⟨h, (h.1.cell (p := ⟨b, i, none⟩) (cell_lt h1)).trans h1, (h.1.cell (p := ⟨b, j, none⟩) (cell_lt h2)).trans h2, was_of (h.2 0 (by omega)).1, was_of (h.2 1 (by omega)).1, was_of (h.2 2 (by omega)).1, (h.2 0 (by omega)).2, (h.2 1 (by omega)).2, (h.2 2 (by omega)).2⟩
/-- The last store. -/
theorem rp_end {w w6 : World} {g : Nat} {x y : Int} {a4 a6 : Option Addr} {n4 c4 n6 c6 : Nat} {xs zs : List Int} (h : CutW w w6 g) (hg : w.heap.size ≤ g) (O4 : Own (g + 1) w6.heap.size w6 a4 n4 c4 xs) (O6 : Own (g + 1) w6.heap.size w6 a6 n6 c6 zs) :
    (w6.setCells g 0 (prc x y a6 n6 c6)).rangeAt g 0 (prc x y a6 n6 c6) ∧ NewRp xs x y zs w (.returned (.tuple #[.slice a4 n4 c4, .agg (prc x y a6 n6 c6).toArray])) (w6.setCells g 0 (prc x y a6 n6 c6)) := by
  have b2 := (below_cells (Nat.le_refl g) (prc x y a6 n6 c6) 0 (Below.refl g w6)).size
  exact ⟨World.rangeAt_setCells_same _ _ _ _ h.2, _, _, _, _, _, _, rfl, (own_cells (.inl (Nat.lt_succ_self _)) _ 0 O4).more (by omega) b2, (own_cells (.inl (Nat.lt_succ_self _)) _ 0 O6).more (by omega) b2, below_cells hg _ 0 h.1⟩
theorem CutW.lt {w W : World} {g : Nat} (h : CutW w W g) : g < W.heap.size := by
  rcases Nat.lt_or_ge g W.heap.size with h' | h'
  · exact h'
  · have := (h.2 0 (by omega)).1
    unfold World.cell? at this
    simp [Array.getElem?_eq_none h'] at this
theorem cut_lt {w W : World} {g : Nat} {R : Prop} (h : Hid (CutW w W g) ∧ R) : g + 1 ≤ W.heap.size := h.1.out.lt
/-- A result in a slot, and one that lies in a variable of its own. -/
theorem results_mid2' {P : Program} {fn : Func} {p q : Tmp} {ty : TypeId} (h : fn.results = #[.tmp q, .cell p ty]) (tmps : Array Value) (w : World) (g : Nat) (cs : List Value) (x : Value) (d : TypeDesc)
    (hp : tmps.getD p undef = .pointer (some ⟨g, 0, none⟩)) (hx : tmps.getD q undef = x) (hc : w.rangeAt g 0 cs) (hu : P.underlying ty = some d) (hd : d.isRow = true) (hi : (P.info? ty).map (·.size) = some cs.length) :
    (results fn tmps).run P w = .ok (.tuple #[x, .agg cs.toArray]) w := by
  have hp' : tmps[p]?.getD undef = .pointer (some ⟨g, 0, none⟩) := by simpa using hp
  have hx' : tmps[q]?.getD undef = x := by simpa using hx
  simp [results, h, hp', hx', asAddr, run_loadVar_mid w g 0 ty cs d hc hu hd hi]
set_option maxHeartbeats 2000000 in
theorem spec_l12Cut (k : Int) (a : Option Addr) (n cap : Nat) (zs : List Int) (w : World) (h : Sl w a n zs) (hc : n ≤ cap) (hc' : cap ≤ maxLen) (hk : Fp.cok k zs = true) :
    Calls Tryd.prog 57 #[.int .i64 k, .slice a n cap] w (NewRp (zs.take (Fp.tlen k)) (zs.getD (Fp.tlen k) 0) (zs.getD (Fp.tlen k + 1) 0) (zs.drop (Fp.tlen k + 2)) w) := by
  obtain ⟨hk1, hk2, hs⟩ := Fp.cok_iff.1 hk
  have L := h.len
  have e3 := Fp.plen_yes hk1
  have p0 := Fp.tlen_pos hk1
  have p4 := Fp.tlen_le k
  have en : n = 3 * Fp.tlen k + 3 := by rw [← L, hk2, e3]
  obtain ⟨b, off, rfl, hcell⟩ := h.at_ (by omega)
  have cx := hcell (Fp.tlen k) (by omega)
  have cy := hcell (Fp.tlen k + 1) (by omega)
  obtain ⟨T, hT⟩ : ∃ T, Fp.tlen k = T := ⟨_, rfl⟩
  rw [hT] at p0 p4 en cx cy ⊢
  obtain ⟨x, hx⟩ : ∃ x, zs.getD T 0 = x := ⟨_, rfl⟩
  obtain ⟨y, hy⟩ : ∃ y, zs.getD (T + 1) 0 = y := ⟨_, rfl⟩
  rw [hx] at cx ⊢
  rw [hy] at cy ⊢
  have S1 := Lib.hid (h.cut (m := T) (by omega))
  have S2 := Lib.hid (h.drop (m := T + 2) (by omega))
  have hb := cell_lt cx
  have i0 : (T : Int) < (n : Int) := by omega
  have i1 : (T : Int) + 1 < (n : Int) := by omega
  have i2 : (T : Int) + 2 ≤ (n : Int) := by omega
  have i3 : ¬ cap = T + 2 := by omega
  have t1 : T + 2 ≤ n := by omega
  have j1 : (0 : Int) ≤ (T : Int) + 1 := by omega
  have j2 : (0 : Int) ≤ (T : Int) + 2 := by omega
  have f1 : IntKind.i64.wrap ((T : Int) + 1) = (T : Int) + 1 := by rw [IntKind.wrap_i64]; omega
  have f2 : IntKind.i64.wrap ((T : Int) + 2) = (T : Int) + 2 := by rw [IntKind.wrap_i64]; omega
  have g1 : ((T : Int) + 1).toNat = T + 1 := by omega
  have g2 : ((T : Int) + 2).toNat = T + 2 := by omega
  have j3 : (T : Int) ≤ (cap : Int) := by omega
  have j4 : T ≤ cap := by omega
  have j5 : T < n := by omega
  have j6 : T + 1 < n := by omega
  have m1 : T ≤ 1048576 := by omega
  have m2 : 0 < n - (T + 2) := by omega
  have m3 : n - (T + 2) ≤ 1048576 := by omega
  clear hx hy hk hk1 hk2 L e3 h hs en hcell
  obtain ⟨w1, hw1⟩ : ∃ w1, w.alloc (.cells #[.int .i64 0, .int .i64 0, .slice none 0 0] 28) = w1 := ⟨_, rfl⟩
  have B1 := Lib.hid (show Below w.heap.size w w1 by rw [← hw1]; exact (Below.refl _ _).alloc (Nat.le_refl _) _)
  have Z1 : w1.heap.size = w.heap.size + 1 := by rw [← hw1]; exact size_alloc1 _ _
  have T1 := Lib.hid (show Tri w1 w.heap.size [.int .i64 0, .int .i64 0, .slice none 0 0] 28 by rw [← hw1]; exact Tri.new _ _ _)
  obtain ⟨d, D1, D2, D3⟩ := prf_desc
  have CX := Lib.hid cx
  have CY := Lib.hid cy
  have W1 := Lib.hid (show CutW w w1.drew w.heap.size from ⟨B1.out.drew, T1.out.there⟩)
  clear cx cy
  go_enter Tryd.func57, Tryd.ntmps57
  go_wp2_with (go_at_call 60; refine (spec_TypeLen _ _).mono ?_; rintro e w' ⟨rfl, rfl⟩; rw [hT])
  clear hw1
  go_region_held3 (fun w' : World => Hid (CutW w w' w.heap.size) ∧ w'.cell? ⟨b, off + T, none⟩ = some (.int .i64 x) ∧ w'.cell? ⟨b, off + (T + 1), none⟩ = some (.int .i64 y) ∧ w'.cell? ⟨w.heap.size, 0, none⟩ = some (was w' w.heap.size 0) ∧ w'.cell? ⟨w.heap.size, 1, none⟩ = some (was w' w.heap.size 1) ∧ w'.cell? ⟨w.heap.size, 2, none⟩ = some (was w' w.heap.size 2) ∧ w'.frozen? ⟨w.heap.size, 0, none⟩ = false ∧ w'.frozen? ⟨w.heap.size, 1, none⟩ = false ∧ w'.frozen? ⟨w.heap.size, 2, none⟩ = false) (first | exact cut_mk CX.out CY.out W1.out | exact cut_mk CX.out CY.out (CutW.keep (cut_w (by assumption)) bel5) | exact cut_mk CX.out CY.out (CutW.keep (cut_w (by assumption)) bel6) | exact cut_mk CX.out CY.out (CutW.keep (cut_w (by assumption)) ((Below.refl _ _).alloc (Nat.le_refl _) _)) | exact cut_mk CX.out CY.out (CutW.keep (cut_w (by assumption)) (((Below.refl _ _).alloc (Nat.le_refl _) _).drew)) | exact cut_mk CX.out CY.out (CutW.cells (cut_w (by assumption)) (Nat.le_refl _) (prc x y a6 (n - (T + 2)) c6))) (first | (refine step_of_wp' (by rfl) (wp_fresh int_ty (.tmp 9) (.tmp 12) rfl rfl rfl (S1.out.below (cut_bl (by assumption))) p0 m1 ?_); intro a5 c5 w5 own5 bel5; replace own5 := Lib.hid (Own.more own5 (cut_lt (by assumption)) (Nat.le_refl _))) | (refine step_of_wp' (by rfl) (wp_fresh int_ty (.tmp 23) (.tmp 27) rfl rfl rfl (S2.out.below (cut_bl (by assumption))) m2 m3 ?_); intro a6 c6 w6 own6 bel6; have hw6 := Lib.hid (CutW.keep (w := w) (g := w.heap.size) (cut_w (by assumption)) bel6); replace own6 := Lib.hid (Own.more own6 (cut_lt (by assumption)) (Nat.le_refl _))))
  all_goals
    have h6 := hw6.out
    have o5 : Own (w.heap.size + 1) w6.heap.size w6 a5 T c5 (zs.take T) := by
      first
        | exact (own5.out.below bel6).more (Nat.le_refl _) bel6.size
        | exact ((own5.out.below ((Below.refl _ _).alloc (Nat.le_refl _) _)).below bel6).more (Nat.le_refl _) (Nat.le_trans ((Below.refl _ _).alloc (Nat.le_refl _) _ : Below w5.heap.size w5 _).size bel6.size)
    have E := Lib.hid (rp_end (x := x) (y := y) h6 (Nat.le_refl _) o5 own6.out)
    clear own5 own6 bel5 bel6 o5 h6 hw6
    go_wp2
    refine bodyPost_ret (v := .tuple #[.slice a5 T c5, .agg (prc x y a6 (n - (T + 2)) c6).toArray]) (results_mid2' rfl _ _ w.heap.size (prc x y a6 (n - (T + 2)) c6) _ _ rfl rfl E.out.1 D1 D2 D3) rfl ?_
    exact E.out.2
end Go.Proofs.YtmfmhhopnmglcaaDoor
