/-
  Chapter 32: what is drawn for its promises.
-/
import Derived.Test.YtigeffgehckbpabLeh
import Derived.Test.YtigeffgehckbpabFrg
import Derived.Deep.RegionLaw
import Derived.Deep.RegionHeld3
namespace Go.Proofs.Ytigeffgehckbpab
open Go.RowKit
set_option linter.unusedVariables false
set_option linter.unusedSimpArgs false
set_option maxRecDepth 20000
theorem row2_at {base : Nat} {e t : TypeId} {v : Value} {n : Nat} {xs : List Value} {w : World} {g : Nat} {cs : List Value} (h : w.ownsRow base e 2 v n xs) (T : Tri w g cs t) (ne : e ≠ t) : ∀ k, v.ownBlock = some k → k ≠ g := by
  intro k hk hkg
  subst hkg
  rcases h.2 with ⟨rfl, _⟩ | ⟨g', cap, cur, rfl, hg, hh, _⟩
  · simp [Value.ownBlock] at hk
  · simp [Value.ownBlock] at hk
    subst hk
    unfold Tri at T
    rw [hh] at T
    injection T with T
    injection T with _ T
    exact ne T
/-- A row of its own stays one where a box of another type is written. -/
theorem row2_set {base : Nat} {e t : TypeId} {v : Value} {n i : Nat} {xs : List Value} {w : World} {g : Nat} {cs : List Value} (h : w.ownsRow base e 2 v n xs) (T : Tri w g cs t) (ne : e ≠ t) (x : Value) : (w.setCell ⟨g, i, none⟩ x).ownsRow base e 2 v n xs := by
  have hof := row2_at h T ne
  rcases h with ⟨h1, h2 | ⟨k, cap, cur, hv, hg, hh, h3⟩⟩
  · exact ⟨h1, .inl h2⟩
  · have hk : k ≠ g := hof k (by rw [hv]; simp [Value.ownBlock])
    have hlt : k < w.heap.size := by
      rcases Nat.lt_or_ge k w.heap.size with h' | h'
      · exact h'
      · rw [Array.getElem?_eq_none h'] at hh; cases hh
    refine ⟨h1, .inr ⟨k, cap, cur, hv, hg, ?_, h3⟩⟩
    rw [(Chg.setCell (p := fun k => k = g) (Chg.refl (fun k => k = g) w) (q := ⟨g, i, none⟩) (.inl rfl) x).block k hlt hk]
    exact hh
theorem row2_len {base : Nat} {e : TypeId} {v : Value} {n : Nat} {fs : List (Int × Int)} {w : World} (h : w.ownsRow base e 2 v n ((flat fs).map (Value.int .i64))) : fs.length = n := by
  have hl : (flat fs).length = n * 2 := by have := h.1; simpa using this
  have := flat_len fs
  omega
theorem row2_sf {base : Nat} {e : TypeId} {a : Option Addr} {n cap : Nat} {fs : List (Int × Int)} {w : World} (h : w.ownsRow base e 2 (.slice a n cap) n ((flat fs).map (Value.int .i64))) (hn : n ≤ 1048577) : Sf w a n fs := (Of.of_row h hn).sf
theorem row2_drew {base : Nat} {e : TypeId} {v : Value} {n : Nat} {xs : List Value} {w : World} (h : w.ownsRow base e 2 v n xs) : w.drew.ownsRow base e 2 v n xs := h
theorem emp_box (w : World) (e : TypeId) : ∃ w1, w.alloc (.cells #[] e) = w1 ∧ w1.heap.size = w.heap.size + 1 ∧ Below w.heap.size w w1 ∧ w1.ownsRow w.heap.size e 2 (.slice (some ⟨w.heap.size, 0, none⟩) 0 0) 0 ((flat []).map (Value.int .i64)) :=
  ⟨_, rfl, by simp, bel_box _ _, ofEmpty _ _ _ (Nat.le_refl _)⟩
theorem tri_drew {w : World} {g : Nat} {cs : List Value} {t : TypeId} (h : Tri w g cs t) : Tri w.drew g cs t := h
theorem tri_lt {w : World} {g : Nat} {cs : List Value} {t : TypeId} (h : Tri w g cs t) : g < w.heap.size := by
  rcases Nat.lt_or_ge g w.heap.size with h' | h'
  · exact h'
  · unfold Tri at h; rw [Array.getElem?_eq_none h'] at h; cases h
/-- 'append(out, f)' at a step of a region: what else it touches is its own row alone. -/
theorem wp_pushF2 {P : Program} {w : World} {o : Oper} {a : Act} {K : Act → World → Prop} {Q : Exit → Act → World → Prop} {t e : TypeId} (T : FrTy P t e) (s x : Operand)
    (ho : o.op = .call { callee := .builtin .append, args := #[s, x], argTypes := #[t, t] }) (base : Nat) {v0 : Option Addr} {n cap k : Nat} {fs : List (Int × Int)} {y z : Int}
    (hs : a.eval s = .slice v0 n cap) (hx : a.eval x = .slice (some ⟨k, 0, none⟩) 1 1) (hown : w.ownsRow base e 2 (.slice v0 n cap) n ((flat fs).map (Value.int .i64))) (hr : Sf w (some ⟨k, 0, none⟩) 1 [(y, z)]) (hn : n ≤ 1048576) (hb : base ≤ w.heap.size)
    (h : ∀ a' cap' w', w'.ownsRow base e 2 (.slice a' (n + 1) cap') (n + 1) ((flat (fs ++ [(y, z)])).map (Value.int .i64)) → Chg (fun k => (Value.slice v0 n cap).ownBlock = some k) w w' → Below base w w' → K (a.put o.dst (.slice a' (n + 1) cap')) w') : o.wp P a w K Q := by
  obtain ⟨i0, hi0, hz0, hz1, hz2⟩ := infoF T.info
  refine wp_append_lies w s x t ho base e i0 _ 2 16 T.sl hi0 hz0 hz1 hz2 rfl (by decide) (.slice v0 n cap) n _ hs hown ⟨k, 0, none⟩ 1 1 ((flat [(y, z)]).map (Value.int .i64)) hx rfl (sf_news hr) (by intro u hu; simp [flat] at hu; rcases hu with rfl | rfl <;> rfl) (by omega) (by unfold maxLen; omega) (by omega) hb w.heap.size rfl ?_
  intro g cap' w' h1 h2 _ _
  exact h _ cap' w' (by rw [flat_app, List.map_append]; exact h1) (chg_grown (Chg.refl _ w) h2 (fun g hg => .inl hg)) ((Below.refl base w).grown h2 hb (ofBlock hown))
/-- What a statement that pays into a ledger that is drawn leaves: the answer in a box of its own. -/
def PayAt (W0 : World) (B b q : Nat) (c d : Int) (fs : List (Int × Int)) (p r : Value) (W : World) : Prop :=
  ∃ (x y : Int) (g : Nat) (a : Option Addr) (n cap : Nat), p = .pointer (some ⟨g, 0, none⟩) ∧ r = .bool (Fr.pB c d fs x y) ∧ Kb b W0 W ∧ Tri W g [.int .i64 (Fr.pC c d fs x y), .int .i64 (Fr.pD c d fs x y), .slice a n cap] 27 ∧ W0.heap.size ≤ g ∧ W.ownsRow W0.heap.size 24 2 (.slice a n cap) n ((flat (Fr.pL c d fs x y)).map (Value.int .i64)) ∧ Rd B b q W
theorem fl_ne : 24 ≠ 27 := by decide
theorem kb_cell3 {b : Nat} {W0 W W' : World} {p1 p2 p3 : Addr} {x1 x2 x3 : Value} (h : Hid (Kb b W0 W) ∧ W.cell? p1 = some x1 ∧ W.cell? p2 = some x2 ∧ W.cell? p3 = some x3) (hb : Hid (p1.block ≠ b ∧ p2.block ≠ b ∧ p3.block ≠ b)) (k : Kb b W W') :
    Hid (Kb b W0 W') ∧ W'.cell? p1 = some x1 ∧ W'.cell? p2 = some x2 ∧ W'.cell? p3 = some x3 :=
  ⟨Lib.hid (h.1.out.trans k), (k.cell (cell_lt h.2.1) hb.out.1).trans h.2.1, (k.cell (cell_lt h.2.2.1) hb.out.2.1).trans h.2.2.1, (k.cell (cell_lt h.2.2.2) hb.out.2.2).trans h.2.2.2⟩
theorem kb_cell3b {b : Nat} {W0 W W' : World} {p1 p2 p3 : Addr} {x1 x2 x3 : Value} (h : Hid (Kb b W0 W) ∧ W.cell? p1 = some x1 ∧ W.cell? p2 = some x2 ∧ W.cell? p3 = some x3) (hb : Hid (p1.block ≠ b ∧ p2.block ≠ b ∧ p3.block ≠ b)) (k : Below W.heap.size W W') :
    Hid (Kb b W0 W') ∧ W'.cell? p1 = some x1 ∧ W'.cell? p2 = some x2 ∧ W'.cell? p3 = some x3 := kb_cell3 h hb (Kb.of_below k)
theorem kb_cell3s {b : Nat} {W0 W : World} {p1 p2 p3 q : Addr} {x1 x2 x3 : Value} (h : Hid (Kb b W0 W) ∧ W.cell? p1 = some x1 ∧ W.cell? p2 = some x2 ∧ W.cell? p3 = some x3) (hb : Hid (p1.block < W0.heap.size ∧ p2.block < W0.heap.size ∧ p3.block < W0.heap.size)) (hq : W0.heap.size ≤ q.block) (x : Value) :
    Hid (Kb b W0 (W.setCell q x)) ∧ (W.setCell q x).cell? p1 = some x1 ∧ (W.setCell q x).cell? p2 = some x2 ∧ (W.setCell q x).cell? p3 = some x3 := by
  have e : ∀ p : Addr, p.block < W0.heap.size → (W.setCell q x).cell? p = W.cell? p := fun p hp => cell_other _ _ (fun e => by rw [e] at hq; omega)
  exact ⟨Lib.hid (h.1.out.setNew hq x), (e _ hb.out.1).trans h.2.1, (e _ hb.out.2.1).trans h.2.2.1, (e _ hb.out.2.2).trans h.2.2.2⟩
theorem kb_re {b : Nat} {W0 W : World} {o o' : Obj} {p1 p2 p3 : Addr} {x1 x2 x3 : Value} (hb : Hid (p1.block < W0.heap.size ∧ p2.block < W0.heap.size ∧ p3.block < W0.heap.size)) (hW : Hid (Kb b W0 W)) (h : Hid (Kb b W0 (W.alloc o)) ∧ (W.alloc o).cell? p1 = some x1 ∧ (W.alloc o).cell? p2 = some x2 ∧ (W.alloc o).cell? p3 = some x3) :
    Hid (Kb b W0 (W.alloc o')) ∧ (W.alloc o').cell? p1 = some x1 ∧ (W.alloc o').cell? p2 = some x2 ∧ (W.alloc o').cell? p3 = some x3 := by
  have z := hW.out.size
  have e : ∀ p : Addr, p.block < W0.heap.size → (W.alloc o').cell? p = (W.alloc o).cell? p := fun p hp => by
    rw [(bel_box W o').cell (p := p) (by omega), (bel_box W o).cell (p := p) (by omega)]
  exact ⟨Lib.hid (hW.out.trans (Kb.of_below (bel_box W o'))), (e _ hb.out.1).trans h.2.1, (e _ hb.out.2.1).trans h.2.2.1, (e _ hb.out.2.2).trans h.2.2.2⟩
theorem kb3_of {b : Nat} {W0 W : World} {p1 p2 p3 : Addr} {x1 x2 x3 : Value} (h : Hid (Kb b W0 W) ∧ W.cell? p1 = some x1 ∧ W.cell? p2 = some x2 ∧ W.cell? p3 = some x3) : Kb b W0 W := h.1.out
theorem PayAt.set {W0 W : World} {B b q : Nat} {c d x y : Int} {fs : List (Int × Int)} {g : Nat} {u1 u2 u3 : Value} {a : Option Addr} {n cap base : Nat} (P : Kb b W0 W) (D : Tri W g [u1, u2, u3] 27) (hg : W0.heap.size ≤ g) (O : W.ownsRow base 24 2 (.slice a n cap) n ((flat (Fr.pL c d fs x y)).map (Value.int .i64))) (h1 : W0.heap.size ≤ base) (R : Rd B b q W) (hb : b < W0.heap.size) :
    PayAt W0 B b q c d fs (.pointer (some ⟨g, 0, none⟩)) (.bool (Fr.pB c d fs x y)) (((W.setCell ⟨g, 0, none⟩ (.int .i64 (Fr.pC c d fs x y))).setCell ⟨g, 1, none⟩ (.int .i64 (Fr.pD c d fs x y))).setCell ⟨g, 2, none⟩ (.slice a n cap)) := by
  have T3 := ((D.set (i := 0) (.int .i64 (Fr.pC c d fs x y))).set (i := 1) (.int .i64 (Fr.pD c d fs x y))).set (i := 2) (.slice a n cap)
  refine ⟨x, y, g, a, n, cap, rfl, rfl, ((P.setNew hg _).setNew hg _).setNew hg _, T3, hg, ?_, ?_⟩
  · exact own2_more (row2_set (row2_set (row2_set O D fl_ne _) (D.set (i := 0) _) fl_ne _) ((D.set (i := 0) _).set (i := 1) _) fl_ne _) h1
  · exact R.keepB ((((Below.refl W0.heap.size W).setCell hg _).setCell hg _).setCell hg _) hb
theorem PayAt.new {W0 W : World} {B b q : Nat} {c d x y : Int} {fs : List (Int × Int)} {a : Option Addr} {n cap base : Nat} (P : Kb b W0 W) (O : W.ownsRow base 24 2 (.slice a n cap) n ((flat (Fr.pL c d fs x y)).map (Value.int .i64))) (h1 : W0.heap.size ≤ base) (R : Rd B b q W) :
    PayAt W0 B b q c d fs (.pointer (some ⟨W.heap.size, 0, none⟩)) (.bool (Fr.pB c d fs x y)) (W.alloc (.cells #[.int .i64 (Fr.pC c d fs x y), .int .i64 (Fr.pD c d fs x y), .slice a n cap] 27)) :=
  ⟨x, y, _, a, n, cap, rfl, rfl, P.trans (Kb.of_below (bel_box _ _)), Tri.new W [.int .i64 (Fr.pC c d fs x y), .int .i64 (Fr.pD c d fs x y), .slice a n cap] _, P.size, own2_more (own2_below O (bel_box _ _)) h1, R.keep (bel_box _ _)⟩
theorem tri_nowK {b : Nat} {W V : World} {cs : List Value} {t : TypeId} (k : Kb b (W.alloc (.cells cs.toArray t)) V) (hb : b < W.heap.size) : Tri V W.heap.size cs t := (Tri.new W cs t).kb k (by omega)
theorem tri_nowKD {b : Nat} {W V : World} {cs : List Value} {t : TypeId} (k : Kb b (W.alloc (.cells cs.toArray t)).drew V) (hb : b < W.heap.size) : Tri V W.heap.size cs t := (tri_drew (Tri.new W cs t)).kb k (by omega)
theorem tri_nowB {W V : World} {cs : List Value} {t : TypeId} (k : Below (W.alloc (.cells cs.toArray t)).heap.size (W.alloc (.cells cs.toArray t)) V) : Tri V W.heap.size cs t := (Tri.new W cs t).below k (by simp)
theorem tri_moreB {W V : World} {g : Nat} {cs : List Value} {t : TypeId} (h : Tri W g cs t) (k : Below W.heap.size W V) : Tri V g cs t := h.below k (tri_lt h)
/-- A ledger that is drawn: its row is its own. -/
def LgPost (B b q : Nat) (w : World) (e : Ending) (w' : World) : Prop := ∃ (c d : Int) (a : Option Addr) (n cap : Nat) (fs : List (Int × Int)), n ≤ 6 ∧ e = .returned (.agg #[.int .i64 c, .int .i64 d, .slice a n cap]) ∧ w'.ownsRow w.heap.size 24 2 (.slice a n cap) n ((flat fs).map (Value.int .i64)) ∧ Rd B b (q + 20) w' ∧ Kb b w w'
end Go.Proofs.Ytigeffgehckbpab
