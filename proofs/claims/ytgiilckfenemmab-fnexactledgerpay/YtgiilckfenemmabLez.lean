/-
  A statement that pays into a ledger and keeps what came back in a new box: what it leaves.
-/
import Derived.Test.YtgiilckfenemmabLey
namespace Go.Proofs.Ytgiilckfenemmab
open Go.RowKit
set_option linter.unusedVariables false
set_option linter.unusedSimpArgs false
set_option maxRecDepth 20000
/-- A box of three. -/
structure Tru (W : World) (g : Nat) (x y z : Value) : Prop where
  c0 : W.cell? ⟨g, 0, none⟩ = some x
  c1 : W.cell? ⟨g, 1, none⟩ = some y
  c2 : W.cell? ⟨g, 2, none⟩ = some z
  f0 : W.frozen? ⟨g, 0, none⟩ = false
  f1 : W.frozen? ⟨g, 1, none⟩ = false
  f2 : W.frozen? ⟨g, 2, none⟩ = false
theorem Tru.of_tri {W : World} {g : Nat} {x y z : Value} {t : TypeId} (h : Tri W g [x, y, z] t) : Tru W g x y z := by
  obtain ⟨a, b, c, d, e, f⟩ := led_at h
  exact ⟨a, b, c, d, e, f⟩
theorem Tru.lt {W : World} {g : Nat} {x y z : Value} (h : Tru W g x y z) : g < W.heap.size := cell_lt h.c0
theorem Tru.more {W V : World} {g : Nat} {x y z : Value} (h : Tru W g x y z) (k : Below W.heap.size W V) : Tru V g x y z :=
  have hg : g < W.heap.size := cell_lt h.c0
  ⟨(k.cell (p := ⟨g, 0, none⟩) hg).trans h.c0, (k.cell (p := ⟨g, 1, none⟩) hg).trans h.c1, (k.cell (p := ⟨g, 2, none⟩) hg).trans h.c2, (k.frozen (p := ⟨g, 0, none⟩) hg).trans h.f0, (k.frozen (p := ⟨g, 1, none⟩) hg).trans h.f1, (k.frozen (p := ⟨g, 2, none⟩) hg).trans h.f2⟩
theorem Tru.keep {p : Nat → Prop} {W V : World} {g : Nat} {x y z : Value} (h : Tru W g x y z) (k : Chg p W V) (hp : ¬ p g) : Tru V g x y z :=
  have hg : g < W.heap.size := cell_lt h.c0
  ⟨(k.cell (q := ⟨g, 0, none⟩) hg hp).trans h.c0, (k.cell (q := ⟨g, 1, none⟩) hg hp).trans h.c1, (k.cell (q := ⟨g, 2, none⟩) hg hp).trans h.c2, (k.frozen (q := ⟨g, 0, none⟩) hg hp).trans h.f0, (k.frozen (q := ⟨g, 1, none⟩) hg hp).trans h.f1, (k.frozen (q := ⟨g, 2, none⟩) hg hp).trans h.f2⟩
theorem Tru.now {W V : World} {x y z : Value} {t : TypeId} (k : Below (W.alloc (.cells #[x, y, z] t)).heap.size (W.alloc (.cells #[x, y, z] t)) V) : Tru V W.heap.size x y z :=
  Tru.more (Tru.of_tri (Tri.new W [x, y, z] t)) k
theorem Tru.nowD {W V : World} {x y z : Value} {t : TypeId} (k : Below (W.alloc (.cells #[x, y, z] t)).drew.heap.size (W.alloc (.cells #[x, y, z] t)).drew V) : Tru V W.heap.size x y z := by
  obtain ⟨a, b, c, d, e, f⟩ := Tru.of_tri (Tri.new W [x, y, z] t)
  exact Tru.more (W := (W.alloc (.cells #[x, y, z] t)).drew) ⟨a, b, c, d, e, f⟩ k
/-- The ledger (c, d, fs) in a box of its own, ok beside it. -/
def LedAt (W0 : World) (c d : Int) (fs : List (Int × Int)) (ok : Bool) (p q : Value) (W : World) : Prop :=
  ∃ g a n cap lo hi, p = .pointer (some ⟨g, 0, none⟩) ∧ q = .bool ok ∧ Below W0.heap.size W0 W ∧ Tru W g (.int .i64 c) (.int .i64 d) (.slice a n cap) ∧ W0.heap.size ≤ g ∧ Of lo hi W a n cap fs ∧ W0.heap.size ≤ lo ∧ hi ≤ W.heap.size ∧ (g < lo ∨ hi ≤ g)
theorem LedAt.new {W0 W : World} {c d : Int} {fs : List (Int × Int)} {ok : Bool} {a : Option Addr} {n cap lo hi : Nat} {T : TypeId} (P : Below W0.heap.size W0 W) (O : Of lo hi W a n cap fs) (h1 : W0.heap.size ≤ lo) (h2 : hi ≤ W.heap.size) :
    LedAt W0 c d fs ok (.pointer (some ⟨W.heap.size, 0, none⟩)) (.bool ok) (W.alloc (.cells #[.int .i64 c, .int .i64 d, .slice a n cap] T)) :=
  ⟨_, a, n, cap, lo, hi, rfl, rfl, P.trans ((bel_box _ _).mono P.size), Tru.of_tri (Tri.new W [.int .i64 c, .int .i64 d, .slice a n cap] T), P.size, O.below (bel_box _ _), h1, Nat.le_trans h2 (bel_box _ _).size, .inr h2⟩
theorem LedAt.set {W0 W : World} {c d : Int} {fs : List (Int × Int)} {ok : Bool} {g : Nat} {x y z : Value} {a : Option Addr} {n cap lo hi : Nat} (P : Below W0.heap.size W0 W) (D : Tru W g x y z) (hg : W0.heap.size ≤ g) (O : Of lo hi W a n cap fs) (h1 : W0.heap.size ≤ lo) (h2 : hi ≤ W.heap.size) (h3 : g < lo) :
    LedAt W0 c d fs ok (.pointer (some ⟨g, 0, none⟩)) (.bool ok) (((W.setCell ⟨g, 0, none⟩ (.int .i64 c)).setCell ⟨g, 1, none⟩ (.int .i64 d)).setCell ⟨g, 2, none⟩ (.slice a n cap)) := by
  refine ⟨g, a, n, cap, lo, hi, rfl, rfl, ((P.setCell hg _).setCell hg _).setCell hg _, ⟨?_, ?_, ?_, ?_, ?_, ?_⟩, hg, of_far (of_far (of_far O (q := ⟨g, 0, none⟩) (.inl h3) _) (q := ⟨g, 1, none⟩) (.inl h3) _) (q := ⟨g, 2, none⟩) (.inl h3) _, h1, by simp [World.setCell]; omega, .inl h3⟩
  · rw [cell_other _ _ (by simp), cell_other _ _ (by simp)]; exact cell_same _ _ D.c0
  · rw [cell_other _ _ (by simp)]; exact cell_same _ _ (by rw [cell_other _ _ (by simp)]; exact D.c1)
  · exact cell_same _ _ (by rw [cell_other _ _ (by simp), cell_other _ _ (by simp)]; exact D.c2)
  · rw [World.frozen?_setCell, World.frozen?_setCell, World.frozen?_setCell]; exact D.f0
  · rw [World.frozen?_setCell, World.frozen?_setCell, World.frozen?_setCell]; exact D.f1
  · rw [World.frozen?_setCell, World.frozen?_setCell, World.frozen?_setCell]; exact D.f2
/-- Five cells that a statement reads while its calls make memory. -/
theorem reg5_b {W0 W : World} {p1 p2 p3 p4 p5 : Addr} {x1 x2 x3 x4 x5 : Value} (h : Hid (Below W0.heap.size W0 W) ∧ W.cell? p1 = some x1 ∧ W.cell? p2 = some x2 ∧ W.cell? p3 = some x3 ∧ W.cell? p4 = some x4 ∧ W.cell? p5 = some x5) : Below W0.heap.size W0 W := h.1.out
theorem reg5_sz {W0 W W' : World} {p1 p2 p3 p4 p5 : Addr} {x1 x2 x3 x4 x5 : Value} (h : Hid (Below W0.heap.size W0 W) ∧ W.cell? p1 = some x1 ∧ W.cell? p2 = some x2 ∧ W.cell? p3 = some x3 ∧ W.cell? p4 = some x4 ∧ W.cell? p5 = some x5) (k : Below W.heap.size W W') : W0.heap.size ≤ W.heap.size := h.1.out.size
theorem reg5_set {W0 W W' : World} {p1 p2 p3 p4 p5 : Addr} {x1 x2 x3 x4 x5 : Value} (hb : Hid (p1.block < W0.heap.size ∧ p2.block < W0.heap.size ∧ p3.block < W0.heap.size ∧ p4.block < W0.heap.size ∧ p5.block < W0.heap.size)) (h : Hid (Below W0.heap.size W0 W) ∧ W.cell? p1 = some x1 ∧ W.cell? p2 = some x2 ∧ W.cell? p3 = some x3 ∧ W.cell? p4 = some x4 ∧ W.cell? p5 = some x5) (k : Below W0.heap.size W W') :
    Hid (Below W0.heap.size W0 W') ∧ W'.cell? p1 = some x1 ∧ W'.cell? p2 = some x2 ∧ W'.cell? p3 = some x3 ∧ W'.cell? p4 = some x4 ∧ W'.cell? p5 = some x5 :=
  ⟨Lib.hid (h.1.out.trans k), (k.cell hb.out.1).trans h.2.1, (k.cell hb.out.2.1).trans h.2.2.1, (k.cell hb.out.2.2.1).trans h.2.2.2.1, (k.cell hb.out.2.2.2.1).trans h.2.2.2.2.1, (k.cell hb.out.2.2.2.2).trans h.2.2.2.2.2⟩
theorem reg5_re {W0 W : World} {o o' : Obj} {p1 p2 p3 p4 p5 : Addr} {x1 x2 x3 x4 x5 : Value} (hb : Hid (p1.block < W0.heap.size ∧ p2.block < W0.heap.size ∧ p3.block < W0.heap.size ∧ p4.block < W0.heap.size ∧ p5.block < W0.heap.size)) (hW : Hid (Below W0.heap.size W0 W)) (h : Hid (Below W0.heap.size W0 (W.alloc o)) ∧ (W.alloc o).cell? p1 = some x1 ∧ (W.alloc o).cell? p2 = some x2 ∧ (W.alloc o).cell? p3 = some x3 ∧ (W.alloc o).cell? p4 = some x4 ∧ (W.alloc o).cell? p5 = some x5) :
    Hid (Below W0.heap.size W0 (W.alloc o')) ∧ (W.alloc o').cell? p1 = some x1 ∧ (W.alloc o').cell? p2 = some x2 ∧ (W.alloc o').cell? p3 = some x3 ∧ (W.alloc o').cell? p4 = some x4 ∧ (W.alloc o').cell? p5 = some x5 := by
  have z := hW.out.size
  have e : ∀ p : Addr, p.block < W0.heap.size → (W.alloc o').cell? p = (W.alloc o).cell? p := fun p hp => by
    rw [(bel_box W o').cell (p := p) (by omega), (bel_box W o).cell (p := p) (by omega)]
  exact ⟨Lib.hid (hW.out.trans ((bel_box W o').mono z)), (e _ hb.out.1).trans h.2.1, (e _ hb.out.2.1).trans h.2.2.1, (e _ hb.out.2.2.1).trans h.2.2.2.1, (e _ hb.out.2.2.2.1).trans h.2.2.2.2.1, (e _ hb.out.2.2.2.2).trans h.2.2.2.2.2⟩
theorem reg6_call {W0 W W' : World} {p1 p2 p3 p4 p5 p6 : Addr} {x1 x2 x3 x4 x5 x6 : Value} (h : Hid (Below W0.heap.size W0 W) ∧ W.cell? p1 = some x1 ∧ W.cell? p2 = some x2 ∧ W.cell? p3 = some x3 ∧ W.cell? p4 = some x4 ∧ W.cell? p5 = some x5 ∧ W.cell? p6 = some x6) (k : Below W.heap.size W W') :
    Hid (Below W0.heap.size W0 W') ∧ W'.cell? p1 = some x1 ∧ W'.cell? p2 = some x2 ∧ W'.cell? p3 = some x3 ∧ W'.cell? p4 = some x4 ∧ W'.cell? p5 = some x5 ∧ W'.cell? p6 = some x6 := by
  obtain ⟨g1, g2⟩ := reg5_call ⟨h.1, h.2.1, h.2.2.1, h.2.2.2.1, h.2.2.2.2.1, h.2.2.2.2.2.1⟩ k
  exact ⟨g1, g2.1, g2.2.1, g2.2.2.1, g2.2.2.2.1, g2.2.2.2.2, (k.cell (cell_lt h.2.2.2.2.2.2)).trans h.2.2.2.2.2.2⟩
theorem reg6_b {W0 W : World} {p1 p2 p3 p4 p5 p6 : Addr} {x1 x2 x3 x4 x5 x6 : Value} (h : Hid (Below W0.heap.size W0 W) ∧ W.cell? p1 = some x1 ∧ W.cell? p2 = some x2 ∧ W.cell? p3 = some x3 ∧ W.cell? p4 = some x4 ∧ W.cell? p5 = some x5 ∧ W.cell? p6 = some x6) : Below W0.heap.size W0 W := h.1.out
end Go.Proofs.Ytgiilckfenemmab
