/-
  Chapter 31: sums and comparisons, of the model and of the program.
-/
import Derived.Test.YtigeffgehckbpabFrd
import Derived.Deep.RegionHeld3
import Derived.Deep.DeepCutAuto
namespace Go.Proofs.Ytigeffgehckbpab
open Go.RowKit
set_option linter.unusedVariables false
set_option linter.unusedSimpArgs false
set_option maxRecDepth 20000
/-- Two boxes of two numbers each, behind one another. -/
structure Pair (w W : World) (a b c d : Int) (t : TypeId) : Prop where
  one : Tri W w.heap.size [.int .i64 a, .int .i64 b] t
  two : Tri W (w.heap.size + 1) [.int .i64 c, .int .i64 d] t
  size : w.heap.size + 2 ≤ W.heap.size
  bel : Below w.heap.size w W
theorem Pair.next {w W W' : World} {a b c d : Int} {t : TypeId} (h : Pair w W a b c d t) (k : Below W.heap.size W W') : Pair w W' a b c d t :=
  ⟨h.one.below k (by have := h.size; omega), h.two.below k (by have := h.size; omega), Nat.le_trans h.size k.size, h.bel.trans (k.mono (by have := h.size; omega))⟩
theorem Pair.at {w W : World} {a b c d : Int} {t : TypeId} (h : Pair w W a b c d t) : W.cell? ⟨w.heap.size, 0, none⟩ = some (.int .i64 a) ∧ W.cell? ⟨w.heap.size, 1, none⟩ = some (.int .i64 b) ∧ W.cell? ⟨w.heap.size + 1, 0, none⟩ = some (.int .i64 c) ∧ W.cell? ⟨w.heap.size + 1, 1, none⟩ = some (.int .i64 d) :=
  ⟨(duo_at h.one).1, (duo_at h.one).2.1, (duo_at h.two).1, (duo_at h.two).2.1⟩
theorem pair_box (w : World) (a b c d : Int) (t : TypeId) : ∃ w1 w2, w.alloc (.cells #[.int .i64 a, .int .i64 b] t) = w1 ∧ w1.alloc (.cells #[.int .i64 c, .int .i64 d] t) = w2 ∧ w1.heap.size = w.heap.size + 1 ∧ w2.heap.size = w.heap.size + 2 ∧ Pair w w2 a b c d t := by
  obtain ⟨w1, hw1, Z1, B1, T1⟩ := duo_box w a b t
  obtain ⟨w2, hw2, Z2, B2, T2⟩ := duo_box w1 c d t
  rw [Z1] at T2
  exact ⟨w1, w2, hw1, hw2, Z1, by omega, T1.below B2 (by omega), T2, by omega, B1.trans (B2.mono (by omega))⟩
/-- And a third box, for the answer. -/
structure Trio (w W : World) (a b c d : Int) (t t' : TypeId) : Prop where
  pair : Pair w W a b c d t
  three : Tri W (w.heap.size + 2) [.int .i64 0, .int .i64 0] t'
  size : w.heap.size + 3 ≤ W.heap.size
theorem Trio.next {w W W' : World} {a b c d : Int} {t t' : TypeId} (h : Trio w W a b c d t t') (k : Below W.heap.size W W') : Trio w W' a b c d t t' :=
  ⟨h.pair.next k, h.three.below k (by have := h.size; omega), Nat.le_trans h.size k.size⟩
theorem Trio.at {w W : World} {a b c d : Int} {t t' : TypeId} (h : Trio w W a b c d t t') : W.cell? ⟨w.heap.size + 2, 0, none⟩ = some (.int .i64 0) ∧ W.cell? ⟨w.heap.size + 2, 1, none⟩ = some (.int .i64 0) ∧ W.frozen? ⟨w.heap.size + 2, 0, none⟩ = false ∧ W.frozen? ⟨w.heap.size + 2, 1, none⟩ = false := duo_at h.three
theorem trio_box (w : World) (a b c d : Int) (t t' : TypeId) : ∃ w1 w2 w3, w.alloc (.cells #[.int .i64 a, .int .i64 b] t) = w1 ∧ w1.alloc (.cells #[.int .i64 c, .int .i64 d] t) = w2 ∧ w2.alloc (.cells #[.int .i64 0, .int .i64 0] t') = w3 ∧ w1.heap.size = w.heap.size + 1 ∧ w2.heap.size = w.heap.size + 2 ∧ w3.heap.size = w.heap.size + 3 ∧ Trio w w3 a b c d t t' := by
  obtain ⟨w1, w2, hw1, hw2, Z1, Z2, P⟩ := pair_box w a b c d t
  obtain ⟨w3, hw3, Z3, B3, T3⟩ := duo_box w2 0 0 t'
  rw [Z2] at T3
  exact ⟨w1, w2, w3, hw1, hw2, hw3, Z1, Z2, by omega, P.next B3, T3, by omega⟩
theorem pairS {w W : World} {a b c d : Int} {t : TypeId} (h : Pair w W a b c d t) : Hid (Pair w W a b c d t) ∧ W.cell? ⟨w.heap.size, 0, none⟩ = some (.int .i64 a) ∧ W.cell? ⟨w.heap.size, 1, none⟩ = some (.int .i64 b) ∧ W.cell? ⟨w.heap.size + 1, 0, none⟩ = some (.int .i64 c) ∧ W.cell? ⟨w.heap.size + 1, 1, none⟩ = some (.int .i64 d) := ⟨Lib.hid h, h.at⟩
theorem pairS_keep {w W W' : World} {a b c d : Int} {t : TypeId} (h : Hid (Pair w W a b c d t) ∧ W.cell? ⟨w.heap.size, 0, none⟩ = some (.int .i64 a) ∧ W.cell? ⟨w.heap.size, 1, none⟩ = some (.int .i64 b) ∧ W.cell? ⟨w.heap.size + 1, 0, none⟩ = some (.int .i64 c) ∧ W.cell? ⟨w.heap.size + 1, 1, none⟩ = some (.int .i64 d)) (k : Below W.heap.size W W') :
    Hid (Pair w W' a b c d t) ∧ W'.cell? ⟨w.heap.size, 0, none⟩ = some (.int .i64 a) ∧ W'.cell? ⟨w.heap.size, 1, none⟩ = some (.int .i64 b) ∧ W'.cell? ⟨w.heap.size + 1, 0, none⟩ = some (.int .i64 c) ∧ W'.cell? ⟨w.heap.size + 1, 1, none⟩ = some (.int .i64 d) := pairS (h.1.out.next k)
theorem Pair.onto {w W W' : World} {a b c d : Int} {t : TypeId} (h : Pair w W a b c d t) (k : Below (w.heap.size + 2) W W') : Pair w W' a b c d t :=
  ⟨h.one.below k (by omega), h.two.below k (by omega), Nat.le_trans h.size k.size, h.bel.trans (k.mono (by omega))⟩
theorem Pair.drew {w W : World} {a b c d : Int} {t : TypeId} (h : Pair w W a b c d t) : Pair w W.drew a b c d t := ⟨h.one, h.two, h.size, h.bel.drew⟩
/-- A box of two that a statement made ahead of its calls. -/
structure Duo (W : World) (g : Nat) (x y : Value) : Prop where
  c0 : W.cell? ⟨g, 0, none⟩ = some x
  c1 : W.cell? ⟨g, 1, none⟩ = some y
  f0 : W.frozen? ⟨g, 0, none⟩ = false
  f1 : W.frozen? ⟨g, 1, none⟩ = false
theorem Duo.more {W V : World} {g : Nat} {x y : Value} (h : Duo W g x y) (k : Below W.heap.size W V) : Duo V g x y :=
  have hg : g < W.heap.size := cell_lt h.c0
  ⟨(k.cell (p := ⟨g, 0, none⟩) hg).trans h.c0, (k.cell (p := ⟨g, 1, none⟩) hg).trans h.c1, (k.frozen (p := ⟨g, 0, none⟩) hg).trans h.f0, (k.frozen (p := ⟨g, 1, none⟩) hg).trans h.f1⟩
theorem Duo.now {W V : World} {x y : Value} {t : TypeId} (k : Below (W.alloc (.cells #[x, y] t)).heap.size (W.alloc (.cells #[x, y] t)) V) : Duo V W.heap.size x y := by
  obtain ⟨a, b, c, d⟩ := duo_at (Tri.new W [x, y] t)
  exact Duo.more ⟨a, b, c, d⟩ k
theorem Duo.nowD {W V : World} {x y : Value} {t : TypeId} (k : Below (W.alloc (.cells #[x, y] t)).drew.heap.size (W.alloc (.cells #[x, y] t)).drew V) : Duo V W.heap.size x y := by
  obtain ⟨a, b, c, d⟩ := duo_at (Tri.new W [x, y] t)
  exact Duo.more (W := (W.alloc (.cells #[x, y] t)).drew) ⟨a, b, c, d⟩ k
/-- Four cells that a statement reads while its calls make memory. -/
theorem reg4_call {W0 W W' : World} {p1 p2 p3 p4 : Addr} {x1 x2 x3 x4 : Value} (h : Hid (Below W0.heap.size W0 W) ∧ W.cell? p1 = some x1 ∧ W.cell? p2 = some x2 ∧ W.cell? p3 = some x3 ∧ W.cell? p4 = some x4) (k : Below W.heap.size W W') :
    Hid (Below W0.heap.size W0 W') ∧ W'.cell? p1 = some x1 ∧ W'.cell? p2 = some x2 ∧ W'.cell? p3 = some x3 ∧ W'.cell? p4 = some x4 :=
  ⟨Lib.hid (h.1.out.trans (k.mono h.1.out.size)), (k.cell (cell_lt h.2.1)).trans h.2.1, (k.cell (cell_lt h.2.2.1)).trans h.2.2.1, (k.cell (cell_lt h.2.2.2.1)).trans h.2.2.2.1, (k.cell (cell_lt h.2.2.2.2)).trans h.2.2.2.2⟩
theorem reg4_set {W0 W W' : World} {p1 p2 p3 p4 : Addr} {x1 x2 x3 x4 : Value} (hb : Hid (p1.block < W0.heap.size ∧ p2.block < W0.heap.size ∧ p3.block < W0.heap.size ∧ p4.block < W0.heap.size)) (h : Hid (Below W0.heap.size W0 W) ∧ W.cell? p1 = some x1 ∧ W.cell? p2 = some x2 ∧ W.cell? p3 = some x3 ∧ W.cell? p4 = some x4) (k : Below W0.heap.size W W') :
    Hid (Below W0.heap.size W0 W') ∧ W'.cell? p1 = some x1 ∧ W'.cell? p2 = some x2 ∧ W'.cell? p3 = some x3 ∧ W'.cell? p4 = some x4 :=
  ⟨Lib.hid (h.1.out.trans k), (k.cell hb.out.1).trans h.2.1, (k.cell hb.out.2.1).trans h.2.2.1, (k.cell hb.out.2.2.1).trans h.2.2.2.1, (k.cell hb.out.2.2.2).trans h.2.2.2.2⟩
theorem reg4_re {W0 W : World} {o o' : Obj} {p1 p2 p3 p4 : Addr} {x1 x2 x3 x4 : Value} (hb : Hid (p1.block < W0.heap.size ∧ p2.block < W0.heap.size ∧ p3.block < W0.heap.size ∧ p4.block < W0.heap.size)) (hW : Hid (Below W0.heap.size W0 W)) (h : Hid (Below W0.heap.size W0 (W.alloc o)) ∧ (W.alloc o).cell? p1 = some x1 ∧ (W.alloc o).cell? p2 = some x2 ∧ (W.alloc o).cell? p3 = some x3 ∧ (W.alloc o).cell? p4 = some x4) :
    Hid (Below W0.heap.size W0 (W.alloc o')) ∧ (W.alloc o').cell? p1 = some x1 ∧ (W.alloc o').cell? p2 = some x2 ∧ (W.alloc o').cell? p3 = some x3 ∧ (W.alloc o').cell? p4 = some x4 := by
  have z := hW.out.size
  have e : ∀ p : Addr, p.block < W0.heap.size → (W.alloc o').cell? p = (W.alloc o).cell? p := fun p hp => by
    rw [(bel_box W o').cell (p := p) (by omega), (bel_box W o).cell (p := p) (by omega)]
  exact ⟨Lib.hid (hW.out.trans ((bel_box W o').mono z)), (e _ hb.out.1).trans h.2.1, (e _ hb.out.2.1).trans h.2.2.1, (e _ hb.out.2.2.1).trans h.2.2.2.1, (e _ hb.out.2.2.2).trans h.2.2.2.2⟩
theorem reg5_call {W0 W W' : World} {p1 p2 p3 p4 p5 : Addr} {x1 x2 x3 x4 x5 : Value} (h : Hid (Below W0.heap.size W0 W) ∧ W.cell? p1 = some x1 ∧ W.cell? p2 = some x2 ∧ W.cell? p3 = some x3 ∧ W.cell? p4 = some x4 ∧ W.cell? p5 = some x5) (k : Below W.heap.size W W') :
    Hid (Below W0.heap.size W0 W') ∧ W'.cell? p1 = some x1 ∧ W'.cell? p2 = some x2 ∧ W'.cell? p3 = some x3 ∧ W'.cell? p4 = some x4 ∧ W'.cell? p5 = some x5 :=
  ⟨Lib.hid (h.1.out.trans (k.mono h.1.out.size)), (k.cell (cell_lt h.2.1)).trans h.2.1, (k.cell (cell_lt h.2.2.1)).trans h.2.2.1, (k.cell (cell_lt h.2.2.2.1)).trans h.2.2.2.1, (k.cell (cell_lt h.2.2.2.2.1)).trans h.2.2.2.2.1, (k.cell (cell_lt h.2.2.2.2.2)).trans h.2.2.2.2.2⟩
/-- What a statement left in a box that it made, and beside it. -/
def SumAt (W0 : World) (n m : Int) (ok : Bool) (p q : Value) (W : World) : Prop := ∃ g, p = .pointer (some ⟨g, 0, none⟩) ∧ q = .bool ok ∧ Below W0.heap.size W0 W ∧ Duo W g (.int .i64 n) (.int .i64 m) ∧ W0.heap.size ≤ g
theorem SumAt.new {W0 W : World} {n m : Int} {ok : Bool} {T : TypeId} (P : Below W0.heap.size W0 W) : SumAt W0 n m ok (.pointer (some ⟨W.heap.size, 0, none⟩)) (.bool ok) (W.alloc (.cells #[.int .i64 n, .int .i64 m] T)) := by
  obtain ⟨a, b, c, d⟩ := duo_at (Tri.new W [.int .i64 n, .int .i64 m] T)
  exact ⟨_, rfl, rfl, P.trans ((bel_box _ _).mono P.size), ⟨a, b, c, d⟩, P.size⟩
theorem SumAt.set {W0 W : World} {n m : Int} {ok : Bool} {g : Nat} {x y : Value} (P : Below W0.heap.size W0 W) (D : Duo W g x y) (hg : W0.heap.size ≤ g) : SumAt W0 n m ok (.pointer (some ⟨g, 0, none⟩)) (.bool ok) ((W.setCell ⟨g, 0, none⟩ (.int .i64 n)).setCell ⟨g, 1, none⟩ (.int .i64 m)) := by
  refine ⟨g, rfl, rfl, (P.setCell hg _).setCell hg _, ⟨?_, ?_, ?_, ?_⟩, hg⟩
  · rw [cell_other _ _ (by simp)]; exact cell_same _ _ D.c0
  · exact cell_same _ _ (by rw [cell_other _ _ (by simp)]; exact D.c1)
  · rw [World.frozen?_setCell, World.frozen?_setCell]; exact D.f0
  · rw [World.frozen?_setCell, World.frozen?_setCell]; exact D.f1
theorem spec_l31Cmp (a b c d : Nat) (w : World) (h1 : a ≤ 999) (h2 : b ≤ 60) (h3 : c ≤ 999) (h4 : d ≤ 60) :
    Calls Try.prog 39 #[.agg #[.int .i64 (a : Int), .int .i64 (b : Int)], .agg #[.int .i64 (c : Int), .int .i64 (d : Int)]] w (Bel (.int .i64 (if (a : Int) * d - c * b < 0 then -1 else if 0 < (a : Int) * d - c * b then 1 else 0)) w) := by
  obtain ⟨w1, w2, hw1, hw2, Z1, Z2, P⟩ := pair_box w a b c d 24
  obtain ⟨c0, c1, c2, c3⟩ := P.at
  have B := Lib.hid P.bel
  clear P
  obtain ⟨p0, p1⟩ := Fr.prod_bd h1 h4
  obtain ⟨p2, p3⟩ := Fr.prod_bd h3 h2
  by_cases k1 : (a : Int) * d < c * b
  · rw [if_pos (by omega)]
    go_enter Try.func39, Try.ntmps39
    go_wp2
    go_ret
    exact ⟨rfl, B.out⟩
  by_cases k2 : (c : Int) * b < a * d
  · rw [if_neg (by omega), if_pos (by omega)]
    go_enter Try.func39, Try.ntmps39
    go_wp2
    go_ret
    exact ⟨rfl, B.out⟩
  · rw [if_neg (by omega), if_neg (by omega)]
    go_enter Try.func39, Try.ntmps39
    go_wp2
    go_ret
    exact ⟨rfl, B.out⟩
def op_plus (x y : Int) : Int := x + y
def op_minus (x y : Int) : Int := x - y
theorem nat_sum (a b c d : Nat) : (a : Int) * (d : Int) + (c : Int) * (b : Int) = ((a * d + c * b : Nat) : Int) := by push_cast; rfl
theorem nat_mul (b d : Nat) : (b : Int) * (d : Int) = ((b * d : Nat) : Int) := by push_cast; rfl
theorem sum_bd {a b c d : Nat} (h1 : a ≤ 999) (h2 : b ≤ 60) (h3 : c ≤ 999) (h4 : d ≤ 60) : a * d + c * b ≤ 119880 ∧ b * d ≤ 3600 := by
  have k1 : a * d ≤ 999 * 60 := Nat.mul_le_mul h1 h4
  have k2 : c * b ≤ 999 * 60 := Nat.mul_le_mul h3 h2
  have k3 : b * d ≤ 60 * 60 := Nat.mul_le_mul h2 h4
  omega
theorem spec_l31Of' (x y : Int) (n d : Nat) (w : World) (hx : x = n) (hy : y = d) (h0 : 0 < d) (hn : n ≤ 1000000000000) (hd : d ≤ 1000000000000) :
    Calls Try.prog 50 #[.int .i64 x, .int .i64 y] w (Bel (.agg #[.int .i64 (Fr.num n d : Int), .int .i64 (Fr.den n d : Int)]) w) := by
  subst hx hy; exact spec_l31Of n d w h0 hn hd
theorem spec_FracSum (a b c d : Int) (w : World) :
    Calls Try.prog 52 #[.agg #[.int .i64 a, .int .i64 b], .agg #[.int .i64 c, .int .i64 d]] w (Bel (.tuple #[.agg #[.int .i64 (Fr.sN a b c d), .int .i64 (Fr.sD a b c d)], .bool (Fr.sB a b c d)]) w) := by
  obtain ⟨w1, w2, w3, hw1, hw2, hw3, Z1, Z2, Z3, P0⟩ := trio_box w a b c d 24 24
  obtain ⟨c0, c1, c2, c3⟩ := P0.pair.at
  have P := Lib.hid P0
  clear P0
  cases h1 : Fr.ok a b
  · obtain ⟨k1, k2, k3⟩ := Fr.s_no (a := a) (b := b) (c := c) (d := d) (by simp [Fr.two, h1])
    rw [k1, k2, k3]
    clear k1 k2 k3
    go_enter Try.func52, Try.ntmps52
    go_wp2_with fail
    refine (spec_FracOk _ _ _).mono ?_
    rintro e w4 ⟨rfl, b4⟩
    rw [h1]
    have P4 := Lib.hid (P.out.next b4)
    clear b4 c0 c1 c2 c3 hw1 hw2 hw3
    obtain ⟨e0, e1, f0, f1⟩ := P4.out.at
    go_wp2
    exact bodyPost_ret (v := .tuple #[.agg #[.int .i64 0, .int .i64 0], .bool false]) (by simp [results, Try.results52, go_sem, e0, e1]) rfl ⟨rfl, (P4.out.pair.bel.setCell (by simp) _).setCell (by simp) _⟩
  cases h2 : Fr.ok c d
  · obtain ⟨k1, k2, k3⟩ := Fr.s_no (a := a) (b := b) (c := c) (d := d) (by simp [Fr.two, h2])
    rw [k1, k2, k3]
    clear k1 k2 k3
    go_enter Try.func52, Try.ntmps52
    go_wp2_with fail
    refine (spec_FracOk _ _ _).mono ?_
    rintro e w4 ⟨rfl, b4⟩
    rw [h1]
    have P4 := Lib.hid (P.out.next b4)
    clear b4 c0 c1 c2 c3 hw1 hw2 hw3
    obtain ⟨c0, c1, c2, c3⟩ := P4.out.pair.at
    go_wp2_with fail
    refine (spec_FracOk _ _ _).mono ?_
    rintro e w5 ⟨rfl, b5⟩
    rw [h2]
    have P5 := Lib.hid (P4.out.next b5)
    clear b5 c0 c1 c2 c3
    obtain ⟨e0, e1, f0, f1⟩ := P5.out.at
    go_wp2
    exact bodyPost_ret (v := .tuple #[.agg #[.int .i64 0, .int .i64 0], .bool false]) (by simp [results, Try.results52, go_sem, e0, e1]) rfl ⟨rfl, (P5.out.pair.bel.setCell (by simp) _).setCell (by simp) _⟩
  have HT := Fr.two_iff.2 ⟨h1, h2⟩
  obtain ⟨a, b, rfl, rfl, l1, l2, l3, -⟩ := Fr.ok_nat h1
  obtain ⟨c, d, rfl, rfl, m1, m2, m3, -⟩ := Fr.ok_nat h2
  obtain ⟨k1, k2, k3⟩ := Fr.s_yes HT
  rw [k1, k2, k3]
  clear k1 k2 k3 HT
  obtain ⟨p0, p1⟩ := Fr.prod_bd l1 m3
  obtain ⟨p2, p3⟩ := Fr.prod_bd m1 l3
  obtain ⟨p4, p5⟩ := Fr.prod_bd l3 m3
  obtain ⟨s1, s2⟩ := sum_bd l1 l3 m1 m3
  have S0 := Nat.mul_pos l2 m2
  have C := Lib.hid (Fr.ok_low (n := a * d + c * b) S0)
  go_enter Try.func52, Try.ntmps52
  go_wp2_with fail
  refine (spec_FracOk _ _ _).mono ?_
  rintro e w4 ⟨rfl, b4⟩
  rw [h1]
  have P4 := Lib.hid (P.out.next b4)
  clear b4 c0 c1 c2 c3 hw1 hw2 hw3
  obtain ⟨c0, c1, c2, c3⟩ := P4.out.pair.at
  go_wp2_with fail
  refine (spec_FracOk _ _ _).mono ?_
  rintro e w5 ⟨rfl, b5⟩
  rw [h2]
  have P5 := Lib.hid (P4.out.next b5)
  clear b5 c0 c1 c2 c3
  obtain ⟨c0, c1, c2, c3⟩ := P5.out.pair.at
  go_wp2_with fail
  refine (spec_l31Of' _ _ (a * d + c * b) (b * d) _ (nat_sum a b c d) (nat_mul b d) S0 (by omega) (by omega)).mono ?_
  rintro e w6 ⟨rfl, b6⟩
  have P6 := Lib.hid (P5.out.next b6)
  clear b6 c0 c1 c2 c3
  obtain ⟨w7, hw7, Z7, B7, T7⟩ := duo_box w6 (Fr.num (a * d + c * b) (b * d)) (Fr.den (a * d + c * b) (b * d)) 24
  have P7 := Lib.hid (P6.out.next B7)
  have V := Lib.hid T7
  obtain ⟨d0, d1, -, -⟩ := duo_at T7
  clear B7 T7
  go_wp2_with fail
  refine (spec_FracOk _ _ _).mono ?_
  rintro e w8 ⟨rfl, b8⟩
  rw [C.out]
  obtain ⟨c0, c1, -, -⟩ := duo_at (V.out.below b8 (by omega))
  have P8 := Lib.hid (P7.out.next b8)
  clear b8 hw7 d0 d1
  obtain ⟨e0, e1, f0, f1⟩ := P8.out.at
  have z8 := P8.out.size
  cases hc : Fr.can (a * d + c * b) (b * d)
  · go_wp2
    exact bodyPost_ret (v := .tuple #[.agg #[.int .i64 0, .int .i64 0], .bool false]) (by simp [results, Try.results52, go_sem, e0, e1]) rfl ⟨by rw [hc]; rfl, (P8.out.pair.bel.setCell (by simp) _).setCell (by simp) _⟩
  · go_wp2
    exact bodyPost_ret (v := .tuple #[.agg #[.int .i64 (Fr.num (a * d + c * b) (b * d) : Int), .int .i64 (Fr.den (a * d + c * b) (b * d) : Int)], .bool true]) (by simp [results, Try.results52, go_sem, e0, e1]) rfl ⟨by rw [hc]; rfl, (P8.out.pair.bel.setCell (by simp) _).setCell (by simp) _⟩
theorem impl_ratio_plus (a b c d : Nat) (w : World) (h1 : a ≤ 999) (h2 : b ≤ 60) (h3 : c ≤ 999) (h4 : d ≤ 60) :
    Calls Try.prog 45 #[.agg #[.int .i64 (a : Int), .int .i64 (b : Int)], .agg #[.int .i64 (c : Int), .int .i64 (d : Int)]] w (Bel (.agg #[.int .i64 (op_plus ((a : Int) * d) ((c : Int) * b)), .int .i64 ((b : Int) * d)]) w) := by
  obtain ⟨w1, w2, w3, hw1, hw2, hw3, Z1, Z2, Z3, P0⟩ := trio_box w a b c d 60 60
  obtain ⟨c0, c1, c2, c3⟩ := P0.pair.at
  obtain ⟨e0, e1, f0, f1⟩ := P0.at
  have P := Lib.hid P0
  clear P0
  obtain ⟨p0, p1⟩ := Fr.prod_bd h1 h4
  obtain ⟨p2, p3⟩ := Fr.prod_bd h3 h2
  obtain ⟨p4, p5⟩ := Fr.prod_bd h2 h4
  go_enter Try.func45, Try.ntmps45
  go_wp2
  exact bodyPost_ret (v := .agg #[.int .i64 (op_plus ((a : Int) * d) ((c : Int) * b)), .int .i64 ((b : Int) * d)]) (by simp [results, Try.results45, go_sem, e0, e1]; rfl) rfl ⟨rfl, (P.out.pair.bel.setCell (by simp) _).setCell (by simp) _⟩
theorem impl_ratio_minus (a b c d : Nat) (w : World) (h1 : a ≤ 999) (h2 : b ≤ 60) (h3 : c ≤ 999) (h4 : d ≤ 60) :
    Calls Try.prog 43 #[.agg #[.int .i64 (a : Int), .int .i64 (b : Int)], .agg #[.int .i64 (c : Int), .int .i64 (d : Int)]] w (Bel (.agg #[.int .i64 (op_minus ((a : Int) * d) ((c : Int) * b)), .int .i64 ((b : Int) * d)]) w) := by
  obtain ⟨w1, w2, w3, hw1, hw2, hw3, Z1, Z2, Z3, P0⟩ := trio_box w a b c d 60 60
  obtain ⟨c0, c1, c2, c3⟩ := P0.pair.at
  obtain ⟨e0, e1, f0, f1⟩ := P0.at
  have P := Lib.hid P0
  clear P0
  obtain ⟨p0, p1⟩ := Fr.prod_bd h1 h4
  obtain ⟨p2, p3⟩ := Fr.prod_bd h3 h2
  obtain ⟨p4, p5⟩ := Fr.prod_bd h2 h4
  go_enter Try.func43, Try.ntmps43
  go_wp2
  exact bodyPost_ret (v := .agg #[.int .i64 (op_minus ((a : Int) * d) ((c : Int) * b)), .int .i64 ((b : Int) * d)]) (by simp [results, Try.results43, go_sem, e0, e1]; rfl) rfl ⟨rfl, (P.out.pair.bel.setCell (by simp) _).setCell (by simp) _⟩
end Go.Proofs.Ytigeffgehckbpab
