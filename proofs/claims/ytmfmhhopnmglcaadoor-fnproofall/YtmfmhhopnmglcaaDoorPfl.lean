/-
  Chapter 12: the laws' helpers over proofs.
-/
import Derived.Test.YtmfmhhopnmglcaaDoorPft
import Derived.Test.YtmfmhhopnmglcaaDoorLw
namespace Go.Proofs.YtmfmhhopnmglcaaDoor
open Go.RowKit
set_option linter.unusedVariables false
set_option linter.unusedSimpArgs false
set_option maxRecDepth 20000
theorem prf_box (w : World) (u v : Int) (a : Option Addr) (n cap : Nat) (t : TypeId) : ∃ w1, w.alloc (.cells #[.int .i64 u, .int .i64 v, .slice a n cap] t) = w1 ∧ w1.heap.size = w.heap.size + 1 ∧ Below w.heap.size w w1 ∧ Tri w1 w.heap.size (prc u v a n cap) t :=
  ⟨_, rfl, size_alloc1 _ _, (Below.refl _ _).alloc (Nat.le_refl _) _, Tri.new _ _ _⟩
theorem laws_eqProof (u v u' v' : Int) (a a' : Option Addr) (n n' cap cap' : Nat) (xs ys : List Int) (w : World) (h : Sl w a n xs) (h' : Sl w a' n' ys) (hu : u = u') (hv : v = v') (hm : n ≤ 1048576) (hm' : n' ≤ 1048576) :
    Calls Tryd.prog 15 #[.agg #[.int .i64 u, .int .i64 v, .slice a n cap], .agg #[.int .i64 u', .int .i64 v', .slice a' n' cap']] w (Bel (.bool (eqB xs ys)) w) := by
  subst hu hv
  obtain ⟨w1, hw1, Z1, B1, T1⟩ := prf_box w u v a n cap 28
  obtain ⟨w2, hw2, Z2, B2, T2⟩ := prf_box w1 u v a' n' cap' 28
  rw [Z1] at T2
  have U2 := T1.below B2 (by omega)
  have B := B1.trans (B2.mono (by omega))
  have c0 : w2.cell? ⟨w.heap.size, 0, none⟩ = some (.int .i64 u) := U2.at_ 0
  have c1 : w2.cell? ⟨w.heap.size, 1, none⟩ = some (.int .i64 v) := U2.at_ 1
  have c2 : w2.cell? ⟨w.heap.size, 2, none⟩ = some (.slice a n cap) := U2.at_ 2
  have e0 : w2.cell? ⟨w.heap.size + 1, 0, none⟩ = some (.int .i64 u) := T2.at_ 0
  have e1 : w2.cell? ⟨w.heap.size + 1, 1, none⟩ = some (.int .i64 v) := T2.at_ 1
  have e2 : w2.cell? ⟨w.heap.size + 1, 2, none⟩ = some (.slice a' n' cap') := T2.at_ 2
  have H := Lib.hid (h.below B)
  have H' := Lib.hid (h'.below B)
  have BB := Lib.hid B
  clear h h' U2 T1 T2 B1 B2 B
  go_enter Tryd.func15, Tryd.ntmps15
  go_wp2_with fail
  refine (laws_eqIntS _ _ _ _ _ _ _ _ _ H.out H'.out hm hm').mono ?_
  rintro e w3 hd
  obtain ⟨rfl, b3⟩ := hd.below
  have B3 := Lib.hid (BB.out.trans (b3.mono BB.out.size))
  cases he : eqB xs ys
  all_goals
    go_wp2
    go_ret
    exact ⟨by rw [he]; rfl, B3.out⟩
/-- The row of a proof marked: what else there is stays, and one block is new. -/
theorem laws_markProof (lo hi : Nat) (u v : Int) (a : Option Addr) (n cap : Nat) (zs : List Int) (q : Int) (w : World) (h : Own lo hi w a n cap zs) (hm : n ≤ 1048576) (q0 : 0 ≤ q) (q1 : q ≤ 1099511627776) :
    Calls Tryd.prog 19 #[.agg #[.int .i64 u, .int .i64 v, .slice a n cap], .int .i64 q] w fun e w' => ∃ wb, Below w.heap.size w wb ∧ MarkPost lo hi a n cap q wb e w' := by
  obtain ⟨w1, hw1, Z1, B1, T1⟩ := prf_box w u v a n cap 28
  have c2 : w1.cell? ⟨w.heap.size, 2, none⟩ = some (.slice a n cap) := T1.at_ 2
  have H := Lib.hid (h.below B1)
  have BB := Lib.hid B1
  clear h T1 B1
  go_enter Tryd.func19, Tryd.ntmps19
  go_wp2_with fail
  refine (laws_markIntS lo hi _ _ _ _ _ _ H.out hm q0 q1).mono ?_
  rintro e w2 ⟨rfl, m1, m2, m3⟩
  have M := Lib.hid (And.intro m1 (And.intro m2 m3))
  clear m1 m2 m3
  go_wp2
  go_ret
  exact ⟨w1, BB.out, rfl, M.out.1, M.out.2.1, M.out.2.2⟩
theorem laws_loProof (u v u' v' : Int) (a a' : Option Addr) (n n' cap cap' : Nat) (xs ys : List Int) (w : World) (h : Sl w a n xs) (h' : Sl w a' n' ys) (hu : u = u') (hv : v = v') (hm : n ≤ 1048576) (hm' : n' ≤ 1048576) :
    Calls Tryd.prog 24 #[.agg #[.int .i64 u, .int .i64 v, .slice a n cap], .agg #[.int .i64 u', .int .i64 v', .slice a' n' cap']] w (Bel (.bool (eqB xs ys)) w) := by
  subst hu hv
  obtain ⟨w1, hw1, Z1, B1, T1⟩ := prf_box w u v a n cap 28
  obtain ⟨w2, hw2, Z2, B2, T2⟩ := prf_box w1 u v a' n' cap' 28
  rw [Z1] at T2
  have U2 := T1.below B2 (by omega)
  have B := B1.trans (B2.mono (by omega))
  have c0 : w2.cell? ⟨w.heap.size, 0, none⟩ = some (.int .i64 u) := U2.at_ 0
  have c1 : w2.cell? ⟨w.heap.size, 1, none⟩ = some (.int .i64 v) := U2.at_ 1
  have c2 : w2.cell? ⟨w.heap.size, 2, none⟩ = some (.slice a n cap) := U2.at_ 2
  have e0 : w2.cell? ⟨w.heap.size + 1, 0, none⟩ = some (.int .i64 u) := T2.at_ 0
  have e1 : w2.cell? ⟨w.heap.size + 1, 1, none⟩ = some (.int .i64 v) := T2.at_ 1
  have e2 : w2.cell? ⟨w.heap.size + 1, 2, none⟩ = some (.slice a' n' cap') := T2.at_ 2
  have H := Lib.hid (h.below B)
  have H' := Lib.hid (h'.below B)
  have BB := Lib.hid B
  clear h h' U2 T1 T2 B1 B2 B
  go_enter Tryd.func24, Tryd.ntmps24
  go_wp2_with fail
  refine (laws_loInts _ _ _ _ _ _ _ _ _ H.out H'.out hm hm').mono ?_
  rintro e w3 hd
  obtain ⟨rfl, b3⟩ := hd.below
  have B3 := Lib.hid (BB.out.trans (b3.mono BB.out.size))
  cases he : eqB xs ys
  all_goals
    go_wp2
    go_ret
    exact ⟨by rw [he]; rfl, B3.out⟩
end Go.Proofs.YtmfmhhopnmglcaaDoor
