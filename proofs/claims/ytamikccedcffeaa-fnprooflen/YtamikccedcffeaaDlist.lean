/-
  Drawn lists of numbers, and the draws of chapter 2.
-/
import Derived.Test.YtamikccedcffeaaDraw
import Derived.Test.YtamikccedcffeaaLw
namespace Go.Proofs.Ytamikccedcffeaa
open Go.RowKit
set_option linter.unusedVariables false
set_option linter.unusedSimpArgs false
theorem own_kb {base b : Nat} {e : TypeId} {v : Value} {n : Nat} {xs : List Value} {w w' : World} (h : w.ownsRow base e 1 v n xs) (k : Kb b w w') (hb : b < base) : w'.ownsRow base e 1 v n xs := by
  rcases h with ⟨h1, h2 | ⟨g, cap, cur, hv, hg, hh, h3⟩⟩
  · exact ⟨h1, .inl h2⟩
  · have hlt : g < w.heap.size := by
      rcases Nat.lt_or_ge g w.heap.size with h' | h'
      · exact h'
      · rw [Array.getElem?_eq_none h'] at hh; cases hh
    exact ⟨h1, .inr ⟨g, cap, cur, hv, hg, by rw [k.block g hlt (by omega)]; exact hh, h3⟩⟩
theorem Rd.keepB {B b q base : Nat} {w w' : World} (h : Rd B b q w) (k : Below base w w') (hb : b < base) : Rd B b q w' := by
  obtain ⟨h1, h2, ⟨a, len, cap, g1, g2, g3⟩, ⟨p, p1, p2, p3⟩⟩ := h
  refine ⟨h1, Nat.lt_of_lt_of_le h2 k.size, ⟨a, len, cap, g1, ?_, g3.below (k.mono (by omega))⟩, p, p1, ?_, ?_⟩
  · rw [k.cell (p := ⟨b, 0, none⟩) hb]; exact g2
  · rw [k.cell (p := ⟨b, 1, none⟩) hb]; exact p2
  · rw [k.frozen (p := ⟨b, 1, none⟩) hb]; exact p3
theorem Kb.then {b : Nat} {u v w : World} (h : Kb b u v) (k : Below u.heap.size v w) : Kb b u w :=
  ⟨k.os.trans h.os, k.tape.trans h.tape, k.output.trans h.output, Nat.le_trans h.size k.size, fun i hi hb => (k.block i hi).trans (h.block i hi hb)⟩
theorem Own.kb {lo hi b : Nat} {w w' : World} {a : Option Addr} {n cap : Nat} {zs : List Int} (h : Own lo hi w a n cap zs) (k : Kb b w w') (hb : b < lo) : Own lo hi w' a n cap zs :=
  h.keep (Chg.kb k) fun c h1 _ _ => by omega
/-- Drawn: numbers in memory of their own; nothing that was there has turned. -/
def DrawnOne (many : Nat) (w : World) (e : Ending) (w' : World) : Prop := ∃ a n cap zs, n ≤ many ∧ e = .returned (.slice a n cap) ∧ Own w.heap.size w'.heap.size w' a n cap zs ∧ Below w.heap.size w w'
def DrawnAt (many : Nat) (w : World) (e : Ending) (w' : World) : Prop := ∃ a n cap zs, ∃ x : Int, n ≤ many ∧ -1 ≤ x ∧ x ≤ 31 ∧ e = .returned (.tuple #[.slice a n cap, .int .i64 x]) ∧ Own w.heap.size w'.heap.size w' a n cap zs ∧ Below w.heap.size w w'
def DrawnTwo (many many' : Nat) (w : World) (e : Ending) (w' : World) : Prop := ∃ a n cap zs a' n' cap' zs' mid, n ≤ many ∧ n' ≤ many' ∧ e = .returned (.tuple #[.slice a n cap, .slice a' n' cap']) ∧ Own w.heap.size mid w' a n cap zs ∧ Own mid w'.heap.size w' a' n' cap' zs' ∧ Below w.heap.size w w'
def DrawnLine (w : World) (e : Ending) (w' : World) : Prop := ∃ m x : Int, -11 ≤ m ∧ m ≤ 10 ∧ -1 ≤ x ∧ x ≤ 31 ∧ e = .returned (.tuple #[.int .i64 m, .int .i64 x]) ∧ Below w.heap.size w w'
end Go.Proofs.Ytamikccedcffeaa
