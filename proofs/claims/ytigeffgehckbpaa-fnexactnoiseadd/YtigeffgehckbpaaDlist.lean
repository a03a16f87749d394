/-
  Drawn lists of numbers, and the draws of chapter 2.
-/
import Derived.Test.YtigeffgehckbpaaDraw
import Derived.Test.YtigeffgehckbpaaLw
namespace Go.Proofs.Ytigeffgehckbpaa
open Go.RowKit
set_option linter.unusedVariables false
set_option linter.unusedSimpArgs false
set_option maxRecDepth 20000
theorem own_kb {base b : Nat} {e : TypeId} {v : Value} {n : Nat} {xs : List Value} {w w' : World} (h : w.ownsRow base e 1 v n xs) (k : Kb b w w') (hb : b < base) : w'.ownsRow base e 1 v n xs := by
  rcases h with ⟨h1, h2 | ⟨g, cap, cur, hv, hg, hh, h3⟩⟩
  · exact ⟨h1, .inl h2⟩
  · have hlt : g < w.heap.size := by
      rcases Nat.lt_or_ge g w.heap.size with h' | h'
      · exact h'
      · rw [Array.getElem?_eq_none h'] at hh; cases hh
    exact ⟨h1, .inr ⟨g, cap, cur, hv, hg, by rw [k.block g hlt (by omega)]; exact hh, h3⟩⟩
theorem Own.kb {lo hi b : Nat} {w w' : World} {a : Option Addr} {n cap : Nat} {zs : List Int} (h : Own lo hi w a n cap zs) (k : Kb b w w') (hb : b < lo) : Own lo hi w' a n cap zs :=
  h.keep (Chg.kb k) fun c h1 _ _ => by omega
/-- Drawn: numbers in memory of their own; nothing that was there has turned. -/
def DrawnOne (many : Nat) (w : World) (e : Ending) (w' : World) : Prop := ∃ a n cap zs, n ≤ many ∧ e = .returned (.slice a n cap) ∧ Own w.heap.size w'.heap.size w' a n cap zs ∧ Below w.heap.size w w'
def DrawnAt (many : Nat) (w : World) (e : Ending) (w' : World) : Prop := ∃ a n cap zs, ∃ x : Int, n ≤ many ∧ -1 ≤ x ∧ x ≤ 31 ∧ e = .returned (.tuple #[.slice a n cap, .int .i64 x]) ∧ Own w.heap.size w'.heap.size w' a n cap zs ∧ Below w.heap.size w w'
def DrawnTwo (many many' : Nat) (w : World) (e : Ending) (w' : World) : Prop := ∃ a n cap zs a' n' cap' zs' mid, n ≤ many ∧ n' ≤ many' ∧ e = .returned (.tuple #[.slice a n cap, .slice a' n' cap']) ∧ Own w.heap.size mid w' a n cap zs ∧ Own mid w'.heap.size w' a' n' cap' zs' ∧ Below w.heap.size w w'
def DrawnLine (w : World) (e : Ending) (w' : World) : Prop := ∃ m x : Int, -11 ≤ m ∧ m ≤ 10 ∧ -1 ≤ x ∧ x ≤ 31 ∧ e = .returned (.tuple #[.int .i64 m, .int .i64 x]) ∧ Below w.heap.size w w'
end Go.Proofs.Ytigeffgehckbpaa
