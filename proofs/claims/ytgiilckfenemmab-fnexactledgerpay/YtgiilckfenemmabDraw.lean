/-
  The reader of drawn inputs: opening it, and a pick. What is drawn is within its bounds; nothing but the reader's own block turns.
-/
import Derived.Test.YtgiilckfenemmabRows
import Derived.Test.YtgiilckfenemmabBase
namespace Go.Proofs.Ytgiilckfenemmab
open Go.RowKit
set_option linter.unusedVariables false
set_option linter.unusedSimpArgs false
theorem two_at {B b q : Nat} {w w2 : World} {x y : Value} {t : Nat} (k : Kb b (w.alloc (.cells #[x, y] t)) w2) (hb : b < w.heap.size) :
    w2.cell? ⟨w.heap.size, 0, none⟩ = some x ∧ w2.cell? ⟨w.heap.size, 1, none⟩ = some y := by
  refine ⟨?_, ?_⟩
  · rw [k.cell (p := ⟨w.heap.size, 0, none⟩) (by simp) (by simp; omega)]; simp
  · rw [k.cell (p := ⟨w.heap.size, 1, none⟩) (by simp) (by simp; omega)]; simp
end Go.Proofs.Ytgiilckfenemmab
