/-
  The draws of chapter 11.
-/
import Derived.Test.YtamikccedcffeaaDlist
import Derived.Test.YtamikccedcffeaaTys
namespace Go.Proofs.Ytamikccedcffeaa
open Go.RowKit
set_option linter.unusedVariables false
set_option linter.unusedSimpArgs false
theorem five_at {b : Nat} {w w2 : World} {x y z u v : Int} {t : Nat} (k : Kb b (w.alloc (.cells #[.int .i64 x, .int .i64 y, .int .i64 z, .int .i64 u, .int .i64 v] t)) w2) (hb : b < w.heap.size) {i : Nat} (hi : i < 5) :
    ∃ c : Int, w2.cell? ⟨w.heap.size, i, none⟩ = some (.int .i64 c) := by
  rw [k.cell (p := ⟨w.heap.size, i, none⟩) (by simp) (by simp; omega)]
  match i, hi with
  | 0, _ => exact ⟨x, by simp⟩
  | 1, _ => exact ⟨y, by simp⟩
  | 2, _ => exact ⟨z, by simp⟩
  | 3, _ => exact ⟨u, by simp⟩
  | 4, _ => exact ⟨v, by simp⟩
theorem tk_add {v : Int} (h0 : 0 ≤ v) (h1 : v < 3) : Fp.tk (1 + v) = true := by simp [Fp.tk]; omega
end Go.Proofs.Ytamikccedcffeaa
