/-
  Lagrange's factors: the program's PolyLine and the model's.
-/
import Derived.Test.YtmfmhhopnmglcaaDoorPoly
namespace Go.Proofs.YtmfmhhopnmglcaaDoor
open Go.RowKit
set_option linter.unusedVariables false
set_option linter.unusedSimpArgs false
set_option maxRecDepth 20000
/-- What PolyLine answers. -/
def lineOf (many x : Int) : List Int := if inB many 0 9 && Fp.ok x then Fp.lagL many.toNat x else []
theorem lineOf_no {many x : Int} (h : inB many 0 9 = false) : lineOf many x = [] := by simp [lineOf, h]
theorem lineOf_nx {many x : Int} (h : Fp.ok x = false) : lineOf many x = [] := by simp [lineOf, h]
theorem lineOf_yes {x : Int} {n : Nat} (h : n ≤ 9) (hx : Fp.ok x = true) : lineOf (n : Int) x = Fp.lagL n x := by
  have : inB (n : Int) 0 9 = true := by simp [inB]; omega
  simp [lineOf, this, hx]
theorem lineOf_len (many x : Int) : (lineOf many x).length ≤ 9 := by
  unfold lineOf
  split
  · rename_i h
    simp [inB] at h
    simp [Fp.lagL]; omega
  · simp
theorem inB_iff {n lo hi : Int} : inB n lo hi = true ↔ lo ≤ n ∧ n ≤ hi := by simp [inB]
end Go.Proofs.YtmfmhhopnmglcaaDoor
