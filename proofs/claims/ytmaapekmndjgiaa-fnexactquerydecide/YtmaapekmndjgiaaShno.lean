/-
  Chapter 3: where numbers cannot be put in shares the program's functions say so; no goroutine is started.
-/
import Derived.Test.YtmaapekmndjgiaaShok
namespace Go.Proofs.Ytmaapekmndjgiaa
open Go.RowKit
set_option linter.unusedVariables false
set_option linter.unusedSimpArgs false
def Fp.fit (xs ys : List Int) : Bool := Fp.sok xs && Fp.sok ys && decide (xs.length = ys.length)
/-- Number by number, if it may be done. -/
def Lift.comb (g : Int → Int → Int) (xs ys : List Int) : List Int := if Fp.fit xs ys then (List.range xs.length).map (fun t => g (xs.getD t 0) (ys.getD t 0)) else []
end Go.Proofs.Ytmaapekmndjgiaa
