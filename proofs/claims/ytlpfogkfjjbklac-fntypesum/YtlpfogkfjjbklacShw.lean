/-
  Chapter 3: the program's functions in company, where they answer.
-/
import Derived.Test.YtlpfogkfjjbklacShm
import Derived.Test.YtlpfogkfjjbklacShp
namespace Go.Proofs.Ytlpfogkfjjbklac.Lift
open Go.Conc Go.Proofs.Ytlpfogkfjjbklac.Crew Go.RowKit
set_option linter.unusedVariables false
section
variable {B : Nat} {v : World} {pa pb : Option Addr} {n m ca cb : Nat} {xs ys zs : List Int}
theorem sum_k (hf : Fp.fit xs ys = true) (hz : add xs ys = zs) (hB : B ≤ v.heap.size) (hx : Sl v pa n xs) (hy : Sl v pb m ys) (h1 : n ≤ ca) (h2 : m ≤ cb) : KCalls Try.prog B 8 #[.slice pa n ca, .slice pb m cb] v (NewI zs true v) := by
  have := ShareSum_k hB hx hy h1 h2
  rw [hf] at this
  rw [← hz]
  exact this
end
end Go.Proofs.Ytlpfogkfjjbklac.Lift
