/-
  Chapter 3: the program's functions in company, where they answer.
-/
import Derived.Test.YtadngncbbbbapaaShm
import Derived.Test.YtadngncbbbbapaaShp
namespace Go.Proofs.Ytadngncbbbbapaa.Lift
open Go.Conc Go.Proofs.Ytadngncbbbbapaa.Crew Go.RowKit
set_option linter.unusedVariables false
section
variable {B : Nat} {v : World} {pa pb : Option Addr} {n m ca cb : Nat} {xs ys zs : List Int}
theorem back_k (hf : Fp.fit xs ys = true) (hz : add xs ys = zs) (hB : B ≤ v.heap.size) (hx : Sl v pa n xs) (hy : Sl v pb m ys) (h1 : n ≤ ca) (h2 : m ≤ cb) : KCalls Try.prog B 17 #[.slice pa n ca, .slice pb m cb] v (NewI zs true v) := by
  have := ShareBack_k hB hx hy h1 h2
  rw [hf] at this
  rw [← hz]
  exact this
theorem sum_k (hf : Fp.fit xs ys = true) (hz : add xs ys = zs) (hB : B ≤ v.heap.size) (hx : Sl v pa n xs) (hy : Sl v pb m ys) (h1 : n ≤ ca) (h2 : m ≤ cb) : KCalls Try.prog B 25 #[.slice pa n ca, .slice pb m cb] v (NewI zs true v) := by
  have := ShareSum_k hB hx hy h1 h2
  rw [hf] at this
  rw [← hz]
  exact this
theorem drawn_k (hf : Fp.fit xs ys = true) (hz : sub xs ys = zs) (hB : B ≤ v.heap.size) (hx : Sl v pa n xs) (hy : Sl v pb m ys) (h1 : n ≤ ca) (h2 : m ≤ cb) : KCalls Try.prog B 20 #[.slice pa n ca, .slice pb m cb] v (NewI zs true v) := by
  have := ShareDrawn_k hB hx hy h1 h2
  rw [hf] at this
  rw [← hz]
  exact this
theorem make_k (hf : Fp.fit xs ys = true) (hz : sub xs ys = zs) (hB : B ≤ v.heap.size) (hx : Sl v pa n xs) (hy : Sl v pb m ys) (h1 : n ≤ ca) (h2 : m ≤ cb) : KCalls Try.prog B 15 #[.slice pa n ca, .slice pb m cb] v (NewK2 zs ys true v) := by
  have := ShareMake_k hB hx hy h1 h2
  rw [hf, kept_yes hf] at this
  rw [← hz]
  exact this
end
theorem some_sok (n m : Nat) (h : m ≤ 20) : Fp.sok (some_ n m) = true := by
  rw [Fp.sok_iff, some_len]
  refine ⟨h, fun z hz => ?_⟩
  simp [some_] at hz
  obtain ⟨i, _, rfl⟩ := hz
  exact Fp.emod_ok _
end Go.Proofs.Ytadngncbbbbapaa.Lift
