/-
  The functions of this cut that are tame.
-/
import Derived.Test.YtlpfogkfjjbklacKay
import Derived.Test.YtlpfogkfjjbklacOps
import Derived.Test.YtlpfogkfjjbklacRows
import Derived.WalkKit
namespace Go.Proofs.Ytlpfogkfjjbklac.Lift
open Go.Conc
def fs : List Nat := [4, 5, 6, 7, 9, 10, 11, 12, 13, 14, 15, 17, 18, 19, 20, 21, 27, 28, 68, 69, 70, 71, 72, 73, 74, 75, 76]
theorem no_steps : (Try.prog.funcs.toList.all fun f => match f.body with | some c => (readies c).isEmpty | none => true) = true := by kernel_rfl
theorem ahead_ok : Try.prog.follows .staticDataAhead = true := by kernel_rfl
theorem fs_ok : (fs.all (fnOk Try.prog fs)) = true := by kernel_rfl
theorem steps_none (g : Nat) : Try.prog.stepOf g = none := by
  unfold Program.stepOf
  rw [Array.findIdx?_eq_none_iff]
  intro f hf
  have h := List.all_eq_true.1 no_steps f (by simpa using hf)
  cases hb : f.body with
  | none => rfl
  | some c =>
    rw [hb] at h
    have h' : readies c = [] := by simpa using h
    simp [h']
theorem F : Fns Try.prog (· ∈ fs) := fns_of fs_ok ahead_ok steps_none
end Go.Proofs.Ytlpfogkfjjbklac.Lift
