/-
  The functions of this cut that are tame.
-/
import Derived.Test.YtadngncbbbbapaaKay
import Derived.Test.YtadngncbbbbapaaOps
import Derived.Test.YtadngncbbbbapaaRows
import Derived.WalkKit
namespace Go.Proofs.Ytadngncbbbbapaa.Lift
open Go.Conc
def fs : List Nat := [13, 14, 16, 18, 19, 21, 22, 23, 24, 26, 27, 28, 29, 30, 31, 32, 33, 34, 35, 36, 37, 38, 39, 41, 42, 43, 44, 45, 46, 47, 48, 49, 50, 51, 52, 53, 54, 55, 61, 62, 63, 64, 65, 66, 67, 68]
theorem no_steps : (Try.prog.funcs.toList.all fun f => match f.body with | some c => (readies c).isEmpty | none => true) = true := by kernel_rfl
theorem ahead_ok : Try.prog.follows .staticDataAhead = true := by kernel_rfl
theorem fs_ok : (fs.all (fnOk Try.prog fs)) = true := by kernel_rfl
theorem steps_none (g : Nat) : Try.prog.stepOf g = none := by
  unfold Program.stepOf
  rw [Array.findIdx?_eq_none_iff]
  intro f hf
  have h := List.all_eq_true.1 no_steps f (by simpa using hf)
  cases hb : f.body with
  | none => rfl
  | some c =>
    rw [hb] at h
    have h' : readies c = [] := by simpa using h
    simp [h']
theorem F : Fns Try.prog (· ∈ fs) := fns_of fs_ok ahead_ok steps_none
end Go.Proofs.Ytadngncbbbbapaa.Lift
