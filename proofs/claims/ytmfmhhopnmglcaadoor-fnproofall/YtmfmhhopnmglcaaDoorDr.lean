/-
  The door: the one listed variable, a sentinel: what the row's condition says of memory, a start that meets it, the variable read again.
-/
import Derived.Test.YtmfmhhopnmglcaaDoorRows
import Derived.Test.YtmfmhhopnmglcaaDoorEis
import Derived.ProofKit
import Derived.LaidMore
import Derived.LaidHandle
import Derived.OpenShut
import Derived.Stop.Joined
import Derived.Stop.LaidErr
namespace Go.Proofs.YtmfmhhopnmglcaaDoor
open Go.ChangeShapes Go.WideShapes Go.ChangeAt Go.RowKit
set_option linter.unusedVariables false
set_option maxRecDepth 20000
abbrev errName : String := "loop.example/scrutineer/impl.errMalformed"
abbrev errNum : Nat := 0
abbrev laid1 : List (String × DataW Unit) := [(errName, Rows.laid_loop_example_scrutineer_impl_errMalformed)]
theorem dr_g : Tryd.prog.globalNamed errName = some errNum := by kernel_rfl
theorem dr_ty : (Tryd.prog.globals[errNum]?).map (·.type) = some 60 := by kernel_rfl
theorem dr_star : "*" ++ "errors.errorString" = "*errors.errorString" := by decide
theorem dr_row (u : TypeId) (h : Tryd.prog.typeName? 3 u = some "*errors.errorString") : u = 122 :=
  typeName_ptr_named (nm := "errors.errorString") (by rw [dr_star]; kernel_rfl) (by kernel_rfl) (by decide) u (by rw [dr_star]; exact h)
theorem dr_c1 : Tryd.prog.cellsOf 147 = 1 := by kernel_rfl
theorem dr_c2 : Tryd.prog.cellsOf 9 = 1 := by kernel_rfl
theorem dr_err {W : World} (h : laidMetH Tryd.prog laid1 W) : ∃ ea, W.var? Tryd.prog errName = some #[.iface 122 (.pointer (some ea))] ∧ Err W ea := by
  rw [MakeChecks.laidMetH_plain _ _ _ (by kernel_rfl)] at h
  obtain ⟨a, s, hv, -, -, -⟩ := laid_sentinel h dr_g dr_ty Tryd.underlying60 dr_row Tryd.underlying122 Tryd.underlying147 rfl rfl Tryd.underlying9 dr_c1 dr_c2
  exact ⟨a, hv, by unfold Err; simpa using World.var?_cell dr_g hv 0⟩
theorem dr_met (os : Os) (args : Array Value) : laidMetH Tryd.prog laid1 ((World.doorLaid Tryd.prog 28 os).forCall (fun _ _ => 0) ⟨#[], args, []⟩).memory :=
  laidMetH_of_parts3 (fuel := 8) (laidMet_of_run' 8 (by kernel_rfl) (by kernel_rfl)) (by kernel_rfl) (by kernel_rfl)
theorem dr_read {H : Type} (enc : TypeId × Value → H) {W : World} {ea : Addr} (hv : W.var? Tryd.prog errName = some #[.iface 122 (.pointer (some ea))]) (sp : Nat → Bool) :
    DataW.TrodVars enc Tryd.prog W sp [errName] [tok enc (.iface 122 (.pointer (some ea)))] [.cell errNum 0] :=
  vars_read1 enc dr_g dr_ty Tryd.underlying60 hv trivial sp
theorem dr_var {W W' : World} {cs : Array Value} (h : W.var? Tryd.prog errName = some cs) (k : Below W.heap.size W W') : W'.var? Tryd.prog errName = some cs := by
  unfold World.var? at h ⊢
  rw [dr_g] at h ⊢
  simp only [Option.bind_some] at h ⊢
  have hlt : errNum < W.heap.size := by
    rcases Nat.lt_or_ge errNum W.heap.size with h' | h'
    · exact h'
    · simp [Array.getElem?_eq_none h'] at h
  rw [k.block errNum hlt]
  exact h
end Go.Proofs.YtmfmhhopnmglcaaDoor
