/-
  errors.Is where the target is a sentinel of errors.New's make: of the sentinel itself it is true, of nil it is false. The sentinel's own cell in memory.
-/
import Derived.Test.YtmfmhhopnmglcaaDoorLw
import Derived.WalkKit
import Derived.LaidEql
import Derived.Stop.Asserts
import Derived.RowKitTokens
namespace Go.Proofs.YtmfmhhopnmglcaaDoor
open Go.RowKit Go.Extern.Stop Go.Stop Go.Extern
set_option linter.unusedVariables false
set_option linter.unusedSimpArgs false
set_option maxRecDepth 20000
theorem is_typeOf (v : Value) (w : World) : (Extern.ReflectliteType.typeOf #[.iface 122 v]).run Tryd.prog w = .ok (.iface 99 (.agg #[.pointer (some ⟨1, 122, none⟩)])) w := by kernel_rfl
/-- What the type's method Comparable does. -/
def cmpE : Array Value → Sem Value := Extern.ReflectliteType.method fun t => do Extern.Rtype.noPackHeld "Comparable" t; pure (.bool (← typeInfo t).comparable)
theorem is_comparable (w : World) : (cmpE #[.agg #[.pointer (some ⟨1, 122, none⟩)]]).run Tryd.prog w = .ok (.bool true) w := by kernel_rfl
theorem is_method (v : Value) (w : World) : (Go.method 259 99 v "Comparable").run Tryd.prog w = .ok (110, v) w := by kernel_rfl
theorem is_comp : (Tryd.prog.info? 122).map (·.comparable) = some true := by kernel_rfl
theorem is_size : (Tryd.prog.info? 147).map (·.size) = some 1 := by kernel_rfl
/-- errors.Is(nil, x). -/
theorem is_nil (b : Addr) (w : World) :
    Calls Tryd.prog 40 #[.nilIface, .iface 122 (.pointer (some b))] w fun e w' => e = .returned (.bool false) ∧ w = w' := by
  have hn := run_eql_iface_nil_left (P := Tryd.prog) w 122 (.pointer (some b)) Tryd.underlying60
  go_enter Tryd.func40, Tryd.ntmps40
  go_wp2
  go_ret
  exact ⟨rfl, rfl⟩
/-- errors.Is(x, x). -/
theorem is_same (a : Addr) (w : World) :
    Calls Tryd.prog 40 #[.iface 122 (.pointer (some a)), .iface 122 (.pointer (some a))] w fun e w' => e = .returned (.bool true) ∧ w = w' := by
  obtain ⟨i, hi, hcmp⟩ := Option.map_eq_some_iff.1 is_comp
  obtain ⟨j, hj, hjs⟩ := Option.map_eq_some_iff.1 is_size
  have h8 := @run_callFunc_extern Tryd.prog 66 _ Extern.ReflectliteType.typeOf Tryd.func66 (by kernel_rfl) (by kernel_rfl) (by kernel_rfl) (by kernel_rfl)
  have h32 := @run_callFunc_extern Tryd.prog 110 _ cmpE Tryd.func110 (by kernel_rfl) (by kernel_rfl) (by kernel_rfl) (by kernel_rfl)
  have tT := is_typeOf
  have cT := is_comparable
  have mR := is_method
  have heq := run_eql_iface_ptr_same (P := Tryd.prog) w a Tryd.underlying60 Tryd.underlying122 hi hcmp hj
  go_enter Tryd.func40, Tryd.ntmps40
  go_wp2
  refine wp_loop_rounds 1 ?_
  rw [rounds_succ]
  go_wp2
  go_ret
  exact ⟨rfl, rfl⟩
/-- The variable holds the sentinel at ea. -/
def Err (w : World) (ea : Addr) : Prop := w.cell? ⟨0, 0, none⟩ = some (.iface 122 (.pointer (some ea)))
theorem Err.below {w w' : World} {ea : Addr} (h : Err w ea) (k : Below w.heap.size w w') : Err w' ea := (k.cell (p := ⟨0, 0, none⟩) (cell_lt h)).trans h
theorem Err.drew {w : World} {ea : Addr} (h : Err w ea) : Err w.drew ea := h
end Go.Proofs.YtmfmhhopnmglcaaDoor
