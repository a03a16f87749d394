/-
  NARROWER THAN 'FOR EVERY INPUT', by the rows' own cells (each row's printed sentence says how): FnExactProofOk: ifaces, laid · FnExactProofAll: ifaces, laid · FnProofOk: ifaces, laid · FnProofAll: ifaces, laid · FnProofCut: ifaces, laid · FnProofOne: ifaces, laid.
  DERIVED. THE GIVEN ROWS OF THIS SEAT. 6 by the template 'for every input the law returns true; each argument reads behind the call as it read before'; 0 by the template 'total and deterministic' (their statements: YtmfmhhopnmglcaaDoorTotals.lean).
  GIVEN WITH THE SEED: the statements are not yours to turn. If you find one false, say at which input.
  Laid BY PROGRAM, IN A SANDBOX (cutbox-rows.mjs): the forced cells as the released guide's own fill.sh prints them over the translation 0946bf0f0637b3c4… (all of the seat's roots in one cut). By AI agents, Wed Nov 11 2026. No macro, syntax, notation, axiom, sorry.
-/
import Derived.Test.YtmfmhhopnmglcaaDoorChecked
import GoSem.Claim
import GoSem.ClaimJoined
import GoSem.ClaimMapViews
import Derived.JoinedTies
import Derived.KernelRfl
namespace Go.Proofs.YtmfmhhopnmglcaaDoor
/- THE CELL 'sum', in the pinned program and in every row, IS THE sha256 OF THE DUMP (.gsa) THAT YtmfmhhopnmglcaaDoorProg.lean LOADS. Nothing in Lean hashes anything: it is a label: what it is worth is what the hold of that sum in a sandbox is worth. -/
noncomputable def Tryd.pinned : Pinned := { name := "ytmfmhhopnmglcaadoor", sum := "0946bf0f0637b3c458be9ba4ffeadbd81b7059c5615e757dd14e76e23b41dac8", checked := Tryd.checked }
namespace Rows
def none {H : Type} : Left H := { results := [], args := [] }

/- WHAT THE LISTED PACKAGE-LEVEL VARIABLES READ AS WHEN THE CALL BEGINS. Each datum BY PROGRAM (the guide's laid-datum.mjs) off the statement by which the dump's own 'gosem.cut.vars' lays the variable. In a bare row this is a premise. The card (YtmfmhhopnmglcaaDoorCards.lean) ties it to the program's text. -/
def laid_loop_example_scrutineer_impl_errMalformed {H : Type} : DataW H := .iface "*errors.errorString" (.ptr (.agg [.lit (.string [109, 97, 108, 102, 111, 114, 109, 101, 100, 32, 112, 114, 111, 111, 102])]))

/-- 'laws.FnExactProofOk': WHATEVER THE INPUT: true; the input reads as it did. -/
def fnExactProofOkSpec : ChangeSpec := { name := "fnExactProofOk", vars := ["loop.example/scrutineer/impl.errMalformed"], fn := fun _ => fun
  | [d1, d2, d3, g1] => { results := [.lit (.bool true)], args := [d1, d2, d3], vars := [g1] }
  | _ => none }
def fnExactProofOkRow : OpenClaim := { program := "ytmfmhhopnmglcaadoor", sum := "0946bf0f0637b3c458be9ba4ffeadbd81b7059c5615e757dd14e76e23b41dac8", func := "loop.example/scrutineer/laws.FnExactProofOk", spec := "fnExactProofOk", inPlace := ["internal/reflectlite.TypeOf"], unfollowed := true, recurses := true, named := ["loop.example/scrutineer/impl.errMalformed"], ifaces := true, apart := false, laid := [("loop.example/scrutineer/impl.errMalformed", laid_loop_example_scrutineer_impl_errMalformed)] }
def FnExactProofOkSaid : Prop := fnExactProofOkRow.holds Tryd.pinned (OpenSpec.ofChange fnExactProofOkSpec)

/-- ITS FALSE NEIGHBOUR: 'it returns false'. Refute it at one input. -/
def fnExactProofOkWrong : ChangeSpec := { name := "fnExactProofOk", vars := ["loop.example/scrutineer/impl.errMalformed"], fn := fun _ => fun
  | [d1, d2, d3, g1] => { results := [.lit (.bool false)], args := [d1, d2, d3], vars := [g1] }
  | _ => none }
def FnExactProofOkWrongFalsely : Prop := fnExactProofOkRow.holds Tryd.pinned (OpenSpec.ofChange fnExactProofOkWrong)

/-- 'laws.FnExactProofAll': WHATEVER THE INPUT: true; the input reads as it did. -/
def fnExactProofAllSpec : ChangeSpec := { name := "fnExactProofAll", vars := ["loop.example/scrutineer/impl.errMalformed"], fn := fun _ => fun
  | [d1, d2, d3, g1] => { results := [.lit (.bool true)], args := [d1, d2, d3], vars := [g1] }
  | _ => none }
def fnExactProofAllRow : OpenClaim := { program := "ytmfmhhopnmglcaadoor", sum := "0946bf0f0637b3c458be9ba4ffeadbd81b7059c5615e757dd14e76e23b41dac8", func := "loop.example/scrutineer/laws.FnExactProofAll", spec := "fnExactProofAll", inPlace := ["internal/reflectlite.TypeOf"], unfollowed := true, recurses := true, named := ["loop.example/scrutineer/impl.errMalformed"], ifaces := true, apart := false, laid := [("loop.example/scrutineer/impl.errMalformed", laid_loop_example_scrutineer_impl_errMalformed)] }
def FnExactProofAllSaid : Prop := fnExactProofAllRow.holds Tryd.pinned (OpenSpec.ofChange fnExactProofAllSpec)

/-- ITS FALSE NEIGHBOUR: 'it returns false'. Refute it at one input. -/
def fnExactProofAllWrong : ChangeSpec := { name := "fnExactProofAll", vars := ["loop.example/scrutineer/impl.errMalformed"], fn := fun _ => fun
  | [d1, d2, d3, g1] => { results := [.lit (.bool false)], args := [d1, d2, d3], vars := [g1] }
  | _ => none }
def FnExactProofAllWrongFalsely : Prop := fnExactProofAllRow.holds Tryd.pinned (OpenSpec.ofChange fnExactProofAllWrong)

/-- 'laws.FnProofOk': WHATEVER THE INPUT: true; the input reads as it did. -/
def fnProofOkSpec : ChangeSpec := { name := "fnProofOk", vars := ["loop.example/scrutineer/impl.errMalformed"], fn := fun _ => fun
  | [d1, d2, g1] => { results := [.lit (.bool true)], args := [d1, d2], vars := [g1] }
  | _ => none }
def fnProofOkRow : OpenClaim := { program := "ytmfmhhopnmglcaadoor", sum := "0946bf0f0637b3c458be9ba4ffeadbd81b7059c5615e757dd14e76e23b41dac8", func := "loop.example/scrutineer/laws.FnProofOk", spec := "fnProofOk", inPlace := ["internal/reflectlite.TypeOf"], unfollowed := true, recurses := true, named := ["loop.example/scrutineer/impl.errMalformed"], ifaces := true, apart := false, laid := [("loop.example/scrutineer/impl.errMalformed", laid_loop_example_scrutineer_impl_errMalformed)] }
def FnProofOkSaid : Prop := fnProofOkRow.holds Tryd.pinned (OpenSpec.ofChange fnProofOkSpec)

/-- ITS FALSE NEIGHBOUR: 'it returns false'. Refute it at one input. -/
def fnProofOkWrong : ChangeSpec := { name := "fnProofOk", vars := ["loop.example/scrutineer/impl.errMalformed"], fn := fun _ => fun
  | [d1, d2, g1] => { results := [.lit (.bool false)], args := [d1, d2], vars := [g1] }
  | _ => none }
def FnProofOkWrongFalsely : Prop := fnProofOkRow.holds Tryd.pinned (OpenSpec.ofChange fnProofOkWrong)

/-- 'laws.FnProofAll': WHATEVER THE INPUT: true; the input reads as it did. -/
def fnProofAllSpec : ChangeSpec := { name := "fnProofAll", vars := ["loop.example/scrutineer/impl.errMalformed"], fn := fun _ => fun
  | [d, g1] => { results := [.lit (.bool true)], args := [d], vars := [g1] }
  | _ => none }
def fnProofAllRow : OpenClaim := { program := "ytmfmhhopnmglcaadoor", sum := "0946bf0f0637b3c458be9ba4ffeadbd81b7059c5615e757dd14e76e23b41dac8", func := "loop.example/scrutineer/laws.FnProofAll", spec := "fnProofAll", inPlace := ["internal/reflectlite.TypeOf"], unfollowed := true, recurses := true, named := ["loop.example/scrutineer/impl.errMalformed"], ifaces := true, apart := false, laid := [("loop.example/scrutineer/impl.errMalformed", laid_loop_example_scrutineer_impl_errMalformed)] }
def FnProofAllSaid : Prop := fnProofAllRow.holds Tryd.pinned (OpenSpec.ofChange fnProofAllSpec)

/-- ITS FALSE NEIGHBOUR: 'it returns false'. Refute it at one input. -/
def fnProofAllWrong : ChangeSpec := { name := "fnProofAll", vars := ["loop.example/scrutineer/impl.errMalformed"], fn := fun _ => fun
  | [d, g1] => { results := [.lit (.bool false)], args := [d], vars := [g1] }
  | _ => none }
def FnProofAllWrongFalsely : Prop := fnProofAllRow.holds Tryd.pinned (OpenSpec.ofChange fnProofAllWrong)

/-- 'laws.FnProofCut': WHATEVER THE INPUT: true; the input reads as it did. -/
def fnProofCutSpec : ChangeSpec := { name := "fnProofCut", vars := ["loop.example/scrutineer/impl.errMalformed"], fn := fun _ => fun
  | [d, g1] => { results := [.lit (.bool true)], args := [d], vars := [g1] }
  | _ => none }
def fnProofCutRow : OpenClaim := { program := "ytmfmhhopnmglcaadoor", sum := "0946bf0f0637b3c458be9ba4ffeadbd81b7059c5615e757dd14e76e23b41dac8", func := "loop.example/scrutineer/laws.FnProofCut", spec := "fnProofCut", inPlace := ["internal/reflectlite.TypeOf"], unfollowed := true, recurses := true, named := ["loop.example/scrutineer/impl.errMalformed"], ifaces := true, apart := false, laid := [("loop.example/scrutineer/impl.errMalformed", laid_loop_example_scrutineer_impl_errMalformed)] }
def FnProofCutSaid : Prop := fnProofCutRow.holds Tryd.pinned (OpenSpec.ofChange fnProofCutSpec)

/-- ITS FALSE NEIGHBOUR: 'it returns false'. Refute it at one input. -/
def fnProofCutWrong : ChangeSpec := { name := "fnProofCut", vars := ["loop.example/scrutineer/impl.errMalformed"], fn := fun _ => fun
  | [d, g1] => { results := [.lit (.bool false)], args := [d], vars := [g1] }
  | _ => none }
def FnProofCutWrongFalsely : Prop := fnProofCutRow.holds Tryd.pinned (OpenSpec.ofChange fnProofCutWrong)

/-- 'laws.FnProofOne': WHATEVER THE INPUT: true; the input reads as it did. -/
def fnProofOneSpec : ChangeSpec := { name := "fnProofOne", vars := ["loop.example/scrutineer/impl.errMalformed"], fn := fun _ => fun
  | [d, g1] => { results := [.lit (.bool true)], args := [d], vars := [g1] }
  | _ => none }
def fnProofOneRow : OpenClaim := { program := "ytmfmhhopnmglcaadoor", sum := "0946bf0f0637b3c458be9ba4ffeadbd81b7059c5615e757dd14e76e23b41dac8", func := "loop.example/scrutineer/laws.FnProofOne", spec := "fnProofOne", inPlace := ["internal/reflectlite.TypeOf"], unfollowed := true, recurses := true, named := ["loop.example/scrutineer/impl.errMalformed"], ifaces := true, apart := false, laid := [("loop.example/scrutineer/impl.errMalformed", laid_loop_example_scrutineer_impl_errMalformed)] }
def FnProofOneSaid : Prop := fnProofOneRow.holds Tryd.pinned (OpenSpec.ofChange fnProofOneSpec)

/-- ITS FALSE NEIGHBOUR: 'it returns false'. Refute it at one input. -/
def fnProofOneWrong : ChangeSpec := { name := "fnProofOne", vars := ["loop.example/scrutineer/impl.errMalformed"], fn := fun _ => fun
  | [d, g1] => { results := [.lit (.bool false)], args := [d], vars := [g1] }
  | _ => none }
def FnProofOneWrongFalsely : Prop := fnProofOneRow.holds Tryd.pinned (OpenSpec.ofChange fnProofOneWrong)

/- THE SECOND FORM. 'bulk': how many values and letters a reading holds, each counted each time it is reached (what is shared counts as often as it is met; a slice's spare places count too). A statement '..UptoSaid' is the law's where the arguments, and the package variables that the reading takes, are together of bulk at most 1048576: NARROWER than '..Said'. Prove '..Said' where nothing that the law and all that it calls make is longer than what came in: it says more and counts as full. Else prove '..UptoSaid'. A law counts once. -/
mutual
def uptoBulk {H : Type} : DataW H → Nat
  | .lit (.string bytes) => bytes.length + 1
  | .lit _ => 1
  | .nil => 1
  | .ptr d => uptoBulk d + 1
  | .slice elems spare => uptoBulkAll elems + uptoBulkAll spare + 1
  | .agg parts => uptoBulkAll parts + 1
  | .iface _ d => uptoBulk d + 1
  | .map entries => uptoBulkEntries entries + 1
  | .held _ => 1
def uptoBulkAll {H : Type} : List (DataW H) → Nat
  | [] => 0
  | d :: r => uptoBulk d + uptoBulkAll r
def uptoBulkEntries {H : Type} : List (Lit × DataW H) → Nat
  | [] => 0
  | x :: r => uptoBulkEntry x + uptoBulkEntries r
def uptoBulkEntry {H : Type} : Lit × DataW H → Nat
  | (.string bytes, d) => bytes.length + uptoBulk d + 1
  | (_, d) => uptoBulk d + 1
 end
def uptoSmall : (H : Type) → List (DataW H) → Bool := fun _ ds => decide (uptoBulkAll ds ≤ 1048576)
def OpenSpec.upto (s : _root_.Go.ChangeSpec) : _root_.Go.OpenSpec := { _root_.Go.OpenSpec.ofChange s with cond := some uptoSmall }

/-- 'laws.FnExactProofOk', WHERE WHAT IT READS IS OF BULK AT MOST 1048576: true; the input reads as it did. -/
def fnExactProofOkUptoRow : OpenClaim := { program := "ytmfmhhopnmglcaadoor", sum := "0946bf0f0637b3c458be9ba4ffeadbd81b7059c5615e757dd14e76e23b41dac8", func := "loop.example/scrutineer/laws.FnExactProofOk", spec := "fnExactProofOk", inPlace := ["internal/reflectlite.TypeOf"], unfollowed := true, recurses := true, named := ["loop.example/scrutineer/impl.errMalformed"], ifaces := true, apart := false, laid := [("loop.example/scrutineer/impl.errMalformed", laid_loop_example_scrutineer_impl_errMalformed)], narrowed := true }
def FnExactProofOkUptoSaid : Prop := fnExactProofOkUptoRow.holds Tryd.pinned (OpenSpec.upto fnExactProofOkSpec)

/-- 'laws.FnExactProofAll', WHERE WHAT IT READS IS OF BULK AT MOST 1048576: true; the input reads as it did. -/
def fnExactProofAllUptoRow : OpenClaim := { program := "ytmfmhhopnmglcaadoor", sum := "0946bf0f0637b3c458be9ba4ffeadbd81b7059c5615e757dd14e76e23b41dac8", func := "loop.example/scrutineer/laws.FnExactProofAll", spec := "fnExactProofAll", inPlace := ["internal/reflectlite.TypeOf"], unfollowed := true, recurses := true, named := ["loop.example/scrutineer/impl.errMalformed"], ifaces := true, apart := false, laid := [("loop.example/scrutineer/impl.errMalformed", laid_loop_example_scrutineer_impl_errMalformed)], narrowed := true }
def FnExactProofAllUptoSaid : Prop := fnExactProofAllUptoRow.holds Tryd.pinned (OpenSpec.upto fnExactProofAllSpec)

/-- 'laws.FnProofOk', WHERE WHAT IT READS IS OF BULK AT MOST 1048576: true; the input reads as it did. -/
def fnProofOkUptoRow : OpenClaim := { program := "ytmfmhhopnmglcaadoor", sum := "0946bf0f0637b3c458be9ba4ffeadbd81b7059c5615e757dd14e76e23b41dac8", func := "loop.example/scrutineer/laws.FnProofOk", spec := "fnProofOk", inPlace := ["internal/reflectlite.TypeOf"], unfollowed := true, recurses := true, named := ["loop.example/scrutineer/impl.errMalformed"], ifaces := true, apart := false, laid := [("loop.example/scrutineer/impl.errMalformed", laid_loop_example_scrutineer_impl_errMalformed)], narrowed := true }
def FnProofOkUptoSaid : Prop := fnProofOkUptoRow.holds Tryd.pinned (OpenSpec.upto fnProofOkSpec)

/-- 'laws.FnProofAll', WHERE WHAT IT READS IS OF BULK AT MOST 1048576: true; the input reads as it did. -/
def fnProofAllUptoRow : OpenClaim := { program := "ytmfmhhopnmglcaadoor", sum := "0946bf0f0637b3c458be9ba4ffeadbd81b7059c5615e757dd14e76e23b41dac8", func := "loop.example/scrutineer/laws.FnProofAll", spec := "fnProofAll", inPlace := ["internal/reflectlite.TypeOf"], unfollowed := true, recurses := true, named := ["loop.example/scrutineer/impl.errMalformed"], ifaces := true, apart := false, laid := [("loop.example/scrutineer/impl.errMalformed", laid_loop_example_scrutineer_impl_errMalformed)], narrowed := true }
def FnProofAllUptoSaid : Prop := fnProofAllUptoRow.holds Tryd.pinned (OpenSpec.upto fnProofAllSpec)

/-- 'laws.FnProofCut', WHERE WHAT IT READS IS OF BULK AT MOST 1048576: true; the input reads as it did. -/
def fnProofCutUptoRow : OpenClaim := { program := "ytmfmhhopnmglcaadoor", sum := "0946bf0f0637b3c458be9ba4ffeadbd81b7059c5615e757dd14e76e23b41dac8", func := "loop.example/scrutineer/laws.FnProofCut", spec := "fnProofCut", inPlace := ["internal/reflectlite.TypeOf"], unfollowed := true, recurses := true, named := ["loop.example/scrutineer/impl.errMalformed"], ifaces := true, apart := false, laid := [("loop.example/scrutineer/impl.errMalformed", laid_loop_example_scrutineer_impl_errMalformed)], narrowed := true }
def FnProofCutUptoSaid : Prop := fnProofCutUptoRow.holds Tryd.pinned (OpenSpec.upto fnProofCutSpec)

/-- 'laws.FnProofOne', WHERE WHAT IT READS IS OF BULK AT MOST 1048576: true; the input reads as it did. -/
def fnProofOneUptoRow : OpenClaim := { program := "ytmfmhhopnmglcaadoor", sum := "0946bf0f0637b3c458be9ba4ffeadbd81b7059c5615e757dd14e76e23b41dac8", func := "loop.example/scrutineer/laws.FnProofOne", spec := "fnProofOne", inPlace := ["internal/reflectlite.TypeOf"], unfollowed := true, recurses := true, named := ["loop.example/scrutineer/impl.errMalformed"], ifaces := true, apart := false, laid := [("loop.example/scrutineer/impl.errMalformed", laid_loop_example_scrutineer_impl_errMalformed)], narrowed := true }
def FnProofOneUptoSaid : Prop := fnProofOneUptoRow.holds Tryd.pinned (OpenSpec.upto fnProofOneSpec)

end Rows
end Go.Proofs.YtmfmhhopnmglcaaDoor
