/-
  No cell of these rows narrows 'for every input' (looked for: loops, veiled, ifaces, maps, wideKeys, modest, calm, conditions, laid).
  DERIVED. THE GIVEN ROWS OF THIS SEAT. 4 by the template 'for every input the law returns true; each argument reads behind the call as it read before'; 0 by the template 'total and deterministic' (their statements: YtamikccedcffeaaTotals.lean).
  GIVEN WITH THE SEED: the statements are not yours to turn. If you find one false, say at which input.
  Laid BY PROGRAM, IN A SANDBOX (cutbox-rows.mjs): the forced cells as the released guide's own fill.sh prints them over the translation 96bf122a29d87971… (all of the seat's roots in one cut). By AI agents, Wed Nov 11 2026. No macro, syntax, notation, axiom, sorry.
-/
import Derived.Test.YtamikccedcffeaaChecked
import GoSem.Claim
import GoSem.ClaimJoined
import GoSem.ClaimMapViews
import Derived.JoinedTies
import Derived.KernelRfl
namespace Go.Proofs.Ytamikccedcffeaa
/- THE CELL 'sum', in the pinned program and in every row, IS THE sha256 OF THE DUMP (.gsa) THAT YtamikccedcffeaaProg.lean LOADS. Nothing in Lean hashes anything: it is a label: what it is worth is what the hold of that sum in a sandbox is worth. -/
noncomputable def Try.pinned : Pinned := { name := "ytamikccedcffeaa", sum := "96bf122a29d879718c09c9a1f5c63dcc39677ff188da4d6e0de8dc65b3f7393b", checked := Try.checked }
namespace Rows
def none {H : Type} : Left H := { results := [], args := [] }

/-- 'laws.FnProofLen': WHATEVER THE INPUT: true; the input reads as it did. -/
def fnProofLenSpec : ChangeSpec := { name := "fnProofLen", fn := fun _ => fun
  | [d] => { results := [.lit (.bool true)], args := [d] }
  | _ => none }
def fnProofLenRow : OpenClaim := { program := "ytamikccedcffeaa", sum := "96bf122a29d879718c09c9a1f5c63dcc39677ff188da4d6e0de8dc65b3f7393b", func := "loop.example/scrutineer/laws.FnProofLen", spec := "fnProofLen", unfollowed := true, recurses := true, apart := false }
def FnProofLenSaid : Prop := fnProofLenRow.holds Try.pinned (OpenSpec.ofChange fnProofLenSpec)

/-- ITS FALSE NEIGHBOUR: 'it returns false'. Refute it at one input. -/
def fnProofLenWrong : ChangeSpec := { name := "fnProofLen", fn := fun _ => fun
  | [d] => { results := [.lit (.bool false)], args := [d] }
  | _ => none }
def FnProofLenWrongFalsely : Prop := fnProofLenRow.holds Try.pinned (OpenSpec.ofChange fnProofLenWrong)

/-- 'laws.FnExactProofMake': WHATEVER THE INPUT: true; the input reads as it did. -/
def fnExactProofMakeSpec : ChangeSpec := { name := "fnExactProofMake", fn := fun _ => fun
  | [d1, d2, d3, d4] => { results := [.lit (.bool true)], args := [d1, d2, d3, d4] }
  | _ => none }
def fnExactProofMakeRow : OpenClaim := { program := "ytamikccedcffeaa", sum := "96bf122a29d879718c09c9a1f5c63dcc39677ff188da4d6e0de8dc65b3f7393b", func := "loop.example/scrutineer/laws.FnExactProofMake", spec := "fnExactProofMake", unfollowed := true, recurses := true, apart := false }
def FnExactProofMakeSaid : Prop := fnExactProofMakeRow.holds Try.pinned (OpenSpec.ofChange fnExactProofMakeSpec)

/-- ITS FALSE NEIGHBOUR: 'it returns false'. Refute it at one input. -/
def fnExactProofMakeWrong : ChangeSpec := { name := "fnExactProofMake", fn := fun _ => fun
  | [d1, d2, d3, d4] => { results := [.lit (.bool false)], args := [d1, d2, d3, d4] }
  | _ => none }
def FnExactProofMakeWrongFalsely : Prop := fnExactProofMakeRow.holds Try.pinned (OpenSpec.ofChange fnExactProofMakeWrong)

/-- 'laws.FnExactProofCut': WHATEVER THE INPUT: true; the input reads as it did. -/
def fnExactProofCutSpec : ChangeSpec := { name := "fnExactProofCut", fn := fun _ => fun
  | [d1, d2] => { results := [.lit (.bool true)], args := [d1, d2] }
  | _ => none }
def fnExactProofCutRow : OpenClaim := { program := "ytamikccedcffeaa", sum := "96bf122a29d879718c09c9a1f5c63dcc39677ff188da4d6e0de8dc65b3f7393b", func := "loop.example/scrutineer/laws.FnExactProofCut", spec := "fnExactProofCut", unfollowed := true, recurses := true, apart := false }
def FnExactProofCutSaid : Prop := fnExactProofCutRow.holds Try.pinned (OpenSpec.ofChange fnExactProofCutSpec)

/-- ITS FALSE NEIGHBOUR: 'it returns false'. Refute it at one input. -/
def fnExactProofCutWrong : ChangeSpec := { name := "fnExactProofCut", fn := fun _ => fun
  | [d1, d2] => { results := [.lit (.bool false)], args := [d1, d2] }
  | _ => none }
def FnExactProofCutWrongFalsely : Prop := fnExactProofCutRow.holds Try.pinned (OpenSpec.ofChange fnExactProofCutWrong)

/-- 'laws.FnExactProofLen': WHATEVER THE INPUT: true; the input reads as it did. -/
def fnExactProofLenSpec : ChangeSpec := { name := "fnExactProofLen", fn := fun _ => fun
  | [d] => { results := [.lit (.bool true)], args := [d] }
  | _ => none }
def fnExactProofLenRow : OpenClaim := { program := "ytamikccedcffeaa", sum := "96bf122a29d879718c09c9a1f5c63dcc39677ff188da4d6e0de8dc65b3f7393b", func := "loop.example/scrutineer/laws.FnExactProofLen", spec := "fnExactProofLen", unfollowed := true, recurses := true, apart := false }
def FnExactProofLenSaid : Prop := fnExactProofLenRow.holds Try.pinned (OpenSpec.ofChange fnExactProofLenSpec)

/-- ITS FALSE NEIGHBOUR: 'it returns false'. Refute it at one input. -/
def fnExactProofLenWrong : ChangeSpec := { name := "fnExactProofLen", fn := fun _ => fun
  | [d] => { results := [.lit (.bool false)], args := [d] }
  | _ => none }
def FnExactProofLenWrongFalsely : Prop := fnExactProofLenRow.holds Try.pinned (OpenSpec.ofChange fnExactProofLenWrong)

/- THE SECOND FORM. 'bulk': how many values and letters a reading holds, each counted each time it is reached (what is shared counts as often as it is met; a slice's spare places count too). A statement '..UptoSaid' is the law's where the arguments, and the package variables that the reading takes, are together of bulk at most 1048576: NARROWER than '..Said'. Prove '..Said' where nothing that the law and all that it calls make is longer than what came in: it says more and counts as full. Else prove '..UptoSaid'. A law counts once. -/
mutual
def uptoBulk {H : Type} : DataW H → Nat
  | .lit (.string bytes) => bytes.length + 1
  | .lit _ => 1
  | .nil => 1
  | .ptr d => uptoBulk d + 1
  | .slice elems spare => uptoBulkAll elems + uptoBulkAll spare + 1
  | .agg parts => uptoBulkAll parts + 1
  | .iface _ d => uptoBulk d + 1
  | .map entries => uptoBulkEntries entries + 1
  | .held _ => 1
def uptoBulkAll {H : Type} : List (DataW H) → Nat
  | [] => 0
  | d :: r => uptoBulk d + uptoBulkAll r
def uptoBulkEntries {H : Type} : List (Lit × DataW H) → Nat
  | [] => 0
  | x :: r => uptoBulkEntry x + uptoBulkEntries r
def uptoBulkEntry {H : Type} : Lit × DataW H → Nat
  | (.string bytes, d) => bytes.length + uptoBulk d + 1
  | (_, d) => uptoBulk d + 1
 end
def uptoSmall : (H : Type) → List (DataW H) → Bool := fun _ ds => decide (uptoBulkAll ds ≤ 1048576)
def OpenSpec.upto (s : _root_.Go.ChangeSpec) : _root_.Go.OpenSpec := { _root_.Go.OpenSpec.ofChange s with cond := some uptoSmall }

/-- 'laws.FnProofLen', WHERE WHAT IT READS IS OF BULK AT MOST 1048576: true; the input reads as it did. -/
def fnProofLenUptoRow : OpenClaim := { program := "ytamikccedcffeaa", sum := "96bf122a29d879718c09c9a1f5c63dcc39677ff188da4d6e0de8dc65b3f7393b", func := "loop.example/scrutineer/laws.FnProofLen", spec := "fnProofLen", unfollowed := true, recurses := true, apart := false, narrowed := true }
def FnProofLenUptoSaid : Prop := fnProofLenUptoRow.holds Try.pinned (OpenSpec.upto fnProofLenSpec)

/-- 'laws.FnExactProofMake', WHERE WHAT IT READS IS OF BULK AT MOST 1048576: true; the input reads as it did. -/
def fnExactProofMakeUptoRow : OpenClaim := { program := "ytamikccedcffeaa", sum := "96bf122a29d879718c09c9a1f5c63dcc39677ff188da4d6e0de8dc65b3f7393b", func := "loop.example/scrutineer/laws.FnExactProofMake", spec := "fnExactProofMake", unfollowed := true, recurses := true, apart := false, narrowed := true }
def FnExactProofMakeUptoSaid : Prop := fnExactProofMakeUptoRow.holds Try.pinned (OpenSpec.upto fnExactProofMakeSpec)

/-- 'laws.FnExactProofCut', WHERE WHAT IT READS IS OF BULK AT MOST 1048576: true; the input reads as it did. -/
def fnExactProofCutUptoRow : OpenClaim := { program := "ytamikccedcffeaa", sum := "96bf122a29d879718c09c9a1f5c63dcc39677ff188da4d6e0de8dc65b3f7393b", func := "loop.example/scrutineer/laws.FnExactProofCut", spec := "fnExactProofCut", unfollowed := true, recurses := true, apart := false, narrowed := true }
def FnExactProofCutUptoSaid : Prop := fnExactProofCutUptoRow.holds Try.pinned (OpenSpec.upto fnExactProofCutSpec)

/-- 'laws.FnExactProofLen', WHERE WHAT IT READS IS OF BULK AT MOST 1048576: true; the input reads as it did. -/
def fnExactProofLenUptoRow : OpenClaim := { program := "ytamikccedcffeaa", sum := "96bf122a29d879718c09c9a1f5c63dcc39677ff188da4d6e0de8dc65b3f7393b", func := "loop.example/scrutineer/laws.FnExactProofLen", spec := "fnExactProofLen", unfollowed := true, recurses := true, apart := false, narrowed := true }
def FnExactProofLenUptoSaid : Prop := fnExactProofLenUptoRow.holds Try.pinned (OpenSpec.upto fnExactProofLenSpec)

end Rows
end Go.Proofs.Ytamikccedcffeaa
