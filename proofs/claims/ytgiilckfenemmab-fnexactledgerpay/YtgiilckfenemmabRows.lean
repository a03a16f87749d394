/-
  No cell of these rows narrows 'for every input' (looked for: loops, veiled, ifaces, maps, wideKeys, modest, calm, conditions, laid).
  DERIVED. THE GIVEN ROWS OF THIS SEAT. 4 by the template 'for every input the law returns true; each argument reads behind the call as it read before'; 0 by the template 'total and deterministic' (their statements: YtgiilckfenemmabTotals.lean).
  GIVEN WITH THE SEED: the statements are not yours to turn. If you find one false, say at which input.
  Laid BY PROGRAM, IN A SANDBOX (cutbox-rows.mjs): the forced cells as the released guide's own fill.sh prints them over the translation efb32518f7257b0e… (all of the seat's roots in one cut). By AI agents, Wed Nov 11 2026. No macro, syntax, notation, axiom, sorry.
-/
import Derived.Test.YtgiilckfenemmabChecked
import GoSem.Claim
import GoSem.ClaimJoined
import GoSem.ClaimMapViews
import Derived.JoinedTies
import Derived.KernelRfl
namespace Go.Proofs.Ytgiilckfenemmab
/- THE CELL 'sum', in the pinned program and in every row, IS THE sha256 OF THE DUMP (.gsa) THAT YtgiilckfenemmabProg.lean LOADS. Nothing in Lean hashes anything: it is a label: what it is worth is what the hold of that sum in a sandbox is worth. -/
noncomputable def Try.pinned : Pinned := { name := "ytgiilckfenemmab", sum := "efb32518f7257b0e7b48c9ba17b55083ffe3d9eb861239fed79751d5b2a8c22e", checked := Try.checked }
namespace Rows
def none {H : Type} : Left H := { results := [], args := [] }

/-- 'laws.FnExactLedgerOk': WHATEVER THE INPUT: true; the input reads as it did. -/
def fnExactLedgerOkSpec : ChangeSpec := { name := "fnExactLedgerOk", fn := fun _ => fun
  | [d] => { results := [.lit (.bool true)], args := [d] }
  | _ => none }
def fnExactLedgerOkRow : OpenClaim := { program := "ytgiilckfenemmab", sum := "efb32518f7257b0e7b48c9ba17b55083ffe3d9eb861239fed79751d5b2a8c22e", func := "loop.example/scrutineer/laws.FnExactLedgerOk", spec := "fnExactLedgerOk", unfollowed := true, recurses := true, apart := false }
def FnExactLedgerOkSaid : Prop := fnExactLedgerOkRow.holds Try.pinned (OpenSpec.ofChange fnExactLedgerOkSpec)

/-- ITS FALSE NEIGHBOUR: 'it returns false'. Refute it at one input. -/
def fnExactLedgerOkWrong : ChangeSpec := { name := "fnExactLedgerOk", fn := fun _ => fun
  | [d] => { results := [.lit (.bool false)], args := [d] }
  | _ => none }
def FnExactLedgerOkWrongFalsely : Prop := fnExactLedgerOkRow.holds Try.pinned (OpenSpec.ofChange fnExactLedgerOkWrong)

/-- 'laws.FnExactLedgerSum': WHATEVER THE INPUT: true; the input reads as it did. -/
def fnExactLedgerSumSpec : ChangeSpec := { name := "fnExactLedgerSum", fn := fun _ => fun
  | [d] => { results := [.lit (.bool true)], args := [d] }
  | _ => none }
def fnExactLedgerSumRow : OpenClaim := { program := "ytgiilckfenemmab", sum := "efb32518f7257b0e7b48c9ba17b55083ffe3d9eb861239fed79751d5b2a8c22e", func := "loop.example/scrutineer/laws.FnExactLedgerSum", spec := "fnExactLedgerSum", unfollowed := true, recurses := true, apart := false }
def FnExactLedgerSumSaid : Prop := fnExactLedgerSumRow.holds Try.pinned (OpenSpec.ofChange fnExactLedgerSumSpec)

/-- ITS FALSE NEIGHBOUR: 'it returns false'. Refute it at one input. -/
def fnExactLedgerSumWrong : ChangeSpec := { name := "fnExactLedgerSum", fn := fun _ => fun
  | [d] => { results := [.lit (.bool false)], args := [d] }
  | _ => none }
def FnExactLedgerSumWrongFalsely : Prop := fnExactLedgerSumRow.holds Try.pinned (OpenSpec.ofChange fnExactLedgerSumWrong)

/-- 'laws.FnExactLedgerPay': WHATEVER THE INPUT: true; the input reads as it did. -/
def fnExactLedgerPaySpec : ChangeSpec := { name := "fnExactLedgerPay", fn := fun _ => fun
  | [d1, d2] => { results := [.lit (.bool true)], args := [d1, d2] }
  | _ => none }
def fnExactLedgerPayRow : OpenClaim := { program := "ytgiilckfenemmab", sum := "efb32518f7257b0e7b48c9ba17b55083ffe3d9eb861239fed79751d5b2a8c22e", func := "loop.example/scrutineer/laws.FnExactLedgerPay", spec := "fnExactLedgerPay", unfollowed := true, recurses := true, apart := false }
def FnExactLedgerPaySaid : Prop := fnExactLedgerPayRow.holds Try.pinned (OpenSpec.ofChange fnExactLedgerPaySpec)

/-- ITS FALSE NEIGHBOUR: 'it returns false'. Refute it at one input. -/
def fnExactLedgerPayWrong : ChangeSpec := { name := "fnExactLedgerPay", fn := fun _ => fun
  | [d1, d2] => { results := [.lit (.bool false)], args := [d1, d2] }
  | _ => none }
def FnExactLedgerPayWrongFalsely : Prop := fnExactLedgerPayRow.holds Try.pinned (OpenSpec.ofChange fnExactLedgerPayWrong)

/-- 'laws.FnExactLedgerCan': WHATEVER THE INPUT: true; the input reads as it did. -/
def fnExactLedgerCanSpec : ChangeSpec := { name := "fnExactLedgerCan", fn := fun _ => fun
  | [d1, d2] => { results := [.lit (.bool true)], args := [d1, d2] }
  | _ => none }
def fnExactLedgerCanRow : OpenClaim := { program := "ytgiilckfenemmab", sum := "efb32518f7257b0e7b48c9ba17b55083ffe3d9eb861239fed79751d5b2a8c22e", func := "loop.example/scrutineer/laws.FnExactLedgerCan", spec := "fnExactLedgerCan", unfollowed := true, recurses := true, apart := false }
def FnExactLedgerCanSaid : Prop := fnExactLedgerCanRow.holds Try.pinned (OpenSpec.ofChange fnExactLedgerCanSpec)

/-- ITS FALSE NEIGHBOUR: 'it returns false'. Refute it at one input. -/
def fnExactLedgerCanWrong : ChangeSpec := { name := "fnExactLedgerCan", fn := fun _ => fun
  | [d1, d2] => { results := [.lit (.bool false)], args := [d1, d2] }
  | _ => none }
def FnExactLedgerCanWrongFalsely : Prop := fnExactLedgerCanRow.holds Try.pinned (OpenSpec.ofChange fnExactLedgerCanWrong)

/- THE SECOND FORM. 'bulk': how many values and letters a reading holds, each counted each time it is reached (what is shared counts as often as it is met; a slice's spare places count too). A statement '..UptoSaid' is the law's where the arguments, and the package variables that the reading takes, are together of bulk at most 1048576: NARROWER than '..Said'. Prove '..Said' where nothing that the law and all that it calls make is longer than what came in: it says more and counts as full. Else prove '..UptoSaid'. A law counts once. -/
mutual
def uptoBulk {H : Type} : DataW H → Nat
  | .lit (.string bytes) => bytes.length + 1
  | .lit _ => 1
  | .nil => 1
  | .ptr d => uptoBulk d + 1
  | .slice elems spare => uptoBulkAll elems + uptoBulkAll spare + 1
  | .agg parts => uptoBulkAll parts + 1
  | .iface _ d => uptoBulk d + 1
  | .map entries => uptoBulkEntries entries + 1
  | .held _ => 1
def uptoBulkAll {H : Type} : List (DataW H) → Nat
  | [] => 0
  | d :: r => uptoBulk d + uptoBulkAll r
def uptoBulkEntries {H : Type} : List (Lit × DataW H) → Nat
  | [] => 0
  | x :: r => uptoBulkEntry x + uptoBulkEntries r
def uptoBulkEntry {H : Type} : Lit × DataW H → Nat
  | (.string bytes, d) => bytes.length + uptoBulk d + 1
  | (_, d) => uptoBulk d + 1
 end
def uptoSmall : (H : Type) → List (DataW H) → Bool := fun _ ds => decide (uptoBulkAll ds ≤ 1048576)
def OpenSpec.upto (s : _root_.Go.ChangeSpec) : _root_.Go.OpenSpec := { _root_.Go.OpenSpec.ofChange s with cond := some uptoSmall }

/-- 'laws.FnExactLedgerOk', WHERE WHAT IT READS IS OF BULK AT MOST 1048576: true; the input reads as it did. -/
def fnExactLedgerOkUptoRow : OpenClaim := { program := "ytgiilckfenemmab", sum := "efb32518f7257b0e7b48c9ba17b55083ffe3d9eb861239fed79751d5b2a8c22e", func := "loop.example/scrutineer/laws.FnExactLedgerOk", spec := "fnExactLedgerOk", unfollowed := true, recurses := true, apart := false, narrowed := true }
def FnExactLedgerOkUptoSaid : Prop := fnExactLedgerOkUptoRow.holds Try.pinned (OpenSpec.upto fnExactLedgerOkSpec)

/-- 'laws.FnExactLedgerSum', WHERE WHAT IT READS IS OF BULK AT MOST 1048576: true; the input reads as it did. -/
def fnExactLedgerSumUptoRow : OpenClaim := { program := "ytgiilckfenemmab", sum := "efb32518f7257b0e7b48c9ba17b55083ffe3d9eb861239fed79751d5b2a8c22e", func := "loop.example/scrutineer/laws.FnExactLedgerSum", spec := "fnExactLedgerSum", unfollowed := true, recurses := true, apart := false, narrowed := true }
def FnExactLedgerSumUptoSaid : Prop := fnExactLedgerSumUptoRow.holds Try.pinned (OpenSpec.upto fnExactLedgerSumSpec)

/-- 'laws.FnExactLedgerPay', WHERE WHAT IT READS IS OF BULK AT MOST 1048576: true; the input reads as it did. -/
def fnExactLedgerPayUptoRow : OpenClaim := { program := "ytgiilckfenemmab", sum := "efb32518f7257b0e7b48c9ba17b55083ffe3d9eb861239fed79751d5b2a8c22e", func := "loop.example/scrutineer/laws.FnExactLedgerPay", spec := "fnExactLedgerPay", unfollowed := true, recurses := true, apart := false, narrowed := true }
def FnExactLedgerPayUptoSaid : Prop := fnExactLedgerPayUptoRow.holds Try.pinned (OpenSpec.upto fnExactLedgerPaySpec)

/-- 'laws.FnExactLedgerCan', WHERE WHAT IT READS IS OF BULK AT MOST 1048576: true; the input reads as it did. -/
def fnExactLedgerCanUptoRow : OpenClaim := { program := "ytgiilckfenemmab", sum := "efb32518f7257b0e7b48c9ba17b55083ffe3d9eb861239fed79751d5b2a8c22e", func := "loop.example/scrutineer/laws.FnExactLedgerCan", spec := "fnExactLedgerCan", unfollowed := true, recurses := true, apart := false, narrowed := true }
def FnExactLedgerCanUptoSaid : Prop := fnExactLedgerCanUptoRow.holds Try.pinned (OpenSpec.upto fnExactLedgerCanSpec)

end Rows
end Go.Proofs.Ytgiilckfenemmab
