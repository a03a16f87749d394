/-
  No cell of these rows narrows 'for every input' (looked for: loops, veiled, ifaces, maps, wideKeys, modest, calm, conditions, laid).
  DERIVED. THE GIVEN ROWS OF THIS SEAT. 12 by the template 'for every input the law returns true; each argument reads behind the call as it read before'; 0 by the template 'total and deterministic' (their statements: YtbehnbemhnnmfaaTotals.lean).
  GIVEN WITH THE SEED: the statements are not yours to turn. If you find one false, say at which input.
  Laid BY PROGRAM, IN A SANDBOX (cutbox-rows.mjs): the forced cells as the released guide's own fill.sh prints them over the translation 96d226b2c6217707… (all of the seat's roots in one cut). By AI agents, Wed Nov 11 2026. No macro, syntax, notation, axiom, sorry.
-/
import Derived.Test.YtbehnbemhnnmfaaChecked
import GoSem.Claim
import GoSem.ClaimJoined
import GoSem.ClaimMapViews
import Derived.JoinedTies
import Derived.KernelRfl
namespace Go.Proofs.Ytbehnbemhnnmfaa
/- THE CELL 'sum', in the pinned program and in every row, IS THE sha256 OF THE DUMP (.gsa) THAT YtbehnbemhnnmfaaProg.lean LOADS. Nothing in Lean hashes anything: it is a label: what it is worth is what the hold of that sum in a sandbox is worth. -/
noncomputable def Try.pinned : Pinned := { name := "ytbehnbemhnnmfaa", sum := "96d226b2c621770756fae5b3256afb25b54ae7ec897970c91c0b36ce6e476e39", checked := Try.checked }
namespace Rows
def none {H : Type} : Left H := { results := [], args := [] }

/-- 'laws.FnExactPolyOk': WHATEVER THE INPUT: true; the input reads as it did. -/
def fnExactPolyOkSpec : ChangeSpec := { name := "fnExactPolyOk", fn := fun _ => fun
  | [d] => { results := [.lit (.bool true)], args := [d] }
  | _ => none }
def fnExactPolyOkRow : OpenClaim := { program := "ytbehnbemhnnmfaa", sum := "96d226b2c621770756fae5b3256afb25b54ae7ec897970c91c0b36ce6e476e39", func := "loop.example/scrutineer/laws.FnExactPolyOk", spec := "fnExactPolyOk", apart := false }
def FnExactPolyOkSaid : Prop := fnExactPolyOkRow.holds Try.pinned (OpenSpec.ofChange fnExactPolyOkSpec)

/-- ITS FALSE NEIGHBOUR: 'it returns false'. Refute it at one input. -/
def fnExactPolyOkWrong : ChangeSpec := { name := "fnExactPolyOk", fn := fun _ => fun
  | [d] => { results := [.lit (.bool false)], args := [d] }
  | _ => none }
def FnExactPolyOkWrongFalsely : Prop := fnExactPolyOkRow.holds Try.pinned (OpenSpec.ofChange fnExactPolyOkWrong)

/-- 'laws.FnExactPolyAt': WHATEVER THE INPUT: true; the input reads as it did. -/
def fnExactPolyAtSpec : ChangeSpec := { name := "fnExactPolyAt", fn := fun _ => fun
  | [d1, d2] => { results := [.lit (.bool true)], args := [d1, d2] }
  | _ => none }
def fnExactPolyAtRow : OpenClaim := { program := "ytbehnbemhnnmfaa", sum := "96d226b2c621770756fae5b3256afb25b54ae7ec897970c91c0b36ce6e476e39", func := "loop.example/scrutineer/laws.FnExactPolyAt", spec := "fnExactPolyAt", apart := false }
def FnExactPolyAtSaid : Prop := fnExactPolyAtRow.holds Try.pinned (OpenSpec.ofChange fnExactPolyAtSpec)

/-- ITS FALSE NEIGHBOUR: 'it returns false'. Refute it at one input. -/
def fnExactPolyAtWrong : ChangeSpec := { name := "fnExactPolyAt", fn := fun _ => fun
  | [d1, d2] => { results := [.lit (.bool false)], args := [d1, d2] }
  | _ => none }
def FnExactPolyAtWrongFalsely : Prop := fnExactPolyAtRow.holds Try.pinned (OpenSpec.ofChange fnExactPolyAtWrong)

/-- 'laws.FnPolyAt': WHATEVER THE INPUT: true; the input reads as it did. -/
def fnPolyAtSpec : ChangeSpec := { name := "fnPolyAt", fn := fun _ => fun
  | [d] => { results := [.lit (.bool true)], args := [d] }
  | _ => none }
def fnPolyAtRow : OpenClaim := { program := "ytbehnbemhnnmfaa", sum := "96d226b2c621770756fae5b3256afb25b54ae7ec897970c91c0b36ce6e476e39", func := "loop.example/scrutineer/laws.FnPolyAt", spec := "fnPolyAt", apart := false }
def FnPolyAtSaid : Prop := fnPolyAtRow.holds Try.pinned (OpenSpec.ofChange fnPolyAtSpec)

/-- ITS FALSE NEIGHBOUR: 'it returns false'. Refute it at one input. -/
def fnPolyAtWrong : ChangeSpec := { name := "fnPolyAt", fn := fun _ => fun
  | [d] => { results := [.lit (.bool false)], args := [d] }
  | _ => none }
def FnPolyAtWrongFalsely : Prop := fnPolyAtRow.holds Try.pinned (OpenSpec.ofChange fnPolyAtWrong)

/-- 'laws.FnPolyRoots': WHATEVER THE INPUT: true; the input reads as it did. -/
def fnPolyRootsSpec : ChangeSpec := { name := "fnPolyRoots", fn := fun _ => fun
  | [d] => { results := [.lit (.bool true)], args := [d] }
  | _ => none }
def fnPolyRootsRow : OpenClaim := { program := "ytbehnbemhnnmfaa", sum := "96d226b2c621770756fae5b3256afb25b54ae7ec897970c91c0b36ce6e476e39", func := "loop.example/scrutineer/laws.FnPolyRoots", spec := "fnPolyRoots", apart := false }
def FnPolyRootsSaid : Prop := fnPolyRootsRow.holds Try.pinned (OpenSpec.ofChange fnPolyRootsSpec)

/-- ITS FALSE NEIGHBOUR: 'it returns false'. Refute it at one input. -/
def fnPolyRootsWrong : ChangeSpec := { name := "fnPolyRoots", fn := fun _ => fun
  | [d] => { results := [.lit (.bool false)], args := [d] }
  | _ => none }
def FnPolyRootsWrongFalsely : Prop := fnPolyRootsRow.holds Try.pinned (OpenSpec.ofChange fnPolyRootsWrong)

/-- 'laws.FnPolyForm': WHATEVER THE INPUT: true; the input reads as it did. -/
def fnPolyFormSpec : ChangeSpec := { name := "fnPolyForm", fn := fun _ => fun
  | [d1, d2] => { results := [.lit (.bool true)], args := [d1, d2] }
  | _ => none }
def fnPolyFormRow : OpenClaim := { program := "ytbehnbemhnnmfaa", sum := "96d226b2c621770756fae5b3256afb25b54ae7ec897970c91c0b36ce6e476e39", func := "loop.example/scrutineer/laws.FnPolyForm", spec := "fnPolyForm", apart := false }
def FnPolyFormSaid : Prop := fnPolyFormRow.holds Try.pinned (OpenSpec.ofChange fnPolyFormSpec)

/-- ITS FALSE NEIGHBOUR: 'it returns false'. Refute it at one input. -/
def fnPolyFormWrong : ChangeSpec := { name := "fnPolyForm", fn := fun _ => fun
  | [d1, d2] => { results := [.lit (.bool false)], args := [d1, d2] }
  | _ => none }
def FnPolyFormWrongFalsely : Prop := fnPolyFormRow.holds Try.pinned (OpenSpec.ofChange fnPolyFormWrong)

/-- 'laws.FnExactPolyMul': WHATEVER THE INPUT: true; the input reads as it did. -/
def fnExactPolyMulSpec : ChangeSpec := { name := "fnExactPolyMul", fn := fun _ => fun
  | [d1, d2] => { results := [.lit (.bool true)], args := [d1, d2] }
  | _ => none }
def fnExactPolyMulRow : OpenClaim := { program := "ytbehnbemhnnmfaa", sum := "96d226b2c621770756fae5b3256afb25b54ae7ec897970c91c0b36ce6e476e39", func := "loop.example/scrutineer/laws.FnExactPolyMul", spec := "fnExactPolyMul", apart := false }
def FnExactPolyMulSaid : Prop := fnExactPolyMulRow.holds Try.pinned (OpenSpec.ofChange fnExactPolyMulSpec)

/-- ITS FALSE NEIGHBOUR: 'it returns false'. Refute it at one input. -/
def fnExactPolyMulWrong : ChangeSpec := { name := "fnExactPolyMul", fn := fun _ => fun
  | [d1, d2] => { results := [.lit (.bool false)], args := [d1, d2] }
  | _ => none }
def FnExactPolyMulWrongFalsely : Prop := fnExactPolyMulRow.holds Try.pinned (OpenSpec.ofChange fnExactPolyMulWrong)

/-- 'laws.FnPolyMul': WHATEVER THE INPUT: true; the input reads as it did. -/
def fnPolyMulSpec : ChangeSpec := { name := "fnPolyMul", fn := fun _ => fun
  | [d1, d2] => { results := [.lit (.bool true)], args := [d1, d2] }
  | _ => none }
def fnPolyMulRow : OpenClaim := { program := "ytbehnbemhnnmfaa", sum := "96d226b2c621770756fae5b3256afb25b54ae7ec897970c91c0b36ce6e476e39", func := "loop.example/scrutineer/laws.FnPolyMul", spec := "fnPolyMul", apart := false }
def FnPolyMulSaid : Prop := fnPolyMulRow.holds Try.pinned (OpenSpec.ofChange fnPolyMulSpec)

/-- ITS FALSE NEIGHBOUR: 'it returns false'. Refute it at one input. -/
def fnPolyMulWrong : ChangeSpec := { name := "fnPolyMul", fn := fun _ => fun
  | [d1, d2] => { results := [.lit (.bool false)], args := [d1, d2] }
  | _ => none }
def FnPolyMulWrongFalsely : Prop := fnPolyMulRow.holds Try.pinned (OpenSpec.ofChange fnPolyMulWrong)

/-- 'laws.FnMulThree': WHATEVER THE INPUT: true; the input reads as it did. -/
def fnMulThreeSpec : ChangeSpec := { name := "fnMulThree", fn := fun _ => fun
  | [d1, d2] => { results := [.lit (.bool true)], args := [d1, d2] }
  | _ => none }
def fnMulThreeRow : OpenClaim := { program := "ytbehnbemhnnmfaa", sum := "96d226b2c621770756fae5b3256afb25b54ae7ec897970c91c0b36ce6e476e39", func := "loop.example/scrutineer/laws.FnMulThree", spec := "fnMulThree", apart := false }
def FnMulThreeSaid : Prop := fnMulThreeRow.holds Try.pinned (OpenSpec.ofChange fnMulThreeSpec)

/-- ITS FALSE NEIGHBOUR: 'it returns false'. Refute it at one input. -/
def fnMulThreeWrong : ChangeSpec := { name := "fnMulThree", fn := fun _ => fun
  | [d1, d2] => { results := [.lit (.bool false)], args := [d1, d2] }
  | _ => none }
def FnMulThreeWrongFalsely : Prop := fnMulThreeRow.holds Try.pinned (OpenSpec.ofChange fnMulThreeWrong)

/-- 'laws.FnMulOne': WHATEVER THE INPUT: true; the input reads as it did. -/
def fnMulOneSpec : ChangeSpec := { name := "fnMulOne", fn := fun _ => fun
  | [d] => { results := [.lit (.bool true)], args := [d] }
  | _ => none }
def fnMulOneRow : OpenClaim := { program := "ytbehnbemhnnmfaa", sum := "96d226b2c621770756fae5b3256afb25b54ae7ec897970c91c0b36ce6e476e39", func := "loop.example/scrutineer/laws.FnMulOne", spec := "fnMulOne", apart := false }
def FnMulOneSaid : Prop := fnMulOneRow.holds Try.pinned (OpenSpec.ofChange fnMulOneSpec)

/-- ITS FALSE NEIGHBOUR: 'it returns false'. Refute it at one input. -/
def fnMulOneWrong : ChangeSpec := { name := "fnMulOne", fn := fun _ => fun
  | [d] => { results := [.lit (.bool false)], args := [d] }
  | _ => none }
def FnMulOneWrongFalsely : Prop := fnMulOneRow.holds Try.pinned (OpenSpec.ofChange fnMulOneWrong)

/-- 'laws.FnExactPolyLine': WHATEVER THE INPUT: true; the input reads as it did. -/
def fnExactPolyLineSpec : ChangeSpec := { name := "fnExactPolyLine", fn := fun _ => fun
  | [d1, d2] => { results := [.lit (.bool true)], args := [d1, d2] }
  | _ => none }
def fnExactPolyLineRow : OpenClaim := { program := "ytbehnbemhnnmfaa", sum := "96d226b2c621770756fae5b3256afb25b54ae7ec897970c91c0b36ce6e476e39", func := "loop.example/scrutineer/laws.FnExactPolyLine", spec := "fnExactPolyLine", apart := false }
def FnExactPolyLineSaid : Prop := fnExactPolyLineRow.holds Try.pinned (OpenSpec.ofChange fnExactPolyLineSpec)

/-- ITS FALSE NEIGHBOUR: 'it returns false'. Refute it at one input. -/
def fnExactPolyLineWrong : ChangeSpec := { name := "fnExactPolyLine", fn := fun _ => fun
  | [d1, d2] => { results := [.lit (.bool false)], args := [d1, d2] }
  | _ => none }
def FnExactPolyLineWrongFalsely : Prop := fnExactPolyLineRow.holds Try.pinned (OpenSpec.ofChange fnExactPolyLineWrong)

/-- 'laws.FnExactPolyThrough': WHATEVER THE INPUT: true; the input reads as it did. -/
def fnExactPolyThroughSpec : ChangeSpec := { name := "fnExactPolyThrough", fn := fun _ => fun
  | [d] => { results := [.lit (.bool true)], args := [d] }
  | _ => none }
def fnExactPolyThroughRow : OpenClaim := { program := "ytbehnbemhnnmfaa", sum := "96d226b2c621770756fae5b3256afb25b54ae7ec897970c91c0b36ce6e476e39", func := "loop.example/scrutineer/laws.FnExactPolyThrough", spec := "fnExactPolyThrough", apart := false }
def FnExactPolyThroughSaid : Prop := fnExactPolyThroughRow.holds Try.pinned (OpenSpec.ofChange fnExactPolyThroughSpec)

/-- ITS FALSE NEIGHBOUR: 'it returns false'. Refute it at one input. -/
def fnExactPolyThroughWrong : ChangeSpec := { name := "fnExactPolyThrough", fn := fun _ => fun
  | [d] => { results := [.lit (.bool false)], args := [d] }
  | _ => none }
def FnExactPolyThroughWrongFalsely : Prop := fnExactPolyThroughRow.holds Try.pinned (OpenSpec.ofChange fnExactPolyThroughWrong)

/-- 'laws.FnLine': WHATEVER THE INPUT: true; the input reads as it did. -/
def fnLineSpec : ChangeSpec := { name := "fnLine", fn := fun _ => fun
  | [d1, d2] => { results := [.lit (.bool true)], args := [d1, d2] }
  | _ => none }
def fnLineRow : OpenClaim := { program := "ytbehnbemhnnmfaa", sum := "96d226b2c621770756fae5b3256afb25b54ae7ec897970c91c0b36ce6e476e39", func := "loop.example/scrutineer/laws.FnLine", spec := "fnLine", apart := false }
def FnLineSaid : Prop := fnLineRow.holds Try.pinned (OpenSpec.ofChange fnLineSpec)

/-- ITS FALSE NEIGHBOUR: 'it returns false'. Refute it at one input. -/
def fnLineWrong : ChangeSpec := { name := "fnLine", fn := fun _ => fun
  | [d1, d2] => { results := [.lit (.bool false)], args := [d1, d2] }
  | _ => none }
def FnLineWrongFalsely : Prop := fnLineRow.holds Try.pinned (OpenSpec.ofChange fnLineWrong)

/- THE SECOND FORM. 'bulk': how many values and letters a reading holds, each counted each time it is reached (what is shared counts as often as it is met; a slice's spare places count too). A statement '..UptoSaid' is the law's where the arguments, and the package variables that the reading takes, are together of bulk at most 1048576: NARROWER than '..Said'. Prove '..Said' where nothing that the law and all that it calls make is longer than what came in: it says more and counts as full. Else prove '..UptoSaid'. A law counts once. -/
mutual
def uptoBulk {H : Type} : DataW H → Nat
  | .lit (.string bytes) => bytes.length + 1
  | .lit _ => 1
  | .nil => 1
  | .ptr d => uptoBulk d + 1
  | .slice elems spare => uptoBulkAll elems + uptoBulkAll spare + 1
  | .agg parts => uptoBulkAll parts + 1
  | .iface _ d => uptoBulk d + 1
  | .map entries => uptoBulkEntries entries + 1
  | .held _ => 1
def uptoBulkAll {H : Type} : List (DataW H) → Nat
  | [] => 0
  | d :: r => uptoBulk d + uptoBulkAll r
def uptoBulkEntries {H : Type} : List (Lit × DataW H) → Nat
  | [] => 0
  | x :: r => uptoBulkEntry x + uptoBulkEntries r
def uptoBulkEntry {H : Type} : Lit × DataW H → Nat
  | (.string bytes, d) => bytes.length + uptoBulk d + 1
  | (_, d) => uptoBulk d + 1
 end
def uptoSmall : (H : Type) → List (DataW H) → Bool := fun _ ds => decide (uptoBulkAll ds ≤ 1048576)
def OpenSpec.upto (s : _root_.Go.ChangeSpec) : _root_.Go.OpenSpec := { _root_.Go.OpenSpec.ofChange s with cond := some uptoSmall }

/-- 'laws.FnExactPolyOk', WHERE WHAT IT READS IS OF BULK AT MOST 1048576: true; the input reads as it did. -/
def fnExactPolyOkUptoRow : OpenClaim := { program := "ytbehnbemhnnmfaa", sum := "96d226b2c621770756fae5b3256afb25b54ae7ec897970c91c0b36ce6e476e39", func := "loop.example/scrutineer/laws.FnExactPolyOk", spec := "fnExactPolyOk", apart := false, narrowed := true }
def FnExactPolyOkUptoSaid : Prop := fnExactPolyOkUptoRow.holds Try.pinned (OpenSpec.upto fnExactPolyOkSpec)

/-- 'laws.FnExactPolyAt', WHERE WHAT IT READS IS OF BULK AT MOST 1048576: true; the input reads as it did. -/
def fnExactPolyAtUptoRow : OpenClaim := { program := "ytbehnbemhnnmfaa", sum := "96d226b2c621770756fae5b3256afb25b54ae7ec897970c91c0b36ce6e476e39", func := "loop.example/scrutineer/laws.FnExactPolyAt", spec := "fnExactPolyAt", apart := false, narrowed := true }
def FnExactPolyAtUptoSaid : Prop := fnExactPolyAtUptoRow.holds Try.pinned (OpenSpec.upto fnExactPolyAtSpec)

/-- 'laws.FnPolyAt', WHERE WHAT IT READS IS OF BULK AT MOST 1048576: true; the input reads as it did. -/
def fnPolyAtUptoRow : OpenClaim := { program := "ytbehnbemhnnmfaa", sum := "96d226b2c621770756fae5b3256afb25b54ae7ec897970c91c0b36ce6e476e39", func := "loop.example/scrutineer/laws.FnPolyAt", spec := "fnPolyAt", apart := false, narrowed := true }
def FnPolyAtUptoSaid : Prop := fnPolyAtUptoRow.holds Try.pinned (OpenSpec.upto fnPolyAtSpec)

/-- 'laws.FnPolyRoots', WHERE WHAT IT READS IS OF BULK AT MOST 1048576: true; the input reads as it did. -/
def fnPolyRootsUptoRow : OpenClaim := { program := "ytbehnbemhnnmfaa", sum := "96d226b2c621770756fae5b3256afb25b54ae7ec897970c91c0b36ce6e476e39", func := "loop.example/scrutineer/laws.FnPolyRoots", spec := "fnPolyRoots", apart := false, narrowed := true }
def FnPolyRootsUptoSaid : Prop := fnPolyRootsUptoRow.holds Try.pinned (OpenSpec.upto fnPolyRootsSpec)

/-- 'laws.FnPolyForm', WHERE WHAT IT READS IS OF BULK AT MOST 1048576: true; the input reads as it did. -/
def fnPolyFormUptoRow : OpenClaim := { program := "ytbehnbemhnnmfaa", sum := "96d226b2c621770756fae5b3256afb25b54ae7ec897970c91c0b36ce6e476e39", func := "loop.example/scrutineer/laws.FnPolyForm", spec := "fnPolyForm", apart := false, narrowed := true }
def FnPolyFormUptoSaid : Prop := fnPolyFormUptoRow.holds Try.pinned (OpenSpec.upto fnPolyFormSpec)

/-- 'laws.FnExactPolyMul', WHERE WHAT IT READS IS OF BULK AT MOST 1048576: true; the input reads as it did. -/
def fnExactPolyMulUptoRow : OpenClaim := { program := "ytbehnbemhnnmfaa", sum := "96d226b2c621770756fae5b3256afb25b54ae7ec897970c91c0b36ce6e476e39", func := "loop.example/scrutineer/laws.FnExactPolyMul", spec := "fnExactPolyMul", apart := false, narrowed := true }
def FnExactPolyMulUptoSaid : Prop := fnExactPolyMulUptoRow.holds Try.pinned (OpenSpec.upto fnExactPolyMulSpec)

/-- 'laws.FnPolyMul', WHERE WHAT IT READS IS OF BULK AT MOST 1048576: true; the input reads as it did. -/
def fnPolyMulUptoRow : OpenClaim := { program := "ytbehnbemhnnmfaa", sum := "96d226b2c621770756fae5b3256afb25b54ae7ec897970c91c0b36ce6e476e39", func := "loop.example/scrutineer/laws.FnPolyMul", spec := "fnPolyMul", apart := false, narrowed := true }
def FnPolyMulUptoSaid : Prop := fnPolyMulUptoRow.holds Try.pinned (OpenSpec.upto fnPolyMulSpec)

/-- 'laws.FnMulThree', WHERE WHAT IT READS IS OF BULK AT MOST 1048576: true; the input reads as it did. -/
def fnMulThreeUptoRow : OpenClaim := { program := "ytbehnbemhnnmfaa", sum := "96d226b2c621770756fae5b3256afb25b54ae7ec897970c91c0b36ce6e476e39", func := "loop.example/scrutineer/laws.FnMulThree", spec := "fnMulThree", apart := false, narrowed := true }
def FnMulThreeUptoSaid : Prop := fnMulThreeUptoRow.holds Try.pinned (OpenSpec.upto fnMulThreeSpec)

/-- 'laws.FnMulOne', WHERE WHAT IT READS IS OF BULK AT MOST 1048576: true; the input reads as it did. -/
def fnMulOneUptoRow : OpenClaim := { program := "ytbehnbemhnnmfaa", sum := "96d226b2c621770756fae5b3256afb25b54ae7ec897970c91c0b36ce6e476e39", func := "loop.example/scrutineer/laws.FnMulOne", spec := "fnMulOne", apart := false, narrowed := true }
def FnMulOneUptoSaid : Prop := fnMulOneUptoRow.holds Try.pinned (OpenSpec.upto fnMulOneSpec)

/-- 'laws.FnExactPolyLine', WHERE WHAT IT READS IS OF BULK AT MOST 1048576: true; the input reads as it did. -/
def fnExactPolyLineUptoRow : OpenClaim := { program := "ytbehnbemhnnmfaa", sum := "96d226b2c621770756fae5b3256afb25b54ae7ec897970c91c0b36ce6e476e39", func := "loop.example/scrutineer/laws.FnExactPolyLine", spec := "fnExactPolyLine", apart := false, narrowed := true }
def FnExactPolyLineUptoSaid : Prop := fnExactPolyLineUptoRow.holds Try.pinned (OpenSpec.upto fnExactPolyLineSpec)

/-- 'laws.FnExactPolyThrough', WHERE WHAT IT READS IS OF BULK AT MOST 1048576: true; the input reads as it did. -/
def fnExactPolyThroughUptoRow : OpenClaim := { program := "ytbehnbemhnnmfaa", sum := "96d226b2c621770756fae5b3256afb25b54ae7ec897970c91c0b36ce6e476e39", func := "loop.example/scrutineer/laws.FnExactPolyThrough", spec := "fnExactPolyThrough", apart := false, narrowed := true }
def FnExactPolyThroughUptoSaid : Prop := fnExactPolyThroughUptoRow.holds Try.pinned (OpenSpec.upto fnExactPolyThroughSpec)

/-- 'laws.FnLine', WHERE WHAT IT READS IS OF BULK AT MOST 1048576: true; the input reads as it did. -/
def fnLineUptoRow : OpenClaim := { program := "ytbehnbemhnnmfaa", sum := "96d226b2c621770756fae5b3256afb25b54ae7ec897970c91c0b36ce6e476e39", func := "loop.example/scrutineer/laws.FnLine", spec := "fnLine", apart := false, narrowed := true }
def FnLineUptoSaid : Prop := fnLineUptoRow.holds Try.pinned (OpenSpec.upto fnLineSpec)

end Rows
end Go.Proofs.Ytbehnbemhnnmfaa
