/-
  No cell of these rows narrows 'for every input' (looked for: loops, veiled, ifaces, maps, wideKeys, modest, calm, conditions, laid).
  DERIVED. THE GIVEN ROWS OF THIS SEAT. 7 by the template 'for every input the law returns true; each argument reads behind the call as it read before'; 0 by the template 'total and deterministic' (their statements: YtdodjgafjkjajaaTotals.lean).
  GIVEN WITH THE SEED: the statements are not yours to turn. If you find one false, say at which input.
  Laid BY PROGRAM, IN A SANDBOX (cutbox-rows.mjs): the forced cells as the released guide's own fill.sh prints them over the translation b8fc8aeddf491dac… (all of the seat's roots in one cut). By AI agents, Wed Nov 11 2026. No macro, syntax, notation, axiom, sorry.
-/
import Derived.Test.YtdodjgafjkjajaaChecked
import GoSem.Claim
import GoSem.ClaimJoined
import GoSem.ClaimMapViews
import Derived.JoinedTies
import Derived.KernelRfl
namespace Go.Proofs.Ytdodjgafjkjajaa
/- THE CELL 'sum', in the pinned program and in every row, IS THE sha256 OF THE DUMP (.gsa) THAT YtdodjgafjkjajaaProg.lean LOADS. Nothing in Lean hashes anything: it is a label: what it is worth is what the hold of that sum in a sandbox is worth. -/
noncomputable def Try.pinned : Pinned := { name := "ytdodjgafjkjajaa", sum := "b8fc8aeddf491dac454ff402c05c50a3516d4b6f9e5a69137b137331371da3d8", checked := Try.checked }
namespace Rows
def none {H : Type} : Left H := { results := [], args := [] }

/-- 'laws.FnRandVec': WHATEVER THE INPUT: true; the input reads as it did. -/
def fnRandVecSpec : ChangeSpec := { name := "fnRandVec", fn := fun _ => fun
  | [d1, d2] => { results := [.lit (.bool true)], args := [d1, d2] }
  | _ => none }
def fnRandVecRow : OpenClaim := { program := "ytdodjgafjkjajaa", sum := "b8fc8aeddf491dac454ff402c05c50a3516d4b6f9e5a69137b137331371da3d8", func := "loop.example/scrutineer/laws.FnRandVec", spec := "fnRandVec", unfollowed := true, recurses := true, apart := false }
def FnRandVecSaid : Prop := fnRandVecRow.holds Try.pinned (OpenSpec.ofChange fnRandVecSpec)

/-- ITS FALSE NEIGHBOUR: 'it returns false'. Refute it at one input. -/
def fnRandVecWrong : ChangeSpec := { name := "fnRandVec", fn := fun _ => fun
  | [d1, d2] => { results := [.lit (.bool false)], args := [d1, d2] }
  | _ => none }
def FnRandVecWrongFalsely : Prop := fnRandVecRow.holds Try.pinned (OpenSpec.ofChange fnRandVecWrong)

/-- 'laws.FnRandEven': WHATEVER THE INPUT: true; the input reads as it did. -/
def fnRandEvenSpec : ChangeSpec := { name := "fnRandEven", fn := fun _ => fun
  | [d] => { results := [.lit (.bool true)], args := [d] }
  | _ => none }
def fnRandEvenRow : OpenClaim := { program := "ytdodjgafjkjajaa", sum := "b8fc8aeddf491dac454ff402c05c50a3516d4b6f9e5a69137b137331371da3d8", func := "loop.example/scrutineer/laws.FnRandEven", spec := "fnRandEven", apart := false }
def FnRandEvenSaid : Prop := fnRandEvenRow.holds Try.pinned (OpenSpec.ofChange fnRandEvenSpec)

/-- ITS FALSE NEIGHBOUR: 'it returns false'. Refute it at one input. -/
def fnRandEvenWrong : ChangeSpec := { name := "fnRandEven", fn := fun _ => fun
  | [d] => { results := [.lit (.bool false)], args := [d] }
  | _ => none }
def FnRandEvenWrongFalsely : Prop := fnRandEvenRow.holds Try.pinned (OpenSpec.ofChange fnRandEvenWrong)

/-- 'laws.FnRandBoth': WHATEVER THE INPUT: true; the input reads as it did. -/
def fnRandBothSpec : ChangeSpec := { name := "fnRandBoth", fn := fun _ => fun
  | [d1, d2] => { results := [.lit (.bool true)], args := [d1, d2] }
  | _ => none }
def fnRandBothRow : OpenClaim := { program := "ytdodjgafjkjajaa", sum := "b8fc8aeddf491dac454ff402c05c50a3516d4b6f9e5a69137b137331371da3d8", func := "loop.example/scrutineer/laws.FnRandBoth", spec := "fnRandBoth", apart := false }
def FnRandBothSaid : Prop := fnRandBothRow.holds Try.pinned (OpenSpec.ofChange fnRandBothSpec)

/-- ITS FALSE NEIGHBOUR: 'it returns false'. Refute it at one input. -/
def fnRandBothWrong : ChangeSpec := { name := "fnRandBoth", fn := fun _ => fun
  | [d1, d2] => { results := [.lit (.bool false)], args := [d1, d2] }
  | _ => none }
def FnRandBothWrongFalsely : Prop := fnRandBothRow.holds Try.pinned (OpenSpec.ofChange fnRandBothWrong)

/-- 'laws.FnRandPlaces': WHATEVER THE INPUT: true; the input reads as it did. -/
def fnRandPlacesSpec : ChangeSpec := { name := "fnRandPlaces", fn := fun _ => fun
  | [d] => { results := [.lit (.bool true)], args := [d] }
  | _ => none }
def fnRandPlacesRow : OpenClaim := { program := "ytdodjgafjkjajaa", sum := "b8fc8aeddf491dac454ff402c05c50a3516d4b6f9e5a69137b137331371da3d8", func := "loop.example/scrutineer/laws.FnRandPlaces", spec := "fnRandPlaces", apart := false }
def FnRandPlacesSaid : Prop := fnRandPlacesRow.holds Try.pinned (OpenSpec.ofChange fnRandPlacesSpec)

/-- ITS FALSE NEIGHBOUR: 'it returns false'. Refute it at one input. -/
def fnRandPlacesWrong : ChangeSpec := { name := "fnRandPlaces", fn := fun _ => fun
  | [d] => { results := [.lit (.bool false)], args := [d] }
  | _ => none }
def FnRandPlacesWrongFalsely : Prop := fnRandPlacesRow.holds Try.pinned (OpenSpec.ofChange fnRandPlacesWrong)

/-- 'laws.FnExactRandAt': WHATEVER THE INPUT: true; the input reads as it did. -/
def fnExactRandAtSpec : ChangeSpec := { name := "fnExactRandAt", fn := fun _ => fun
  | [d1, d2] => { results := [.lit (.bool true)], args := [d1, d2] }
  | _ => none }
def fnExactRandAtRow : OpenClaim := { program := "ytdodjgafjkjajaa", sum := "b8fc8aeddf491dac454ff402c05c50a3516d4b6f9e5a69137b137331371da3d8", func := "loop.example/scrutineer/laws.FnExactRandAt", spec := "fnExactRandAt", apart := false }
def FnExactRandAtSaid : Prop := fnExactRandAtRow.holds Try.pinned (OpenSpec.ofChange fnExactRandAtSpec)

/-- ITS FALSE NEIGHBOUR: 'it returns false'. Refute it at one input. -/
def fnExactRandAtWrong : ChangeSpec := { name := "fnExactRandAt", fn := fun _ => fun
  | [d1, d2] => { results := [.lit (.bool false)], args := [d1, d2] }
  | _ => none }
def FnExactRandAtWrongFalsely : Prop := fnExactRandAtRow.holds Try.pinned (OpenSpec.ofChange fnExactRandAtWrong)

/-- 'laws.FnExactRandVec': WHATEVER THE INPUT: true; the input reads as it did. -/
def fnExactRandVecSpec : ChangeSpec := { name := "fnExactRandVec", fn := fun _ => fun
  | [d1, d2] => { results := [.lit (.bool true)], args := [d1, d2] }
  | _ => none }
def fnExactRandVecRow : OpenClaim := { program := "ytdodjgafjkjajaa", sum := "b8fc8aeddf491dac454ff402c05c50a3516d4b6f9e5a69137b137331371da3d8", func := "loop.example/scrutineer/laws.FnExactRandVec", spec := "fnExactRandVec", unfollowed := true, recurses := true, apart := false }
def FnExactRandVecSaid : Prop := fnExactRandVecRow.holds Try.pinned (OpenSpec.ofChange fnExactRandVecSpec)

/-- ITS FALSE NEIGHBOUR: 'it returns false'. Refute it at one input. -/
def fnExactRandVecWrong : ChangeSpec := { name := "fnExactRandVec", fn := fun _ => fun
  | [d1, d2] => { results := [.lit (.bool false)], args := [d1, d2] }
  | _ => none }
def FnExactRandVecWrongFalsely : Prop := fnExactRandVecRow.holds Try.pinned (OpenSpec.ofChange fnExactRandVecWrong)

/-- 'laws.FnExactRandBoth': WHATEVER THE INPUT: true; the input reads as it did. -/
def fnExactRandBothSpec : ChangeSpec := { name := "fnExactRandBoth", fn := fun _ => fun
  | [d1, d2, d3] => { results := [.lit (.bool true)], args := [d1, d2, d3] }
  | _ => none }
def fnExactRandBothRow : OpenClaim := { program := "ytdodjgafjkjajaa", sum := "b8fc8aeddf491dac454ff402c05c50a3516d4b6f9e5a69137b137331371da3d8", func := "loop.example/scrutineer/laws.FnExactRandBoth", spec := "fnExactRandBoth", apart := false }
def FnExactRandBothSaid : Prop := fnExactRandBothRow.holds Try.pinned (OpenSpec.ofChange fnExactRandBothSpec)

/-- ITS FALSE NEIGHBOUR: 'it returns false'. Refute it at one input. -/
def fnExactRandBothWrong : ChangeSpec := { name := "fnExactRandBoth", fn := fun _ => fun
  | [d1, d2, d3] => { results := [.lit (.bool false)], args := [d1, d2, d3] }
  | _ => none }
def FnExactRandBothWrongFalsely : Prop := fnExactRandBothRow.holds Try.pinned (OpenSpec.ofChange fnExactRandBothWrong)

/- THE SECOND FORM. 'bulk': how many values and letters a reading holds, each counted each time it is reached (what is shared counts as often as it is met; a slice's spare places count too). A statement '..UptoSaid' is the law's where the arguments, and the package variables that the reading takes, are together of bulk at most 1048576: NARROWER than '..Said'. Prove '..Said' where nothing that the law and all that it calls make is longer than what came in: it says more and counts as full. Else prove '..UptoSaid'. A law counts once. -/
mutual
def uptoBulk {H : Type} : DataW H → Nat
  | .lit (.string bytes) => bytes.length + 1
  | .lit _ => 1
  | .nil => 1
  | .ptr d => uptoBulk d + 1
  | .slice elems spare => uptoBulkAll elems + uptoBulkAll spare + 1
  | .agg parts => uptoBulkAll parts + 1
  | .iface _ d => uptoBulk d + 1
  | .map entries => uptoBulkEntries entries + 1
  | .held _ => 1
def uptoBulkAll {H : Type} : List (DataW H) → Nat
  | [] => 0
  | d :: r => uptoBulk d + uptoBulkAll r
def uptoBulkEntries {H : Type} : List (Lit × DataW H) → Nat
  | [] => 0
  | x :: r => uptoBulkEntry x + uptoBulkEntries r
def uptoBulkEntry {H : Type} : Lit × DataW H → Nat
  | (.string bytes, d) => bytes.length + uptoBulk d + 1
  | (_, d) => uptoBulk d + 1
 end
def uptoSmall : (H : Type) → List (DataW H) → Bool := fun _ ds => decide (uptoBulkAll ds ≤ 1048576)
def OpenSpec.upto (s : _root_.Go.ChangeSpec) : _root_.Go.OpenSpec := { _root_.Go.OpenSpec.ofChange s with cond := some uptoSmall }

/-- 'laws.FnRandVec', WHERE WHAT IT READS IS OF BULK AT MOST 1048576: true; the input reads as it did. -/
def fnRandVecUptoRow : OpenClaim := { program := "ytdodjgafjkjajaa", sum := "b8fc8aeddf491dac454ff402c05c50a3516d4b6f9e5a69137b137331371da3d8", func := "loop.example/scrutineer/laws.FnRandVec", spec := "fnRandVec", unfollowed := true, recurses := true, apart := false, narrowed := true }
def FnRandVecUptoSaid : Prop := fnRandVecUptoRow.holds Try.pinned (OpenSpec.upto fnRandVecSpec)

/-- 'laws.FnRandEven', WHERE WHAT IT READS IS OF BULK AT MOST 1048576: true; the input reads as it did. -/
def fnRandEvenUptoRow : OpenClaim := { program := "ytdodjgafjkjajaa", sum := "b8fc8aeddf491dac454ff402c05c50a3516d4b6f9e5a69137b137331371da3d8", func := "loop.example/scrutineer/laws.FnRandEven", spec := "fnRandEven", apart := false, narrowed := true }
def FnRandEvenUptoSaid : Prop := fnRandEvenUptoRow.holds Try.pinned (OpenSpec.upto fnRandEvenSpec)

/-- 'laws.FnRandBoth', WHERE WHAT IT READS IS OF BULK AT MOST 1048576: true; the input reads as it did. -/
def fnRandBothUptoRow : OpenClaim := { program := "ytdodjgafjkjajaa", sum := "b8fc8aeddf491dac454ff402c05c50a3516d4b6f9e5a69137b137331371da3d8", func := "loop.example/scrutineer/laws.FnRandBoth", spec := "fnRandBoth", apart := false, narrowed := true }
def FnRandBothUptoSaid : Prop := fnRandBothUptoRow.holds Try.pinned (OpenSpec.upto fnRandBothSpec)

/-- 'laws.FnRandPlaces', WHERE WHAT IT READS IS OF BULK AT MOST 1048576: true; the input reads as it did. -/
def fnRandPlacesUptoRow : OpenClaim := { program := "ytdodjgafjkjajaa", sum := "b8fc8aeddf491dac454ff402c05c50a3516d4b6f9e5a69137b137331371da3d8", func := "loop.example/scrutineer/laws.FnRandPlaces", spec := "fnRandPlaces", apart := false, narrowed := true }
def FnRandPlacesUptoSaid : Prop := fnRandPlacesUptoRow.holds Try.pinned (OpenSpec.upto fnRandPlacesSpec)

/-- 'laws.FnExactRandAt', WHERE WHAT IT READS IS OF BULK AT MOST 1048576: true; the input reads as it did. -/
def fnExactRandAtUptoRow : OpenClaim := { program := "ytdodjgafjkjajaa", sum := "b8fc8aeddf491dac454ff402c05c50a3516d4b6f9e5a69137b137331371da3d8", func := "loop.example/scrutineer/laws.FnExactRandAt", spec := "fnExactRandAt", apart := false, narrowed := true }
def FnExactRandAtUptoSaid : Prop := fnExactRandAtUptoRow.holds Try.pinned (OpenSpec.upto fnExactRandAtSpec)

/-- 'laws.FnExactRandVec', WHERE WHAT IT READS IS OF BULK AT MOST 1048576: true; the input reads as it did. -/
def fnExactRandVecUptoRow : OpenClaim := { program := "ytdodjgafjkjajaa", sum := "b8fc8aeddf491dac454ff402c05c50a3516d4b6f9e5a69137b137331371da3d8", func := "loop.example/scrutineer/laws.FnExactRandVec", spec := "fnExactRandVec", unfollowed := true, recurses := true, apart := false, narrowed := true }
def FnExactRandVecUptoSaid : Prop := fnExactRandVecUptoRow.holds Try.pinned (OpenSpec.upto fnExactRandVecSpec)

/-- 'laws.FnExactRandBoth', WHERE WHAT IT READS IS OF BULK AT MOST 1048576: true; the input reads as it did. -/
def fnExactRandBothUptoRow : OpenClaim := { program := "ytdodjgafjkjajaa", sum := "b8fc8aeddf491dac454ff402c05c50a3516d4b6f9e5a69137b137331371da3d8", func := "loop.example/scrutineer/laws.FnExactRandBoth", spec := "fnExactRandBoth", apart := false, narrowed := true }
def FnExactRandBothUptoSaid : Prop := fnExactRandBothUptoRow.holds Try.pinned (OpenSpec.upto fnExactRandBothSpec)

end Rows
end Go.Proofs.Ytdodjgafjkjajaa
