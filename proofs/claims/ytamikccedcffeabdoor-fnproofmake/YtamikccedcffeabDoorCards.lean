/-
  DERIVED. GIVEN WITH THE SEED: THE CARDS: each row of YtamikccedcffeabDoorRows.lean that lists a variable, with what it lists TIED to the program's text (the seventh form; the later family's looks); each row that meets fmt, with fmt's text TOLD by the authors' own Lean function (tested against real Go, not proved from fmt's source: count such statements apart). THE CARD IS WHAT COUNTS. Prove the row's statement (the work); the ties are given (YtamikccedcffeabDoorTie.lean); close each card by the builder's one call (the guide's Derived/Test/ToyasCard.lean, 'card_holds'). Laid BY PROGRAM, IN A SANDBOX (cutbox-door.mjs). By AI agents, Wed Nov 11 2026. No macro, syntax, notation, axiom, sorry.
-/
import Derived.Test.YtamikccedcffeabDoorRows
import GoSem.ClaimSeven
namespace Go.Proofs.YtamikccedcffeabDoor
namespace Rows

/-- THE TIED CARD OF 'laws.FnProofMake'. -/
def fnProofMakeCard : Claim7 := { stood := { row := fnProofMakeRow, standIns := [], harness := (true, "03c9dfb5184f67f35b7f7e3e4e7655f889ef5749b0ed3e4e4ef4431d005c5f59"), looks := true }, kinds := [], alts := [], laidByText := true, laidKinds := [.sentinel], laidTests := true, laidLooks := .later }
def FnProofMakeCardSaid : Prop := Claim7.holds Tryd.pinned (.plain (OpenSpec.ofChange fnProofMakeSpec)) fnProofMakeCard

/-- THE TIED CARD OF 'laws.FnProofOk'. -/
def fnProofOkCard : Claim7 := { stood := { row := fnProofOkRow, standIns := [], harness := (true, "03c9dfb5184f67f35b7f7e3e4e7655f889ef5749b0ed3e4e4ef4431d005c5f59"), looks := true }, kinds := [], alts := [], laidByText := true, laidKinds := [.sentinel], laidTests := true, laidLooks := .later }
def FnProofOkCardSaid : Prop := Claim7.holds Tryd.pinned (.plain (OpenSpec.ofChange fnProofOkSpec)) fnProofOkCard

/-- THE TIED CARD OF 'laws.FnProofAll'. -/
def fnProofAllCard : Claim7 := { stood := { row := fnProofAllRow, standIns := [], harness := (true, "03c9dfb5184f67f35b7f7e3e4e7655f889ef5749b0ed3e4e4ef4431d005c5f59"), looks := true }, kinds := [], alts := [], laidByText := true, laidKinds := [.sentinel], laidTests := true, laidLooks := .later }
def FnProofAllCardSaid : Prop := Claim7.holds Tryd.pinned (.plain (OpenSpec.ofChange fnProofAllSpec)) fnProofAllCard

/-- THE TIED CARD OF 'laws.FnProofCut'. -/
def fnProofCutCard : Claim7 := { stood := { row := fnProofCutRow, standIns := [], harness := (true, "03c9dfb5184f67f35b7f7e3e4e7655f889ef5749b0ed3e4e4ef4431d005c5f59"), looks := true }, kinds := [], alts := [], laidByText := true, laidKinds := [.sentinel], laidTests := true, laidLooks := .later }
def FnProofCutCardSaid : Prop := Claim7.holds Tryd.pinned (.plain (OpenSpec.ofChange fnProofCutSpec)) fnProofCutCard

/-- THE TIED CARD OF 'laws.FnProofOne'. -/
def fnProofOneCard : Claim7 := { stood := { row := fnProofOneRow, standIns := [], harness := (true, "03c9dfb5184f67f35b7f7e3e4e7655f889ef5749b0ed3e4e4ef4431d005c5f59"), looks := true }, kinds := [], alts := [], laidByText := true, laidKinds := [.sentinel], laidTests := true, laidLooks := .later }
def FnProofOneCardSaid : Prop := Claim7.holds Tryd.pinned (.plain (OpenSpec.ofChange fnProofOneSpec)) fnProofOneCard

/-- THE SECOND FORM's CARD OF 'laws.FnProofMake'. -/
def fnProofMakeUptoCard : Claim7 := { stood := { row := fnProofMakeUptoRow, standIns := [], harness := (true, "03c9dfb5184f67f35b7f7e3e4e7655f889ef5749b0ed3e4e4ef4431d005c5f59"), looks := true }, kinds := [], alts := [], laidByText := true, laidKinds := [.sentinel], laidTests := true, laidLooks := .later }
def FnProofMakeUptoCardSaid : Prop := Claim7.holds Tryd.pinned (.plain (OpenSpec.upto fnProofMakeSpec)) fnProofMakeUptoCard

/-- THE SECOND FORM's CARD OF 'laws.FnProofOk'. -/
def fnProofOkUptoCard : Claim7 := { stood := { row := fnProofOkUptoRow, standIns := [], harness := (true, "03c9dfb5184f67f35b7f7e3e4e7655f889ef5749b0ed3e4e4ef4431d005c5f59"), looks := true }, kinds := [], alts := [], laidByText := true, laidKinds := [.sentinel], laidTests := true, laidLooks := .later }
def FnProofOkUptoCardSaid : Prop := Claim7.holds Tryd.pinned (.plain (OpenSpec.upto fnProofOkSpec)) fnProofOkUptoCard

/-- THE SECOND FORM's CARD OF 'laws.FnProofAll'. -/
def fnProofAllUptoCard : Claim7 := { stood := { row := fnProofAllUptoRow, standIns := [], harness := (true, "03c9dfb5184f67f35b7f7e3e4e7655f889ef5749b0ed3e4e4ef4431d005c5f59"), looks := true }, kinds := [], alts := [], laidByText := true, laidKinds := [.sentinel], laidTests := true, laidLooks := .later }
def FnProofAllUptoCardSaid : Prop := Claim7.holds Tryd.pinned (.plain (OpenSpec.upto fnProofAllSpec)) fnProofAllUptoCard

/-- THE SECOND FORM's CARD OF 'laws.FnProofCut'. -/
def fnProofCutUptoCard : Claim7 := { stood := { row := fnProofCutUptoRow, standIns := [], harness := (true, "03c9dfb5184f67f35b7f7e3e4e7655f889ef5749b0ed3e4e4ef4431d005c5f59"), looks := true }, kinds := [], alts := [], laidByText := true, laidKinds := [.sentinel], laidTests := true, laidLooks := .later }
def FnProofCutUptoCardSaid : Prop := Claim7.holds Tryd.pinned (.plain (OpenSpec.upto fnProofCutSpec)) fnProofCutUptoCard

/-- THE SECOND FORM's CARD OF 'laws.FnProofOne'. -/
def fnProofOneUptoCard : Claim7 := { stood := { row := fnProofOneUptoRow, standIns := [], harness := (true, "03c9dfb5184f67f35b7f7e3e4e7655f889ef5749b0ed3e4e4ef4431d005c5f59"), looks := true }, kinds := [], alts := [], laidByText := true, laidKinds := [.sentinel], laidTests := true, laidLooks := .later }
def FnProofOneUptoCardSaid : Prop := Claim7.holds Tryd.pinned (.plain (OpenSpec.upto fnProofOneSpec)) fnProofOneUptoCard
end Rows
end Go.Proofs.YtamikccedcffeabDoor
