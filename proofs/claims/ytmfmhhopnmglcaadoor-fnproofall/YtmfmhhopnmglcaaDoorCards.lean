/-
  DERIVED. GIVEN WITH THE SEED: THE CARDS: each row of YtmfmhhopnmglcaaDoorRows.lean that lists a variable, with what it lists TIED to the program's text (the seventh form; the later family's looks); each row that meets fmt, with fmt's text TOLD by the authors' own Lean function (tested against real Go, not proved from fmt's source: count such statements apart). THE CARD IS WHAT COUNTS. Prove the row's statement (the work); the ties are given (YtmfmhhopnmglcaaDoorTie.lean); close each card by the builder's one call (the guide's Derived/Test/ToyasCard.lean, 'card_holds'). Laid BY PROGRAM, IN A SANDBOX (cutbox-door.mjs). By AI agents, Wed Nov 11 2026. No macro, syntax, notation, axiom, sorry.
-/
import Derived.Test.YtmfmhhopnmglcaaDoorRows
import GoSem.ClaimSeven
namespace Go.Proofs.YtmfmhhopnmglcaaDoor
namespace Rows

/-- THE TIED CARD OF 'laws.FnExactProofOk'. -/
def fnExactProofOkCard : Claim7 := { stood := { row := fnExactProofOkRow, standIns := [], harness := (true, "35e9714a966987399509751047381904ed7b4bef9b6de213f9f4f26ec5229dc5"), looks := true }, kinds := [], alts := [], laidByText := true, laidKinds := [.sentinel], laidTests := true, laidLooks := .later }
def FnExactProofOkCardSaid : Prop := Claim7.holds Tryd.pinned (.plain (OpenSpec.ofChange fnExactProofOkSpec)) fnExactProofOkCard

/-- THE TIED CARD OF 'laws.FnExactProofAll'. -/
def fnExactProofAllCard : Claim7 := { stood := { row := fnExactProofAllRow, standIns := [], harness := (true, "35e9714a966987399509751047381904ed7b4bef9b6de213f9f4f26ec5229dc5"), looks := true }, kinds := [], alts := [], laidByText := true, laidKinds := [.sentinel], laidTests := true, laidLooks := .later }
def FnExactProofAllCardSaid : Prop := Claim7.holds Tryd.pinned (.plain (OpenSpec.ofChange fnExactProofAllSpec)) fnExactProofAllCard

/-- THE TIED CARD OF 'laws.FnProofOk'. -/
def fnProofOkCard : Claim7 := { stood := { row := fnProofOkRow, standIns := [], harness := (true, "35e9714a966987399509751047381904ed7b4bef9b6de213f9f4f26ec5229dc5"), looks := true }, kinds := [], alts := [], laidByText := true, laidKinds := [.sentinel], laidTests := true, laidLooks := .later }
def FnProofOkCardSaid : Prop := Claim7.holds Tryd.pinned (.plain (OpenSpec.ofChange fnProofOkSpec)) fnProofOkCard

/-- THE TIED CARD OF 'laws.FnProofAll'. -/
def fnProofAllCard : Claim7 := { stood := { row := fnProofAllRow, standIns := [], harness := (true, "35e9714a966987399509751047381904ed7b4bef9b6de213f9f4f26ec5229dc5"), looks := true }, kinds := [], alts := [], laidByText := true, laidKinds := [.sentinel], laidTests := true, laidLooks := .later }
def FnProofAllCardSaid : Prop := Claim7.holds Tryd.pinned (.plain (OpenSpec.ofChange fnProofAllSpec)) fnProofAllCard

/-- THE TIED CARD OF 'laws.FnProofCut'. -/
def fnProofCutCard : Claim7 := { stood := { row := fnProofCutRow, standIns := [], harness := (true, "35e9714a966987399509751047381904ed7b4bef9b6de213f9f4f26ec5229dc5"), looks := true }, kinds := [], alts := [], laidByText := true, laidKinds := [.sentinel], laidTests := true, laidLooks := .later }
def FnProofCutCardSaid : Prop := Claim7.holds Tryd.pinned (.plain (OpenSpec.ofChange fnProofCutSpec)) fnProofCutCard

/-- THE TIED CARD OF 'laws.FnProofOne'. -/
def fnProofOneCard : Claim7 := { stood := { row := fnProofOneRow, standIns := [], harness := (true, "35e9714a966987399509751047381904ed7b4bef9b6de213f9f4f26ec5229dc5"), looks := true }, kinds := [], alts := [], laidByText := true, laidKinds := [.sentinel], laidTests := true, laidLooks := .later }
def FnProofOneCardSaid : Prop := Claim7.holds Tryd.pinned (.plain (OpenSpec.ofChange fnProofOneSpec)) fnProofOneCard

/-- THE SECOND FORM's CARD OF 'laws.FnExactProofOk'. -/
def fnExactProofOkUptoCard : Claim7 := { stood := { row := fnExactProofOkUptoRow, standIns := [], harness := (true, "35e9714a966987399509751047381904ed7b4bef9b6de213f9f4f26ec5229dc5"), looks := true }, kinds := [], alts := [], laidByText := true, laidKinds := [.sentinel], laidTests := true, laidLooks := .later }
def FnExactProofOkUptoCardSaid : Prop := Claim7.holds Tryd.pinned (.plain (OpenSpec.upto fnExactProofOkSpec)) fnExactProofOkUptoCard

/-- THE SECOND FORM's CARD OF 'laws.FnExactProofAll'. -/
def fnExactProofAllUptoCard : Claim7 := { stood := { row := fnExactProofAllUptoRow, standIns := [], harness := (true, "35e9714a966987399509751047381904ed7b4bef9b6de213f9f4f26ec5229dc5"), looks := true }, kinds := [], alts := [], laidByText := true, laidKinds := [.sentinel], laidTests := true, laidLooks := .later }
def FnExactProofAllUptoCardSaid : Prop := Claim7.holds Tryd.pinned (.plain (OpenSpec.upto fnExactProofAllSpec)) fnExactProofAllUptoCard

/-- THE SECOND FORM's CARD OF 'laws.FnProofOk'. -/
def fnProofOkUptoCard : Claim7 := { stood := { row := fnProofOkUptoRow, standIns := [], harness := (true, "35e9714a966987399509751047381904ed7b4bef9b6de213f9f4f26ec5229dc5"), looks := true }, kinds := [], alts := [], laidByText := true, laidKinds := [.sentinel], laidTests := true, laidLooks := .later }
def FnProofOkUptoCardSaid : Prop := Claim7.holds Tryd.pinned (.plain (OpenSpec.upto fnProofOkSpec)) fnProofOkUptoCard

/-- THE SECOND FORM's CARD OF 'laws.FnProofAll'. -/
def fnProofAllUptoCard : Claim7 := { stood := { row := fnProofAllUptoRow, standIns := [], harness := (true, "35e9714a966987399509751047381904ed7b4bef9b6de213f9f4f26ec5229dc5"), looks := true }, kinds := [], alts := [], laidByText := true, laidKinds := [.sentinel], laidTests := true, laidLooks := .later }
def FnProofAllUptoCardSaid : Prop := Claim7.holds Tryd.pinned (.plain (OpenSpec.upto fnProofAllSpec)) fnProofAllUptoCard

/-- THE SECOND FORM's CARD OF 'laws.FnProofCut'. -/
def fnProofCutUptoCard : Claim7 := { stood := { row := fnProofCutUptoRow, standIns := [], harness := (true, "35e9714a966987399509751047381904ed7b4bef9b6de213f9f4f26ec5229dc5"), looks := true }, kinds := [], alts := [], laidByText := true, laidKinds := [.sentinel], laidTests := true, laidLooks := .later }
def FnProofCutUptoCardSaid : Prop := Claim7.holds Tryd.pinned (.plain (OpenSpec.upto fnProofCutSpec)) fnProofCutUptoCard

/-- THE SECOND FORM's CARD OF 'laws.FnProofOne'. -/
def fnProofOneUptoCard : Claim7 := { stood := { row := fnProofOneUptoRow, standIns := [], harness := (true, "35e9714a966987399509751047381904ed7b4bef9b6de213f9f4f26ec5229dc5"), looks := true }, kinds := [], alts := [], laidByText := true, laidKinds := [.sentinel], laidTests := true, laidLooks := .later }
def FnProofOneUptoCardSaid : Prop := Claim7.holds Tryd.pinned (.plain (OpenSpec.upto fnProofOneSpec)) fnProofOneUptoCard
end Rows
end Go.Proofs.YtmfmhhopnmglcaaDoor
