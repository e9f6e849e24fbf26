/-
  DERIVED. GIVEN WITH THE SEED: THE CARDS: each row of YtfhdgcndiljjcaaGreatDoorRows.lean that lists a variable, with what it lists TIED to the program's text (the seventh form; the later family's looks); each row that meets fmt, with fmt's text TOLD by the authors' own Lean function (tested against real Go, not proved from fmt's source: count such statements apart). THE CARD IS WHAT COUNTS. Prove the row's statement (the work); the ties are given (YtfhdgcndiljjcaaGreatDoorTie.lean); close each card by the builder's one call (the guide's Derived/Test/ToyasCard.lean, 'card_holds'). Laid BY PROGRAM, IN A SANDBOX (cutbox-door.mjs). By AI agents, Wed Nov 11 2026. No macro, syntax, notation, axiom, sorry.
-/
import Derived.Test.YtfhdgcndiljjcaaGreatDoorRows
import GoSem.ClaimSeven
namespace Go.Proofs.YtfhdgcndiljjcaaGreatDoor
namespace Rows

/-- THE TIED CARD OF 'laws.FnExactHeightOf'. -/
def fnExactHeightOfCard : Claim7 := { stood := { row := fnExactHeightOfRow, standIns := [], harness := (true, "7b1c177332139c3c436701fba198a296cd64bd548495bf68912b07494758b3f7"), looks := true }, kinds := [], alts := [], laidByText := true, laidKinds := [.handle, .sentinel], laidTests := true, laidLooks := .later }
def FnExactHeightOfCardSaid : Prop := Claim7.holds Tryz.pinned (.plain (OpenSpec.ofChange fnExactHeightOfSpec)) fnExactHeightOfCard

/-- THE TIED CARD OF 'laws.FnExactUnitOfHeight'. -/
def fnExactUnitOfHeightCard : Claim7 := { stood := { row := fnExactUnitOfHeightRow, standIns := [], harness := (true, "7b1c177332139c3c436701fba198a296cd64bd548495bf68912b07494758b3f7"), looks := true }, kinds := [], alts := [], laidByText := true, laidKinds := [.handle, .sentinel], laidTests := true, laidLooks := .later }
def FnExactUnitOfHeightCardSaid : Prop := Claim7.holds Tryz.pinned (.plain (OpenSpec.ofChange fnExactUnitOfHeightSpec)) fnExactUnitOfHeightCard

/-- THE TIED CARD OF 'laws.FnExactSeriesOfHeight'. -/
def fnExactSeriesOfHeightCard : Claim7 := { stood := { row := fnExactSeriesOfHeightRow, standIns := [], harness := (true, "7b1c177332139c3c436701fba198a296cd64bd548495bf68912b07494758b3f7"), looks := true }, kinds := [], alts := [], laidByText := true, laidKinds := [.handle, .sentinel], laidTests := true, laidLooks := .later }
def FnExactSeriesOfHeightCardSaid : Prop := Claim7.holds Tryz.pinned (.plain (OpenSpec.ofChange fnExactSeriesOfHeightSpec)) fnExactSeriesOfHeightCard

/-- THE TIED CARD OF 'laws.FnExactAreSameHeight'. -/
def fnExactAreSameHeightCard : Claim7 := { stood := { row := fnExactAreSameHeightRow, standIns := [], harness := (true, "7b1c177332139c3c436701fba198a296cd64bd548495bf68912b07494758b3f7"), looks := true }, kinds := [], alts := [], laidByText := true, laidKinds := [.handle, .sentinel], laidTests := true, laidLooks := .later }
def FnExactAreSameHeightCardSaid : Prop := Claim7.holds Tryz.pinned (.plain (OpenSpec.ofChange fnExactAreSameHeightSpec)) fnExactAreSameHeightCard

/-- THE TIED CARD OF 'laws.FnExactHasseOfLaw'. -/
def fnExactHasseOfLawCard : Claim7 := { stood := { row := fnExactHasseOfLawRow, standIns := [], harness := (true, "7b1c177332139c3c436701fba198a296cd64bd548495bf68912b07494758b3f7"), looks := true }, kinds := [], alts := [], laidByText := true, laidKinds := [.handle], laidTests := true, laidLooks := .later }
def FnExactHasseOfLawCardSaid : Prop := Claim7.holds Tryz.pinned (.plain (OpenSpec.ofChange fnExactHasseOfLawSpec)) fnExactHasseOfLawCard

/-- THE TIED CARD OF 'laws.FnExactOrderOfMultiple'. -/
def fnExactOrderOfMultipleCard : Claim7 := { stood := { row := fnExactOrderOfMultipleRow, standIns := [], harness := (true, "7b1c177332139c3c436701fba198a296cd64bd548495bf68912b07494758b3f7"), looks := true }, kinds := [], alts := [], laidByText := true, laidKinds := [.handle, .sentinel], laidTests := true, laidLooks := .later }
def FnExactOrderOfMultipleCardSaid : Prop := Claim7.holds Tryz.pinned (.plain (OpenSpec.ofChange fnExactOrderOfMultipleSpec)) fnExactOrderOfMultipleCard

/-- THE SECOND FORM's CARD OF 'laws.FnExactHeightOf'. -/
def fnExactHeightOfUptoCard : Claim7 := { stood := { row := fnExactHeightOfUptoRow, standIns := [], harness := (true, "7b1c177332139c3c436701fba198a296cd64bd548495bf68912b07494758b3f7"), looks := true }, kinds := [], alts := [], laidByText := true, laidKinds := [.handle, .sentinel], laidTests := true, laidLooks := .later }
def FnExactHeightOfUptoCardSaid : Prop := Claim7.holds Tryz.pinned (.plain (OpenSpec.upto fnExactHeightOfSpec)) fnExactHeightOfUptoCard

/-- THE SECOND FORM's CARD OF 'laws.FnExactUnitOfHeight'. -/
def fnExactUnitOfHeightUptoCard : Claim7 := { stood := { row := fnExactUnitOfHeightUptoRow, standIns := [], harness := (true, "7b1c177332139c3c436701fba198a296cd64bd548495bf68912b07494758b3f7"), looks := true }, kinds := [], alts := [], laidByText := true, laidKinds := [.handle, .sentinel], laidTests := true, laidLooks := .later }
def FnExactUnitOfHeightUptoCardSaid : Prop := Claim7.holds Tryz.pinned (.plain (OpenSpec.upto fnExactUnitOfHeightSpec)) fnExactUnitOfHeightUptoCard

/-- THE SECOND FORM's CARD OF 'laws.FnExactSeriesOfHeight'. -/
def fnExactSeriesOfHeightUptoCard : Claim7 := { stood := { row := fnExactSeriesOfHeightUptoRow, standIns := [], harness := (true, "7b1c177332139c3c436701fba198a296cd64bd548495bf68912b07494758b3f7"), looks := true }, kinds := [], alts := [], laidByText := true, laidKinds := [.handle, .sentinel], laidTests := true, laidLooks := .later }
def FnExactSeriesOfHeightUptoCardSaid : Prop := Claim7.holds Tryz.pinned (.plain (OpenSpec.upto fnExactSeriesOfHeightSpec)) fnExactSeriesOfHeightUptoCard

/-- THE SECOND FORM's CARD OF 'laws.FnExactAreSameHeight'. -/
def fnExactAreSameHeightUptoCard : Claim7 := { stood := { row := fnExactAreSameHeightUptoRow, standIns := [], harness := (true, "7b1c177332139c3c436701fba198a296cd64bd548495bf68912b07494758b3f7"), looks := true }, kinds := [], alts := [], laidByText := true, laidKinds := [.handle, .sentinel], laidTests := true, laidLooks := .later }
def FnExactAreSameHeightUptoCardSaid : Prop := Claim7.holds Tryz.pinned (.plain (OpenSpec.upto fnExactAreSameHeightSpec)) fnExactAreSameHeightUptoCard

/-- THE SECOND FORM's CARD OF 'laws.FnExactHasseOfLaw'. -/
def fnExactHasseOfLawUptoCard : Claim7 := { stood := { row := fnExactHasseOfLawUptoRow, standIns := [], harness := (true, "7b1c177332139c3c436701fba198a296cd64bd548495bf68912b07494758b3f7"), looks := true }, kinds := [], alts := [], laidByText := true, laidKinds := [.handle], laidTests := true, laidLooks := .later }
def FnExactHasseOfLawUptoCardSaid : Prop := Claim7.holds Tryz.pinned (.plain (OpenSpec.upto fnExactHasseOfLawSpec)) fnExactHasseOfLawUptoCard

/-- THE SECOND FORM's CARD OF 'laws.FnExactOrderOfMultiple'. -/
def fnExactOrderOfMultipleUptoCard : Claim7 := { stood := { row := fnExactOrderOfMultipleUptoRow, standIns := [], harness := (true, "7b1c177332139c3c436701fba198a296cd64bd548495bf68912b07494758b3f7"), looks := true }, kinds := [], alts := [], laidByText := true, laidKinds := [.handle, .sentinel], laidTests := true, laidLooks := .later }
def FnExactOrderOfMultipleUptoCardSaid : Prop := Claim7.holds Tryz.pinned (.plain (OpenSpec.upto fnExactOrderOfMultipleSpec)) fnExactOrderOfMultipleUptoCard
end Rows
end Go.Proofs.YtfhdgcndiljjcaaGreatDoor
