/-
  DERIVED. GIVEN WITH THE SEED: THE CARDS: each row of YtlpgldejmdiceabDoorRows.lean that lists a variable, with what it lists TIED to the program's text (the seventh form; the later family's looks); each row that meets fmt, with fmt's text TOLD by the authors' own Lean function (tested against real Go, not proved from fmt's source: count such statements apart). THE CARD IS WHAT COUNTS. Prove the row's statement (the work); the ties are given (YtlpgldejmdiceabDoorTie.lean); close each card by the builder's one call (the guide's Derived/Test/ToyasCard.lean, 'card_holds'). Laid BY PROGRAM, IN A SANDBOX (cutbox-door.mjs). By AI agents, Wed Nov 11 2026. No macro, syntax, notation, axiom, sorry.
-/
import Derived.Test.YtlpgldejmdiceabDoorRows
import GoSem.ClaimSeven
namespace Go.Proofs.YtlpgldejmdiceabDoor
namespace Rows

/-- THE TIED CARD OF 'laws.FnExactIsFormula'. -/
def fnExactIsFormulaCard : Claim7 := { stood := { row := fnExactIsFormulaRow, standIns := [], harness := (true, "506e6ebe59e17dbd04152f5aca2be4c5e50d1a9c1e45d16913806b6aa5424006"), looks := false }, kinds := [], alts := [], laidByText := true, laidKinds := [.data, .data, .data], laidTests := true, laidLooks := .later }
def FnExactIsFormulaCardSaid : Prop := Claim7.holds Tryd.pinned (.plain (OpenSpec.ofChange fnExactIsFormulaSpec)) fnExactIsFormulaCard

/-- THE TIED CARD OF 'laws.FnExactIsBisimulation'. -/
def fnExactIsBisimulationCard : Claim7 := { stood := { row := fnExactIsBisimulationRow, standIns := [], harness := (true, "506e6ebe59e17dbd04152f5aca2be4c5e50d1a9c1e45d16913806b6aa5424006"), looks := false }, kinds := [], alts := [], laidByText := true, laidKinds := [.data], laidTests := true, laidLooks := .later }
def FnExactIsBisimulationCardSaid : Prop := Claim7.holds Tryd.pinned (.plain (OpenSpec.ofChange fnExactIsBisimulationSpec)) fnExactIsBisimulationCard

/-- THE TIED CARD OF 'laws.FnExactIsSimulated'. -/
def fnExactIsSimulatedCard : Claim7 := { stood := { row := fnExactIsSimulatedRow, standIns := [], harness := (true, "506e6ebe59e17dbd04152f5aca2be4c5e50d1a9c1e45d16913806b6aa5424006"), looks := false }, kinds := [], alts := [], laidByText := true, laidKinds := [.data], laidTests := true, laidLooks := .later }
def FnExactIsSimulatedCardSaid : Prop := Claim7.holds Tryd.pinned (.plain (OpenSpec.ofChange fnExactIsSimulatedSpec)) fnExactIsSimulatedCard

/-- THE TIED CARD OF 'laws.FnExactBisimilarOf'. -/
def fnExactBisimilarOfCard : Claim7 := { stood := { row := fnExactBisimilarOfRow, standIns := [], harness := (true, "506e6ebe59e17dbd04152f5aca2be4c5e50d1a9c1e45d16913806b6aa5424006"), looks := false }, kinds := [], alts := [], laidByText := true, laidKinds := [.data], laidTests := true, laidLooks := .later }
def FnExactBisimilarOfCardSaid : Prop := Claim7.holds Tryd.pinned (.plain (OpenSpec.ofChange fnExactBisimilarOfSpec)) fnExactBisimilarOfCard

/-- THE TIED CARD OF 'laws.FnExactWeaklyBisimilarOf'. -/
def fnExactWeaklyBisimilarOfCard : Claim7 := { stood := { row := fnExactWeaklyBisimilarOfRow, standIns := [], harness := (true, "506e6ebe59e17dbd04152f5aca2be4c5e50d1a9c1e45d16913806b6aa5424006"), looks := false }, kinds := [], alts := [], laidByText := true, laidKinds := [.data], laidTests := true, laidLooks := .later }
def FnExactWeaklyBisimilarOfCardSaid : Prop := Claim7.holds Tryd.pinned (.plain (OpenSpec.ofChange fnExactWeaklyBisimilarOfSpec)) fnExactWeaklyBisimilarOfCard

/-- THE TIED CARD OF 'laws.FnExactSaturateLabels'. -/
def fnExactSaturateLabelsCard : Claim7 := { stood := { row := fnExactSaturateLabelsRow, standIns := [], harness := (true, "506e6ebe59e17dbd04152f5aca2be4c5e50d1a9c1e45d16913806b6aa5424006"), looks := false }, kinds := [], alts := [], laidByText := true, laidKinds := [.data], laidTests := true, laidLooks := .later }
def FnExactSaturateLabelsCardSaid : Prop := Claim7.holds Tryd.pinned (.plain (OpenSpec.ofChange fnExactSaturateLabelsSpec)) fnExactSaturateLabelsCard

/-- THE TIED CARD OF 'laws.FnExactUnionOf'. -/
def fnExactUnionOfCard : Claim7 := { stood := { row := fnExactUnionOfRow, standIns := [], harness := (true, "506e6ebe59e17dbd04152f5aca2be4c5e50d1a9c1e45d16913806b6aa5424006"), looks := false }, kinds := [], alts := [], laidByText := true, laidKinds := [.data], laidTests := true, laidLooks := .later }
def FnExactUnionOfCardSaid : Prop := Claim7.holds Tryd.pinned (.plain (OpenSpec.ofChange fnExactUnionOfSpec)) fnExactUnionOfCard

/-- THE TIED CARD OF 'laws.FnExactQuotientOf'. -/
def fnExactQuotientOfCard : Claim7 := { stood := { row := fnExactQuotientOfRow, standIns := [], harness := (true, "506e6ebe59e17dbd04152f5aca2be4c5e50d1a9c1e45d16913806b6aa5424006"), looks := false }, kinds := [], alts := [], laidByText := true, laidKinds := [.data], laidTests := true, laidLooks := .later }
def FnExactQuotientOfCardSaid : Prop := Claim7.holds Tryd.pinned (.plain (OpenSpec.ofChange fnExactQuotientOfSpec)) fnExactQuotientOfCard

/-- THE TIED CARD OF 'laws.FnExactSatisfying'. -/
def fnExactSatisfyingCard : Claim7 := { stood := { row := fnExactSatisfyingRow, standIns := [], harness := (true, "506e6ebe59e17dbd04152f5aca2be4c5e50d1a9c1e45d16913806b6aa5424006"), looks := false }, kinds := [], alts := [], laidByText := true, laidKinds := [.data, .data, .data], laidTests := true, laidLooks := .later }
def FnExactSatisfyingCardSaid : Prop := Claim7.holds Tryd.pinned (.plain (OpenSpec.ofChange fnExactSatisfyingSpec)) fnExactSatisfyingCard

/-- THE SECOND FORM's CARD OF 'laws.FnExactIsFormula'. -/
def fnExactIsFormulaUptoCard : Claim7 := { stood := { row := fnExactIsFormulaUptoRow, standIns := [], harness := (true, "506e6ebe59e17dbd04152f5aca2be4c5e50d1a9c1e45d16913806b6aa5424006"), looks := false }, kinds := [], alts := [], laidByText := true, laidKinds := [.data, .data, .data], laidTests := true, laidLooks := .later }
def FnExactIsFormulaUptoCardSaid : Prop := Claim7.holds Tryd.pinned (.plain (OpenSpec.upto fnExactIsFormulaSpec)) fnExactIsFormulaUptoCard

/-- THE SECOND FORM's CARD OF 'laws.FnExactIsBisimulation'. -/
def fnExactIsBisimulationUptoCard : Claim7 := { stood := { row := fnExactIsBisimulationUptoRow, standIns := [], harness := (true, "506e6ebe59e17dbd04152f5aca2be4c5e50d1a9c1e45d16913806b6aa5424006"), looks := false }, kinds := [], alts := [], laidByText := true, laidKinds := [.data], laidTests := true, laidLooks := .later }
def FnExactIsBisimulationUptoCardSaid : Prop := Claim7.holds Tryd.pinned (.plain (OpenSpec.upto fnExactIsBisimulationSpec)) fnExactIsBisimulationUptoCard

/-- THE SECOND FORM's CARD OF 'laws.FnExactIsSimulated'. -/
def fnExactIsSimulatedUptoCard : Claim7 := { stood := { row := fnExactIsSimulatedUptoRow, standIns := [], harness := (true, "506e6ebe59e17dbd04152f5aca2be4c5e50d1a9c1e45d16913806b6aa5424006"), looks := false }, kinds := [], alts := [], laidByText := true, laidKinds := [.data], laidTests := true, laidLooks := .later }
def FnExactIsSimulatedUptoCardSaid : Prop := Claim7.holds Tryd.pinned (.plain (OpenSpec.upto fnExactIsSimulatedSpec)) fnExactIsSimulatedUptoCard

/-- THE SECOND FORM's CARD OF 'laws.FnExactBisimilarOf'. -/
def fnExactBisimilarOfUptoCard : Claim7 := { stood := { row := fnExactBisimilarOfUptoRow, standIns := [], harness := (true, "506e6ebe59e17dbd04152f5aca2be4c5e50d1a9c1e45d16913806b6aa5424006"), looks := false }, kinds := [], alts := [], laidByText := true, laidKinds := [.data], laidTests := true, laidLooks := .later }
def FnExactBisimilarOfUptoCardSaid : Prop := Claim7.holds Tryd.pinned (.plain (OpenSpec.upto fnExactBisimilarOfSpec)) fnExactBisimilarOfUptoCard

/-- THE SECOND FORM's CARD OF 'laws.FnExactWeaklyBisimilarOf'. -/
def fnExactWeaklyBisimilarOfUptoCard : Claim7 := { stood := { row := fnExactWeaklyBisimilarOfUptoRow, standIns := [], harness := (true, "506e6ebe59e17dbd04152f5aca2be4c5e50d1a9c1e45d16913806b6aa5424006"), looks := false }, kinds := [], alts := [], laidByText := true, laidKinds := [.data], laidTests := true, laidLooks := .later }
def FnExactWeaklyBisimilarOfUptoCardSaid : Prop := Claim7.holds Tryd.pinned (.plain (OpenSpec.upto fnExactWeaklyBisimilarOfSpec)) fnExactWeaklyBisimilarOfUptoCard

/-- THE SECOND FORM's CARD OF 'laws.FnExactSaturateLabels'. -/
def fnExactSaturateLabelsUptoCard : Claim7 := { stood := { row := fnExactSaturateLabelsUptoRow, standIns := [], harness := (true, "506e6ebe59e17dbd04152f5aca2be4c5e50d1a9c1e45d16913806b6aa5424006"), looks := false }, kinds := [], alts := [], laidByText := true, laidKinds := [.data], laidTests := true, laidLooks := .later }
def FnExactSaturateLabelsUptoCardSaid : Prop := Claim7.holds Tryd.pinned (.plain (OpenSpec.upto fnExactSaturateLabelsSpec)) fnExactSaturateLabelsUptoCard

/-- THE SECOND FORM's CARD OF 'laws.FnExactUnionOf'. -/
def fnExactUnionOfUptoCard : Claim7 := { stood := { row := fnExactUnionOfUptoRow, standIns := [], harness := (true, "506e6ebe59e17dbd04152f5aca2be4c5e50d1a9c1e45d16913806b6aa5424006"), looks := false }, kinds := [], alts := [], laidByText := true, laidKinds := [.data], laidTests := true, laidLooks := .later }
def FnExactUnionOfUptoCardSaid : Prop := Claim7.holds Tryd.pinned (.plain (OpenSpec.upto fnExactUnionOfSpec)) fnExactUnionOfUptoCard

/-- THE SECOND FORM's CARD OF 'laws.FnExactQuotientOf'. -/
def fnExactQuotientOfUptoCard : Claim7 := { stood := { row := fnExactQuotientOfUptoRow, standIns := [], harness := (true, "506e6ebe59e17dbd04152f5aca2be4c5e50d1a9c1e45d16913806b6aa5424006"), looks := false }, kinds := [], alts := [], laidByText := true, laidKinds := [.data], laidTests := true, laidLooks := .later }
def FnExactQuotientOfUptoCardSaid : Prop := Claim7.holds Tryd.pinned (.plain (OpenSpec.upto fnExactQuotientOfSpec)) fnExactQuotientOfUptoCard

/-- THE SECOND FORM's CARD OF 'laws.FnExactSatisfying'. -/
def fnExactSatisfyingUptoCard : Claim7 := { stood := { row := fnExactSatisfyingUptoRow, standIns := [], harness := (true, "506e6ebe59e17dbd04152f5aca2be4c5e50d1a9c1e45d16913806b6aa5424006"), looks := false }, kinds := [], alts := [], laidByText := true, laidKinds := [.data, .data, .data], laidTests := true, laidLooks := .later }
def FnExactSatisfyingUptoCardSaid : Prop := Claim7.holds Tryd.pinned (.plain (OpenSpec.upto fnExactSatisfyingSpec)) fnExactSatisfyingUptoCard
end Rows
end Go.Proofs.YtlpgldejmdiceabDoor
