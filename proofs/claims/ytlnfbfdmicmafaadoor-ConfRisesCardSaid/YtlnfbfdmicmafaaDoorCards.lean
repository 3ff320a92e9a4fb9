/-
  DERIVED. GIVEN WITH THE SEED: THE CARDS: each row of YtlnfbfdmicmafaaDoorRows.lean that lists a variable, with what it lists TIED to the program's text (the seventh form; the later family's looks); each row that meets fmt, with fmt's text TOLD by the authors' own Lean function (tested against real Go, not proved from fmt's source: count such statements apart). THE CARD IS WHAT COUNTS. Prove the row's statement (the work); the ties are given (YtlnfbfdmicmafaaDoorTie.lean); close each card by the builder's one call (the guide's Derived/Test/ToyasCard.lean, 'card_holds'). Laid BY PROGRAM, IN A SANDBOX (cutbox-door.mjs). By AI agents, Wed Nov 11 2026. No macro, syntax, notation, axiom, sorry.
-/
import Derived.Test.YtlnfbfdmicmafaaDoorRows
import GoSem.ClaimSeven
namespace Go.Proofs.YtlnfbfdmicmafaaDoor
namespace Rows

/-- THE TIED CARD OF 'catenarylaw09.ConfIs'. -/
def confIsCard : Claim7 := { stood := { row := confIsRow, standIns := [], harness := (true, "ccb36106a79b6d3affd0043eb5b36d222e04916e22afd74c77fe2534938bd3b1"), looks := false }, kinds := [], alts := [], laidByText := true, laidKinds := [.data, .data, .data], laidTests := true, laidLooks := .later }
def ConfIsCardSaid : Prop := Claim7.holds Tryd.pinned (.plain (OpenSpec.ofChange confIsSpec)) confIsCard

/-- THE TIED CARD OF 'catenarylaw09.ConfDoes'. -/
def confDoesCard : Claim7 := { stood := { row := confDoesRow, standIns := [], harness := (true, "ccb36106a79b6d3affd0043eb5b36d222e04916e22afd74c77fe2534938bd3b1"), looks := false }, kinds := [], alts := [], laidByText := true, laidKinds := [.data, .data, .data], laidTests := true, laidLooks := .later }
def ConfDoesCardSaid : Prop := Claim7.holds Tryd.pinned (.plain (OpenSpec.ofChange confDoesSpec)) confDoesCard

/-- THE TIED CARD OF 'catenarylaw09.ConfRises'. -/
def confRisesCard : Claim7 := { stood := { row := confRisesRow, standIns := [], harness := (true, "ccb36106a79b6d3affd0043eb5b36d222e04916e22afd74c77fe2534938bd3b1"), looks := false }, kinds := [], alts := [], laidByText := true, laidKinds := [.data, .data, .data], laidTests := true, laidLooks := .later }
def ConfRisesCardSaid : Prop := Claim7.holds Tryd.pinned (.plain (OpenSpec.ofChange confRisesSpec)) confRisesCard

/-- THE TIED CARD OF 'catenarylaw09.ConfBytes'. -/
def confBytesCard : Claim7 := { stood := { row := confBytesRow, standIns := [], harness := (true, "ccb36106a79b6d3affd0043eb5b36d222e04916e22afd74c77fe2534938bd3b1"), looks := false }, kinds := [], alts := [], laidByText := true, laidKinds := [.data, .data, .data], laidTests := true, laidLooks := .later }
def ConfBytesCardSaid : Prop := Claim7.holds Tryd.pinned (.plain (OpenSpec.ofChange confBytesSpec)) confBytesCard

/-- THE SECOND FORM's CARD OF 'catenarylaw09.ConfIs'. -/
def confIsUptoCard : Claim7 := { stood := { row := confIsUptoRow, standIns := [], harness := (true, "ccb36106a79b6d3affd0043eb5b36d222e04916e22afd74c77fe2534938bd3b1"), looks := false }, kinds := [], alts := [], laidByText := true, laidKinds := [.data, .data, .data], laidTests := true, laidLooks := .later }
def ConfIsUptoCardSaid : Prop := Claim7.holds Tryd.pinned (.plain (OpenSpec.upto confIsSpec)) confIsUptoCard

/-- THE SECOND FORM's CARD OF 'catenarylaw09.ConfDoes'. -/
def confDoesUptoCard : Claim7 := { stood := { row := confDoesUptoRow, standIns := [], harness := (true, "ccb36106a79b6d3affd0043eb5b36d222e04916e22afd74c77fe2534938bd3b1"), looks := false }, kinds := [], alts := [], laidByText := true, laidKinds := [.data, .data, .data], laidTests := true, laidLooks := .later }
def ConfDoesUptoCardSaid : Prop := Claim7.holds Tryd.pinned (.plain (OpenSpec.upto confDoesSpec)) confDoesUptoCard

/-- THE SECOND FORM's CARD OF 'catenarylaw09.ConfRises'. -/
def confRisesUptoCard : Claim7 := { stood := { row := confRisesUptoRow, standIns := [], harness := (true, "ccb36106a79b6d3affd0043eb5b36d222e04916e22afd74c77fe2534938bd3b1"), looks := false }, kinds := [], alts := [], laidByText := true, laidKinds := [.data, .data, .data], laidTests := true, laidLooks := .later }
def ConfRisesUptoCardSaid : Prop := Claim7.holds Tryd.pinned (.plain (OpenSpec.upto confRisesSpec)) confRisesUptoCard

/-- THE SECOND FORM's CARD OF 'catenarylaw09.ConfBytes'. -/
def confBytesUptoCard : Claim7 := { stood := { row := confBytesUptoRow, standIns := [], harness := (true, "ccb36106a79b6d3affd0043eb5b36d222e04916e22afd74c77fe2534938bd3b1"), looks := false }, kinds := [], alts := [], laidByText := true, laidKinds := [.data, .data, .data], laidTests := true, laidLooks := .later }
def ConfBytesUptoCardSaid : Prop := Claim7.holds Tryd.pinned (.plain (OpenSpec.upto confBytesSpec)) confBytesUptoCard
end Rows
end Go.Proofs.YtlnfbfdmicmafaaDoor
