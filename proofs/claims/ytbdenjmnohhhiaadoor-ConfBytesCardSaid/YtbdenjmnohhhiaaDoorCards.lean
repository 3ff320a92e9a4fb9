/-
  DERIVED. GIVEN WITH THE SEED: THE CARDS: each row of YtbdenjmnohhhiaaDoorRows.lean that lists a variable, with what it lists TIED to the program's text (the seventh form; the later family's looks); each row that meets fmt, with fmt's text TOLD by the authors' own Lean function (tested against real Go, not proved from fmt's source: count such statements apart). THE CARD IS WHAT COUNTS. Prove the row's statement (the work); the ties are given (YtbdenjmnohhhiaaDoorTie.lean); close each card by the builder's one call (the guide's Derived/Test/ToyasCard.lean, 'card_holds'). Laid BY PROGRAM, IN A SANDBOX (cutbox-door.mjs). By AI agents, Wed Nov 11 2026. No macro, syntax, notation, axiom, sorry.
-/
import Derived.Test.YtbdenjmnohhhiaaDoorRows
import GoSem.ClaimSeven
namespace Go.Proofs.YtbdenjmnohhhiaaDoor
namespace Rows

/-- THE TIED CARD OF 'catenarylaw09.ConfBytes'. -/
def confBytesCard : Claim7 := { stood := { row := confBytesRow, standIns := [], harness := (true, "ba733126082bee47e6b0569b5c2ba8e32c1fb4113b734ca247385375fe6495d5"), looks := false }, kinds := [], alts := [], laidByText := true, laidKinds := [.data, .data, .data], laidTests := true, laidLooks := .later }
def ConfBytesCardSaid : Prop := Claim7.holds Tryd.pinned (.plain (OpenSpec.ofChange confBytesSpec)) confBytesCard

/-- THE SECOND FORM's CARD OF 'catenarylaw09.ConfBytes'. -/
def confBytesUptoCard : Claim7 := { stood := { row := confBytesUptoRow, standIns := [], harness := (true, "ba733126082bee47e6b0569b5c2ba8e32c1fb4113b734ca247385375fe6495d5"), looks := false }, kinds := [], alts := [], laidByText := true, laidKinds := [.data, .data, .data], laidTests := true, laidLooks := .later }
def ConfBytesUptoCardSaid : Prop := Claim7.holds Tryd.pinned (.plain (OpenSpec.upto confBytesSpec)) confBytesUptoCard
end Rows
end Go.Proofs.YtbdenjmnohhhiaaDoor
