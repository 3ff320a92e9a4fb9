/-
  DERIVED. GIVEN WITH THE SEED: THE CARDS: each row of YtokafgleejcbgaaDoorRows.lean that lists a variable, with what it lists TIED to the program's text (the seventh form; the later family's looks); each row that meets fmt, with fmt's text TOLD by the authors' own Lean function (tested against real Go, not proved from fmt's source: count such statements apart). THE CARD IS WHAT COUNTS. Prove the row's statement (the work); the ties are given (YtokafgleejcbgaaDoorTie.lean); close each card by the builder's one call (the guide's Derived/Test/ToyasCard.lean, 'card_holds'). Laid BY PROGRAM, IN A SANDBOX (cutbox-door.mjs). By AI agents, Wed Nov 11 2026. No macro, syntax, notation, axiom, sorry.
-/
import Derived.Test.YtokafgleejcbgaaDoorRows
import GoSem.ClaimSeven
namespace Go.Proofs.YtokafgleejcbgaaDoor
namespace Rows

/-- THE TIED CARD OF 'catenarylaw29.DirsTurns'. -/
def dirsTurnsCard : Claim7 := { stood := { row := dirsTurnsRow, standIns := [], harness := (true, "bd499ef12d2d39cdc2bff032243a36e8c1b70dd08da6445325a0ffdc3216740d"), looks := false }, kinds := [], alts := [], laidByText := true, laidKinds := [.data, .pinned], laidTests := true, laidLooks := .later }
def DirsTurnsCardSaid : Prop := Claim7.holds Tryd.pinned (.plain (OpenSpec.ofChange dirsTurnsSpec)) dirsTurnsCard

/-- THE SECOND FORM's CARD OF 'catenarylaw29.DirsTurns'. -/
def dirsTurnsUptoCard : Claim7 := { stood := { row := dirsTurnsUptoRow, standIns := [], harness := (true, "bd499ef12d2d39cdc2bff032243a36e8c1b70dd08da6445325a0ffdc3216740d"), looks := false }, kinds := [], alts := [], laidByText := true, laidKinds := [.data, .pinned], laidTests := true, laidLooks := .later }
def DirsTurnsUptoCardSaid : Prop := Claim7.holds Tryd.pinned (.plain (OpenSpec.upto dirsTurnsSpec)) dirsTurnsUptoCard
end Rows
end Go.Proofs.YtokafgleejcbgaaDoor
