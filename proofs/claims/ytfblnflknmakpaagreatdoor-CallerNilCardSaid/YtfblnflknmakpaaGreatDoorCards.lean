/-
  DERIVED. GIVEN WITH THE SEED: THE CARDS: each row of YtfblnflknmakpaaGreatDoorRows.lean that lists a variable, with what it lists TIED to the program's text (the seventh form; the later family's looks); each row that meets fmt, with fmt's text TOLD by the authors' own Lean function (tested against real Go, not proved from fmt's source: count such statements apart). THE CARD IS WHAT COUNTS. Prove the row's statement (the work); the ties are given (YtfblnflknmakpaaGreatDoorTie.lean); close each card by the builder's one call (the guide's Derived/Test/ToyasCard.lean, 'card_holds'). Laid BY PROGRAM, IN A SANDBOX (cutbox-door.mjs). By AI agents, Wed Nov 11 2026. No macro, syntax, notation, axiom, sorry.
-/
import Derived.Test.YtfblnflknmakpaaGreatDoorRows
import GoSem.ClaimSeven
namespace Go.Proofs.YtfblnflknmakpaaGreatDoor
namespace Rows

/-- THE TIED CARD OF 'catenarylaw26.CallerOnce'. -/
def callerOnceCard : Claim7 := { stood := { row := callerOnceRow, standIns := [], harness := (true, "bd96e2230024403cc03374ddc652f83fa402ca70ce75004044abfe40f05dea18"), looks := false }, kinds := [], alts := [], laidByText := true, laidKinds := [.data], laidTests := true, laidLooks := .later }
def CallerOnceCardSaid : Prop := Claim7.holds Tryz.pinned (.plain (OpenSpec.ofChange callerOnceSpec)) callerOnceCard

/-- THE TIED CARD OF 'catenarylaw26.CallerNil'. -/
def callerNilCard : Claim7 := { stood := { row := callerNilRow, standIns := [], harness := (true, "bd96e2230024403cc03374ddc652f83fa402ca70ce75004044abfe40f05dea18"), looks := false }, kinds := [], alts := [], laidByText := true, laidKinds := [.data], laidTests := true, laidLooks := .later }
def CallerNilCardSaid : Prop := Claim7.holds Tryz.pinned (.plain (OpenSpec.ofChange callerNilSpec)) callerNilCard

/-- THE SECOND FORM's CARD OF 'catenarylaw26.CallerOnce'. -/
def callerOnceUptoCard : Claim7 := { stood := { row := callerOnceUptoRow, standIns := [], harness := (true, "bd96e2230024403cc03374ddc652f83fa402ca70ce75004044abfe40f05dea18"), looks := false }, kinds := [], alts := [], laidByText := true, laidKinds := [.data], laidTests := true, laidLooks := .later }
def CallerOnceUptoCardSaid : Prop := Claim7.holds Tryz.pinned (.plain (OpenSpec.upto callerOnceSpec)) callerOnceUptoCard

/-- THE SECOND FORM's CARD OF 'catenarylaw26.CallerNil'. -/
def callerNilUptoCard : Claim7 := { stood := { row := callerNilUptoRow, standIns := [], harness := (true, "bd96e2230024403cc03374ddc652f83fa402ca70ce75004044abfe40f05dea18"), looks := false }, kinds := [], alts := [], laidByText := true, laidKinds := [.data], laidTests := true, laidLooks := .later }
def CallerNilUptoCardSaid : Prop := Claim7.holds Tryz.pinned (.plain (OpenSpec.upto callerNilSpec)) callerNilUptoCard
end Rows
end Go.Proofs.YtfblnflknmakpaaGreatDoor
