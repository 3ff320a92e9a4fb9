/-
  DERIVED. GIVEN WITH THE SEED: THE CARDS: each row of YtclfecninhipnaaGreatDoorRows.lean that lists a variable, with what it lists TIED to the program's text (the seventh form; the later family's looks); each row that meets fmt, with fmt's text TOLD by the authors' own Lean function (tested against real Go, not proved from fmt's source: count such statements apart). THE CARD IS WHAT COUNTS. Prove the row's statement (the work); the ties are given (YtclfecninhipnaaGreatDoorTie.lean); close each card by the builder's one call (the guide's Derived/Test/ToyasCard.lean, 'card_holds'). Laid BY PROGRAM, IN A SANDBOX (cutbox-door.mjs). By AI agents, Wed Nov 11 2026. No macro, syntax, notation, axiom, sorry.
-/
import Derived.Test.YtclfecninhipnaaGreatDoorRows
import GoSem.ClaimSeven
namespace Go.Proofs.YtclfecninhipnaaGreatDoor
namespace Rows

/-- THE TIED CARD OF 'catenarylaw26.CallerOnce'. -/
def callerOnceCard : Claim7 := { stood := { row := callerOnceRow, standIns := [], harness := (true, "0f3ba5b6aaa8760f2f7f21d4573422b4b6f438a98802c30579e30db3bdefaf92"), looks := false }, kinds := [], alts := [], laidByText := true, laidKinds := [.data], laidTests := true, laidLooks := .later }
def CallerOnceCardSaid : Prop := Claim7.holds Tryz.pinned (.plain (OpenSpec.ofChange callerOnceSpec)) callerOnceCard

/-- THE SECOND FORM's CARD OF 'catenarylaw26.CallerOnce'. -/
def callerOnceUptoCard : Claim7 := { stood := { row := callerOnceUptoRow, standIns := [], harness := (true, "0f3ba5b6aaa8760f2f7f21d4573422b4b6f438a98802c30579e30db3bdefaf92"), looks := false }, kinds := [], alts := [], laidByText := true, laidKinds := [.data], laidTests := true, laidLooks := .later }
def CallerOnceUptoCardSaid : Prop := Claim7.holds Tryz.pinned (.plain (OpenSpec.upto callerOnceSpec)) callerOnceUptoCard
end Rows
end Go.Proofs.YtclfecninhipnaaGreatDoor
