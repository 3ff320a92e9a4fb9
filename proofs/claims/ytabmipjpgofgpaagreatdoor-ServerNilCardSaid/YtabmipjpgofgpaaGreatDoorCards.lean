/-
  DERIVED. GIVEN WITH THE SEED: THE CARDS: each row of YtabmipjpgofgpaaGreatDoorRows.lean that lists a variable, with what it lists TIED to the program's text (the seventh form; the later family's looks); each row that meets fmt, with fmt's text TOLD by the authors' own Lean function (tested against real Go, not proved from fmt's source: count such statements apart). THE CARD IS WHAT COUNTS. Prove the row's statement (the work); the ties are given (YtabmipjpgofgpaaGreatDoorTie.lean); close each card by the builder's one call (the guide's Derived/Test/ToyasCard.lean, 'card_holds'). Laid BY PROGRAM, IN A SANDBOX (cutbox-door.mjs). By AI agents, Wed Nov 11 2026. No macro, syntax, notation, axiom, sorry.
-/
import Derived.Test.YtabmipjpgofgpaaGreatDoorRows
import GoSem.ClaimSeven
namespace Go.Proofs.YtabmipjpgofgpaaGreatDoor
namespace Rows

/-- THE TIED CARD OF 'catenarylaw22.CraqAnswers'. -/
def craqAnswersCard : Claim7 := { stood := { row := craqAnswersRow, standIns := [], harness := (true, "11b499bf6f5dd5efe4823ddca0d71aff0b9d5c2504b7a2ca719f599477b43d4f"), looks := false }, kinds := [], alts := [], laidByText := true, laidKinds := [.data], laidTests := true, laidLooks := .later }
def CraqAnswersCardSaid : Prop := Claim7.holds Tryz.pinned (.plain (OpenSpec.ofChange craqAnswersSpec)) craqAnswersCard

/-- THE TIED CARD OF 'catenarylaw23.ReplicaNil'. -/
def replicaNilCard : Claim7 := { stood := { row := replicaNilRow, standIns := [], harness := (true, "11b499bf6f5dd5efe4823ddca0d71aff0b9d5c2504b7a2ca719f599477b43d4f"), looks := false }, kinds := [], alts := [], laidByText := true, laidKinds := [.data], laidTests := true, laidLooks := .later }
def ReplicaNilCardSaid : Prop := Claim7.holds Tryz.pinned (.plain (OpenSpec.ofChange replicaNilSpec)) replicaNilCard

/-- THE TIED CARD OF 'catenarylaw24.ServerFences'. -/
def serverFencesCard : Claim7 := { stood := { row := serverFencesRow, standIns := [], harness := (true, "11b499bf6f5dd5efe4823ddca0d71aff0b9d5c2504b7a2ca719f599477b43d4f"), looks := false }, kinds := [], alts := [], laidByText := true, laidKinds := [.data], laidTests := true, laidLooks := .later }
def ServerFencesCardSaid : Prop := Claim7.holds Tryz.pinned (.plain (OpenSpec.ofChange serverFencesSpec)) serverFencesCard

/-- THE TIED CARD OF 'catenarylaw24.ServerNil'. -/
def serverNilCard : Claim7 := { stood := { row := serverNilRow, standIns := [], harness := (true, "11b499bf6f5dd5efe4823ddca0d71aff0b9d5c2504b7a2ca719f599477b43d4f"), looks := false }, kinds := [], alts := [], laidByText := true, laidKinds := [.data], laidTests := true, laidLooks := .later }
def ServerNilCardSaid : Prop := Claim7.holds Tryz.pinned (.plain (OpenSpec.ofChange serverNilSpec)) serverNilCard

/-- THE SECOND FORM's CARD OF 'catenarylaw22.CraqAnswers'. -/
def craqAnswersUptoCard : Claim7 := { stood := { row := craqAnswersUptoRow, standIns := [], harness := (true, "11b499bf6f5dd5efe4823ddca0d71aff0b9d5c2504b7a2ca719f599477b43d4f"), looks := false }, kinds := [], alts := [], laidByText := true, laidKinds := [.data], laidTests := true, laidLooks := .later }
def CraqAnswersUptoCardSaid : Prop := Claim7.holds Tryz.pinned (.plain (OpenSpec.upto craqAnswersSpec)) craqAnswersUptoCard

/-- THE SECOND FORM's CARD OF 'catenarylaw23.ReplicaNil'. -/
def replicaNilUptoCard : Claim7 := { stood := { row := replicaNilUptoRow, standIns := [], harness := (true, "11b499bf6f5dd5efe4823ddca0d71aff0b9d5c2504b7a2ca719f599477b43d4f"), looks := false }, kinds := [], alts := [], laidByText := true, laidKinds := [.data], laidTests := true, laidLooks := .later }
def ReplicaNilUptoCardSaid : Prop := Claim7.holds Tryz.pinned (.plain (OpenSpec.upto replicaNilSpec)) replicaNilUptoCard

/-- THE SECOND FORM's CARD OF 'catenarylaw24.ServerFences'. -/
def serverFencesUptoCard : Claim7 := { stood := { row := serverFencesUptoRow, standIns := [], harness := (true, "11b499bf6f5dd5efe4823ddca0d71aff0b9d5c2504b7a2ca719f599477b43d4f"), looks := false }, kinds := [], alts := [], laidByText := true, laidKinds := [.data], laidTests := true, laidLooks := .later }
def ServerFencesUptoCardSaid : Prop := Claim7.holds Tryz.pinned (.plain (OpenSpec.upto serverFencesSpec)) serverFencesUptoCard

/-- THE SECOND FORM's CARD OF 'catenarylaw24.ServerNil'. -/
def serverNilUptoCard : Claim7 := { stood := { row := serverNilUptoRow, standIns := [], harness := (true, "11b499bf6f5dd5efe4823ddca0d71aff0b9d5c2504b7a2ca719f599477b43d4f"), looks := false }, kinds := [], alts := [], laidByText := true, laidKinds := [.data], laidTests := true, laidLooks := .later }
def ServerNilUptoCardSaid : Prop := Claim7.holds Tryz.pinned (.plain (OpenSpec.upto serverNilSpec)) serverNilUptoCard
end Rows
end Go.Proofs.YtabmipjpgofgpaaGreatDoor
