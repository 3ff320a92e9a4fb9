/-
  DERIVED. GIVEN WITH THE SEED: THE CARDS: each row of YtcbenminaakahaaGreatDoorRows.lean that lists a variable, with what it lists TIED to the program's text (the seventh form; the later family's looks); each row that meets fmt, with fmt's text TOLD by the authors' own Lean function (tested against real Go, not proved from fmt's source: count such statements apart). THE CARD IS WHAT COUNTS. Prove the row's statement (the work); the ties are given (YtcbenminaakahaaGreatDoorTie.lean); close each card by the builder's one call (the guide's Derived/Test/ToyasCard.lean, 'card_holds'). Laid BY PROGRAM, IN A SANDBOX (cutbox-door.mjs). By AI agents, Wed Nov 11 2026. No macro, syntax, notation, axiom, sorry.
-/
import Derived.Test.YtcbenminaakahaaGreatDoorRows
import GoSem.ClaimSeven
namespace Go.Proofs.YtcbenminaakahaaGreatDoor
namespace Rows

/-- THE TIED CARD OF 'catenarylaw10.LetterChecks'. -/
def letterChecksCard : Claim7 := { stood := { row := letterChecksRow, standIns := [], harness := (true, "1a6627afcb422a0333283f903f50399ff3d52019203976e8e1e0ebf7839643e9"), looks := false }, kinds := [], alts := [], laidByText := true, laidKinds := [.data, .data], laidTests := true, laidLooks := .later }
def LetterChecksCardSaid : Prop := Claim7.holds Tryz.pinned (.plain (OpenSpec.ofChange letterChecksSpec)) letterChecksCard

/-- THE TIED CARD OF 'catenarylaw18.StorePlays'. -/
def storePlaysCard : Claim7 := { stood := { row := storePlaysRow, standIns := [], harness := (true, "1a6627afcb422a0333283f903f50399ff3d52019203976e8e1e0ebf7839643e9"), looks := false }, kinds := [], alts := [], laidByText := true, laidKinds := [.data], laidTests := true, laidLooks := .later }
def StorePlaysCardSaid : Prop := Claim7.holds Tryz.pinned (.plain (OpenSpec.ofChange storePlaysSpec)) storePlaysCard

/-- THE TIED CARD OF 'catenarylaw18.StoreLoads'. -/
def storeLoadsCard : Claim7 := { stood := { row := storeLoadsRow, standIns := [], harness := (true, "1a6627afcb422a0333283f903f50399ff3d52019203976e8e1e0ebf7839643e9"), looks := false }, kinds := [], alts := [], laidByText := true, laidKinds := [.data], laidTests := true, laidLooks := .later }
def StoreLoadsCardSaid : Prop := Claim7.holds Tryz.pinned (.plain (OpenSpec.ofChange storeLoadsSpec)) storeLoadsCard

/-- THE TIED CARD OF 'catenarylaw18.StoreGoesOn'. -/
def storeGoesOnCard : Claim7 := { stood := { row := storeGoesOnRow, standIns := [], harness := (true, "1a6627afcb422a0333283f903f50399ff3d52019203976e8e1e0ebf7839643e9"), looks := false }, kinds := [], alts := [], laidByText := true, laidKinds := [.data], laidTests := true, laidLooks := .later }
def StoreGoesOnCardSaid : Prop := Claim7.holds Tryz.pinned (.plain (OpenSpec.ofChange storeGoesOnSpec)) storeGoesOnCard

/-- THE TIED CARD OF 'catenarylaw18.StoreRoom'. -/
def storeRoomCard : Claim7 := { stood := { row := storeRoomRow, standIns := [], harness := (true, "1a6627afcb422a0333283f903f50399ff3d52019203976e8e1e0ebf7839643e9"), looks := false }, kinds := [], alts := [], laidByText := true, laidKinds := [.data], laidTests := true, laidLooks := .later }
def StoreRoomCardSaid : Prop := Claim7.holds Tryz.pinned (.plain (OpenSpec.ofChange storeRoomSpec)) storeRoomCard

/-- THE TIED CARD OF 'catenarylaw18.StoreNil'. -/
def storeNilCard : Claim7 := { stood := { row := storeNilRow, standIns := [], harness := (true, "1a6627afcb422a0333283f903f50399ff3d52019203976e8e1e0ebf7839643e9"), looks := false }, kinds := [], alts := [], laidByText := true, laidKinds := [.data], laidTests := true, laidLooks := .later }
def StoreNilCardSaid : Prop := Claim7.holds Tryz.pinned (.plain (OpenSpec.ofChange storeNilSpec)) storeNilCard

/-- THE TIED CARD OF 'catenarylaw19.RoleFences'. -/
def roleFencesCard : Claim7 := { stood := { row := roleFencesRow, standIns := [], harness := (true, "1a6627afcb422a0333283f903f50399ff3d52019203976e8e1e0ebf7839643e9"), looks := false }, kinds := [], alts := [], laidByText := true, laidKinds := [.data], laidTests := true, laidLooks := .later }
def RoleFencesCardSaid : Prop := Claim7.holds Tryz.pinned (.plain (OpenSpec.ofChange roleFencesSpec)) roleFencesCard

/-- THE TIED CARD OF 'catenarylaw19.RoleEpochs'. -/
def roleEpochsCard : Claim7 := { stood := { row := roleEpochsRow, standIns := [], harness := (true, "1a6627afcb422a0333283f903f50399ff3d52019203976e8e1e0ebf7839643e9"), looks := false }, kinds := [], alts := [], laidByText := true, laidKinds := [.data], laidTests := true, laidLooks := .later }
def RoleEpochsCardSaid : Prop := Claim7.holds Tryz.pinned (.plain (OpenSpec.ofChange roleEpochsSpec)) roleEpochsCard

/-- THE SECOND FORM's CARD OF 'catenarylaw10.LetterChecks'. -/
def letterChecksUptoCard : Claim7 := { stood := { row := letterChecksUptoRow, standIns := [], harness := (true, "1a6627afcb422a0333283f903f50399ff3d52019203976e8e1e0ebf7839643e9"), looks := false }, kinds := [], alts := [], laidByText := true, laidKinds := [.data, .data], laidTests := true, laidLooks := .later }
def LetterChecksUptoCardSaid : Prop := Claim7.holds Tryz.pinned (.plain (OpenSpec.upto letterChecksSpec)) letterChecksUptoCard

/-- THE SECOND FORM's CARD OF 'catenarylaw18.StorePlays'. -/
def storePlaysUptoCard : Claim7 := { stood := { row := storePlaysUptoRow, standIns := [], harness := (true, "1a6627afcb422a0333283f903f50399ff3d52019203976e8e1e0ebf7839643e9"), looks := false }, kinds := [], alts := [], laidByText := true, laidKinds := [.data], laidTests := true, laidLooks := .later }
def StorePlaysUptoCardSaid : Prop := Claim7.holds Tryz.pinned (.plain (OpenSpec.upto storePlaysSpec)) storePlaysUptoCard

/-- THE SECOND FORM's CARD OF 'catenarylaw18.StoreLoads'. -/
def storeLoadsUptoCard : Claim7 := { stood := { row := storeLoadsUptoRow, standIns := [], harness := (true, "1a6627afcb422a0333283f903f50399ff3d52019203976e8e1e0ebf7839643e9"), looks := false }, kinds := [], alts := [], laidByText := true, laidKinds := [.data], laidTests := true, laidLooks := .later }
def StoreLoadsUptoCardSaid : Prop := Claim7.holds Tryz.pinned (.plain (OpenSpec.upto storeLoadsSpec)) storeLoadsUptoCard

/-- THE SECOND FORM's CARD OF 'catenarylaw18.StoreGoesOn'. -/
def storeGoesOnUptoCard : Claim7 := { stood := { row := storeGoesOnUptoRow, standIns := [], harness := (true, "1a6627afcb422a0333283f903f50399ff3d52019203976e8e1e0ebf7839643e9"), looks := false }, kinds := [], alts := [], laidByText := true, laidKinds := [.data], laidTests := true, laidLooks := .later }
def StoreGoesOnUptoCardSaid : Prop := Claim7.holds Tryz.pinned (.plain (OpenSpec.upto storeGoesOnSpec)) storeGoesOnUptoCard

/-- THE SECOND FORM's CARD OF 'catenarylaw18.StoreRoom'. -/
def storeRoomUptoCard : Claim7 := { stood := { row := storeRoomUptoRow, standIns := [], harness := (true, "1a6627afcb422a0333283f903f50399ff3d52019203976e8e1e0ebf7839643e9"), looks := false }, kinds := [], alts := [], laidByText := true, laidKinds := [.data], laidTests := true, laidLooks := .later }
def StoreRoomUptoCardSaid : Prop := Claim7.holds Tryz.pinned (.plain (OpenSpec.upto storeRoomSpec)) storeRoomUptoCard

/-- THE SECOND FORM's CARD OF 'catenarylaw18.StoreNil'. -/
def storeNilUptoCard : Claim7 := { stood := { row := storeNilUptoRow, standIns := [], harness := (true, "1a6627afcb422a0333283f903f50399ff3d52019203976e8e1e0ebf7839643e9"), looks := false }, kinds := [], alts := [], laidByText := true, laidKinds := [.data], laidTests := true, laidLooks := .later }
def StoreNilUptoCardSaid : Prop := Claim7.holds Tryz.pinned (.plain (OpenSpec.upto storeNilSpec)) storeNilUptoCard

/-- THE SECOND FORM's CARD OF 'catenarylaw19.RoleFences'. -/
def roleFencesUptoCard : Claim7 := { stood := { row := roleFencesUptoRow, standIns := [], harness := (true, "1a6627afcb422a0333283f903f50399ff3d52019203976e8e1e0ebf7839643e9"), looks := false }, kinds := [], alts := [], laidByText := true, laidKinds := [.data], laidTests := true, laidLooks := .later }
def RoleFencesUptoCardSaid : Prop := Claim7.holds Tryz.pinned (.plain (OpenSpec.upto roleFencesSpec)) roleFencesUptoCard

/-- THE SECOND FORM's CARD OF 'catenarylaw19.RoleEpochs'. -/
def roleEpochsUptoCard : Claim7 := { stood := { row := roleEpochsUptoRow, standIns := [], harness := (true, "1a6627afcb422a0333283f903f50399ff3d52019203976e8e1e0ebf7839643e9"), looks := false }, kinds := [], alts := [], laidByText := true, laidKinds := [.data], laidTests := true, laidLooks := .later }
def RoleEpochsUptoCardSaid : Prop := Claim7.holds Tryz.pinned (.plain (OpenSpec.upto roleEpochsSpec)) roleEpochsUptoCard
end Rows
end Go.Proofs.YtcbenminaakahaaGreatDoor
