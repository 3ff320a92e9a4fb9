/-
  DERIVED. GIVEN WITH THE SEED: THE CARDS: each row of YtabjpmkkigflmaaGreatDoorRows.lean that lists a variable, with what it lists TIED to the program's text (the seventh form; the later family's looks); each row that meets fmt, with fmt's text TOLD by the authors' own Lean function (tested against real Go, not proved from fmt's source: count such statements apart). THE CARD IS WHAT COUNTS. Prove the row's statement (the work); the ties are given (YtabjpmkkigflmaaGreatDoorTie.lean); close each card by the builder's one call (the guide's Derived/Test/ToyasCard.lean, 'card_holds'). Laid BY PROGRAM, IN A SANDBOX (cutbox-door.mjs). By AI agents, Wed Nov 11 2026. No macro, syntax, notation, axiom, sorry.
-/
import Derived.Test.YtabjpmkkigflmaaGreatDoorRows
import GoSem.ClaimSeven
namespace Go.Proofs.YtabjpmkkigflmaaGreatDoor
namespace Rows

/-- THE TIED CARD OF 'catenarylaw20.WindowPlays'. -/
def windowPlaysCard : Claim7 := { stood := { row := windowPlaysRow, standIns := [], harness := (true, "d5849407f0f00a724ec467e8747b2f5110486d18c69d2c04fc4bfbd00ab14cab"), looks := false }, kinds := [], alts := [], laidByText := true, laidKinds := [.data], laidTests := true, laidLooks := .later }
def WindowPlaysCardSaid : Prop := Claim7.holds Tryz.pinned (.plain (OpenSpec.ofChange windowPlaysSpec)) windowPlaysCard

/-- THE TIED CARD OF 'catenarylaw20.WindowOnce'. -/
def windowOnceCard : Claim7 := { stood := { row := windowOnceRow, standIns := [], harness := (true, "d5849407f0f00a724ec467e8747b2f5110486d18c69d2c04fc4bfbd00ab14cab"), looks := false }, kinds := [], alts := [], laidByText := true, laidKinds := [.data], laidTests := true, laidLooks := .later }
def WindowOnceCardSaid : Prop := Claim7.holds Tryz.pinned (.plain (OpenSpec.ofChange windowOnceSpec)) windowOnceCard

/-- THE TIED CARD OF 'catenarylaw20.WindowNil'. -/
def windowNilCard : Claim7 := { stood := { row := windowNilRow, standIns := [], harness := (true, "d5849407f0f00a724ec467e8747b2f5110486d18c69d2c04fc4bfbd00ab14cab"), looks := false }, kinds := [], alts := [], laidByText := true, laidKinds := [.data], laidTests := true, laidLooks := .later }
def WindowNilCardSaid : Prop := Claim7.holds Tryz.pinned (.plain (OpenSpec.ofChange windowNilSpec)) windowNilCard

/-- THE TIED CARD OF 'catenarylaw19.RoleFences'. -/
def roleFencesCard : Claim7 := { stood := { row := roleFencesRow, standIns := [], harness := (true, "d5849407f0f00a724ec467e8747b2f5110486d18c69d2c04fc4bfbd00ab14cab"), looks := false }, kinds := [], alts := [], laidByText := true, laidKinds := [.data], laidTests := true, laidLooks := .later }
def RoleFencesCardSaid : Prop := Claim7.holds Tryz.pinned (.plain (OpenSpec.ofChange roleFencesSpec)) roleFencesCard

/-- THE TIED CARD OF 'catenarylaw19.RoleEpochs'. -/
def roleEpochsCard : Claim7 := { stood := { row := roleEpochsRow, standIns := [], harness := (true, "d5849407f0f00a724ec467e8747b2f5110486d18c69d2c04fc4bfbd00ab14cab"), looks := false }, kinds := [], alts := [], laidByText := true, laidKinds := [.data], laidTests := true, laidLooks := .later }
def RoleEpochsCardSaid : Prop := Claim7.holds Tryz.pinned (.plain (OpenSpec.ofChange roleEpochsSpec)) roleEpochsCard

/-- THE TIED CARD OF 'catenarylaw18.StorePlays'. -/
def storePlaysCard : Claim7 := { stood := { row := storePlaysRow, standIns := [], harness := (true, "d5849407f0f00a724ec467e8747b2f5110486d18c69d2c04fc4bfbd00ab14cab"), looks := false }, kinds := [], alts := [], laidByText := true, laidKinds := [.data], laidTests := true, laidLooks := .later }
def StorePlaysCardSaid : Prop := Claim7.holds Tryz.pinned (.plain (OpenSpec.ofChange storePlaysSpec)) storePlaysCard

/-- THE TIED CARD OF 'catenarylaw18.StoreLoads'. -/
def storeLoadsCard : Claim7 := { stood := { row := storeLoadsRow, standIns := [], harness := (true, "d5849407f0f00a724ec467e8747b2f5110486d18c69d2c04fc4bfbd00ab14cab"), looks := false }, kinds := [], alts := [], laidByText := true, laidKinds := [.data], laidTests := true, laidLooks := .later }
def StoreLoadsCardSaid : Prop := Claim7.holds Tryz.pinned (.plain (OpenSpec.ofChange storeLoadsSpec)) storeLoadsCard

/-- THE TIED CARD OF 'catenarylaw18.StoreGoesOn'. -/
def storeGoesOnCard : Claim7 := { stood := { row := storeGoesOnRow, standIns := [], harness := (true, "d5849407f0f00a724ec467e8747b2f5110486d18c69d2c04fc4bfbd00ab14cab"), looks := false }, kinds := [], alts := [], laidByText := true, laidKinds := [.data], laidTests := true, laidLooks := .later }
def StoreGoesOnCardSaid : Prop := Claim7.holds Tryz.pinned (.plain (OpenSpec.ofChange storeGoesOnSpec)) storeGoesOnCard

/-- THE TIED CARD OF 'catenarylaw18.StoreRoom'. -/
def storeRoomCard : Claim7 := { stood := { row := storeRoomRow, standIns := [], harness := (true, "d5849407f0f00a724ec467e8747b2f5110486d18c69d2c04fc4bfbd00ab14cab"), looks := false }, kinds := [], alts := [], laidByText := true, laidKinds := [.data], laidTests := true, laidLooks := .later }
def StoreRoomCardSaid : Prop := Claim7.holds Tryz.pinned (.plain (OpenSpec.ofChange storeRoomSpec)) storeRoomCard

/-- THE TIED CARD OF 'catenarylaw18.StoreNil'. -/
def storeNilCard : Claim7 := { stood := { row := storeNilRow, standIns := [], harness := (true, "d5849407f0f00a724ec467e8747b2f5110486d18c69d2c04fc4bfbd00ab14cab"), looks := false }, kinds := [], alts := [], laidByText := true, laidKinds := [.data], laidTests := true, laidLooks := .later }
def StoreNilCardSaid : Prop := Claim7.holds Tryz.pinned (.plain (OpenSpec.ofChange storeNilSpec)) storeNilCard

/-- THE TIED CARD OF 'catenarylaw10.LetterChecks'. -/
def letterChecksCard : Claim7 := { stood := { row := letterChecksRow, standIns := [], harness := (true, "d5849407f0f00a724ec467e8747b2f5110486d18c69d2c04fc4bfbd00ab14cab"), looks := false }, kinds := [], alts := [], laidByText := true, laidKinds := [.data, .data], laidTests := true, laidLooks := .later }
def LetterChecksCardSaid : Prop := Claim7.holds Tryz.pinned (.plain (OpenSpec.ofChange letterChecksSpec)) letterChecksCard

/-- THE SECOND FORM's CARD OF 'catenarylaw20.WindowPlays'. -/
def windowPlaysUptoCard : Claim7 := { stood := { row := windowPlaysUptoRow, standIns := [], harness := (true, "d5849407f0f00a724ec467e8747b2f5110486d18c69d2c04fc4bfbd00ab14cab"), looks := false }, kinds := [], alts := [], laidByText := true, laidKinds := [.data], laidTests := true, laidLooks := .later }
def WindowPlaysUptoCardSaid : Prop := Claim7.holds Tryz.pinned (.plain (OpenSpec.upto windowPlaysSpec)) windowPlaysUptoCard

/-- THE SECOND FORM's CARD OF 'catenarylaw20.WindowOnce'. -/
def windowOnceUptoCard : Claim7 := { stood := { row := windowOnceUptoRow, standIns := [], harness := (true, "d5849407f0f00a724ec467e8747b2f5110486d18c69d2c04fc4bfbd00ab14cab"), looks := false }, kinds := [], alts := [], laidByText := true, laidKinds := [.data], laidTests := true, laidLooks := .later }
def WindowOnceUptoCardSaid : Prop := Claim7.holds Tryz.pinned (.plain (OpenSpec.upto windowOnceSpec)) windowOnceUptoCard

/-- THE SECOND FORM's CARD OF 'catenarylaw20.WindowNil'. -/
def windowNilUptoCard : Claim7 := { stood := { row := windowNilUptoRow, standIns := [], harness := (true, "d5849407f0f00a724ec467e8747b2f5110486d18c69d2c04fc4bfbd00ab14cab"), looks := false }, kinds := [], alts := [], laidByText := true, laidKinds := [.data], laidTests := true, laidLooks := .later }
def WindowNilUptoCardSaid : Prop := Claim7.holds Tryz.pinned (.plain (OpenSpec.upto windowNilSpec)) windowNilUptoCard

/-- THE SECOND FORM's CARD OF 'catenarylaw19.RoleFences'. -/
def roleFencesUptoCard : Claim7 := { stood := { row := roleFencesUptoRow, standIns := [], harness := (true, "d5849407f0f00a724ec467e8747b2f5110486d18c69d2c04fc4bfbd00ab14cab"), looks := false }, kinds := [], alts := [], laidByText := true, laidKinds := [.data], laidTests := true, laidLooks := .later }
def RoleFencesUptoCardSaid : Prop := Claim7.holds Tryz.pinned (.plain (OpenSpec.upto roleFencesSpec)) roleFencesUptoCard

/-- THE SECOND FORM's CARD OF 'catenarylaw19.RoleEpochs'. -/
def roleEpochsUptoCard : Claim7 := { stood := { row := roleEpochsUptoRow, standIns := [], harness := (true, "d5849407f0f00a724ec467e8747b2f5110486d18c69d2c04fc4bfbd00ab14cab"), looks := false }, kinds := [], alts := [], laidByText := true, laidKinds := [.data], laidTests := true, laidLooks := .later }
def RoleEpochsUptoCardSaid : Prop := Claim7.holds Tryz.pinned (.plain (OpenSpec.upto roleEpochsSpec)) roleEpochsUptoCard

/-- THE SECOND FORM's CARD OF 'catenarylaw18.StorePlays'. -/
def storePlaysUptoCard : Claim7 := { stood := { row := storePlaysUptoRow, standIns := [], harness := (true, "d5849407f0f00a724ec467e8747b2f5110486d18c69d2c04fc4bfbd00ab14cab"), looks := false }, kinds := [], alts := [], laidByText := true, laidKinds := [.data], laidTests := true, laidLooks := .later }
def StorePlaysUptoCardSaid : Prop := Claim7.holds Tryz.pinned (.plain (OpenSpec.upto storePlaysSpec)) storePlaysUptoCard

/-- THE SECOND FORM's CARD OF 'catenarylaw18.StoreLoads'. -/
def storeLoadsUptoCard : Claim7 := { stood := { row := storeLoadsUptoRow, standIns := [], harness := (true, "d5849407f0f00a724ec467e8747b2f5110486d18c69d2c04fc4bfbd00ab14cab"), looks := false }, kinds := [], alts := [], laidByText := true, laidKinds := [.data], laidTests := true, laidLooks := .later }
def StoreLoadsUptoCardSaid : Prop := Claim7.holds Tryz.pinned (.plain (OpenSpec.upto storeLoadsSpec)) storeLoadsUptoCard

/-- THE SECOND FORM's CARD OF 'catenarylaw18.StoreGoesOn'. -/
def storeGoesOnUptoCard : Claim7 := { stood := { row := storeGoesOnUptoRow, standIns := [], harness := (true, "d5849407f0f00a724ec467e8747b2f5110486d18c69d2c04fc4bfbd00ab14cab"), looks := false }, kinds := [], alts := [], laidByText := true, laidKinds := [.data], laidTests := true, laidLooks := .later }
def StoreGoesOnUptoCardSaid : Prop := Claim7.holds Tryz.pinned (.plain (OpenSpec.upto storeGoesOnSpec)) storeGoesOnUptoCard

/-- THE SECOND FORM's CARD OF 'catenarylaw18.StoreRoom'. -/
def storeRoomUptoCard : Claim7 := { stood := { row := storeRoomUptoRow, standIns := [], harness := (true, "d5849407f0f00a724ec467e8747b2f5110486d18c69d2c04fc4bfbd00ab14cab"), looks := false }, kinds := [], alts := [], laidByText := true, laidKinds := [.data], laidTests := true, laidLooks := .later }
def StoreRoomUptoCardSaid : Prop := Claim7.holds Tryz.pinned (.plain (OpenSpec.upto storeRoomSpec)) storeRoomUptoCard

/-- THE SECOND FORM's CARD OF 'catenarylaw18.StoreNil'. -/
def storeNilUptoCard : Claim7 := { stood := { row := storeNilUptoRow, standIns := [], harness := (true, "d5849407f0f00a724ec467e8747b2f5110486d18c69d2c04fc4bfbd00ab14cab"), looks := false }, kinds := [], alts := [], laidByText := true, laidKinds := [.data], laidTests := true, laidLooks := .later }
def StoreNilUptoCardSaid : Prop := Claim7.holds Tryz.pinned (.plain (OpenSpec.upto storeNilSpec)) storeNilUptoCard

/-- THE SECOND FORM's CARD OF 'catenarylaw10.LetterChecks'. -/
def letterChecksUptoCard : Claim7 := { stood := { row := letterChecksUptoRow, standIns := [], harness := (true, "d5849407f0f00a724ec467e8747b2f5110486d18c69d2c04fc4bfbd00ab14cab"), looks := false }, kinds := [], alts := [], laidByText := true, laidKinds := [.data, .data], laidTests := true, laidLooks := .later }
def LetterChecksUptoCardSaid : Prop := Claim7.holds Tryz.pinned (.plain (OpenSpec.upto letterChecksSpec)) letterChecksUptoCard
end Rows
end Go.Proofs.YtabjpmkkigflmaaGreatDoor
