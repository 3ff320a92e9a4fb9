/-
  NARROWER THAN 'FOR EVERY INPUT', by the rows' own cells (each row's printed sentence says how): LetterChecks: laid · StorePlays: laid · StoreLoads: laid · StoreGoesOn: laid · StoreRoom: laid · StoreNil: laid · RoleFences: laid · RoleEpochs: laid.
  DERIVED. THE GIVEN ROWS OF THIS SEAT. 8 by the template 'for every input the law returns true; each argument reads behind the call as it read before'; 0 by the template 'total and deterministic' (their statements: YtcbenminaakahaaGreatDoorTotals.lean).
  GIVEN WITH THE SEED: the statements are not yours to turn. If you find one false, say at which input.
  Laid BY PROGRAM, IN A SANDBOX (cutbox-rows.mjs): the forced cells as the released guide's own fill.sh prints them over the translation f20a2bbb24f78bba… (all of the seat's roots in one cut). By AI agents, Wed Nov 11 2026. No macro, syntax, notation, axiom, sorry.
-/
import Derived.Test.YtcbenminaakahaaGreatDoorChecked
import GoSem.Claim
import GoSem.ClaimJoined
import GoSem.ClaimMapViews
import Derived.JoinedTies
import Derived.KernelRfl
namespace Go.Proofs.YtcbenminaakahaaGreatDoor
/- THE CELL 'sum', in the pinned program and in every row, IS THE sha256 OF THE DUMP (.gsa) THAT YtcbenminaakahaaGreatDoorProg.lean LOADS. Nothing in Lean hashes anything: it is a label: what it is worth is what the hold of that sum in a sandbox is worth. -/
noncomputable def Tryz.pinned : Pinned := { name := "ytcbenminaakahaagreatdoor", sum := "f20a2bbb24f78bba9049641c3cb43e6611fcf8ba22fcbc6dae72925302368b90", checked := Tryz.checked }
namespace Rows
def none {H : Type} : Left H := { results := [], args := [] }

/- WHAT THE LISTED PACKAGE-LEVEL VARIABLES READ AS WHEN THE CALL BEGINS. Each datum BY PROGRAM (the guide's laid-datum.mjs) off the statement by which the dump's own 'gosem.cut.vars' lays the variable. In a bare row this is a premise. The card (YtcbenminaakahaaGreatDoorCards.lean) ties it to the program's text. -/
def laid_catenary_letter_names {H : Type} : DataW H := .agg [.lit (.string []), .lit (.string [112, 114, 101, 112, 97, 114, 101]), .lit (.string [112, 114, 111, 109, 105, 115, 101]), .lit (.string [97, 99, 99, 101, 112, 116]), .lit (.string [97, 99, 99, 101, 112, 116, 101, 100]), .lit (.string [99, 104, 111, 115, 101, 110]), .lit (.string [98, 101, 97, 116]), .lit (.string [119, 97, 110, 116]), .lit (.string [114, 101, 102, 117, 115, 101]), .lit (.string [114, 101, 112, 111, 114, 116]), .lit (.string [108, 111, 99, 97, 116, 101]), .lit (.string [99, 111, 110, 102, 105, 103]), .lit (.string [112, 117, 115, 104]), .lit (.string [97, 99, 107]), .lit (.string [112, 97, 114, 116]), .lit (.string [113, 117, 101, 114, 121]), .lit (.string [116, 111, 108, 100]), .lit (.string [119, 114, 105, 116, 101]), .lit (.string [119, 114, 111, 116, 101]), .lit (.string [114, 101, 97, 100]), .lit (.string [103, 111, 116])]
def laid_catenary_letter_kindParts {H : Type} : DataW H := .agg [.lit (.int .u32 0), .lit (.int .u32 33), .lit (.int .u32 8225), .lit (.int .u32 2081), .lit (.int .u32 33), .lit (.int .u32 2080), .lit (.int .u32 33), .lit (.int .u32 32), .lit (.int .u32 1), .lit (.int .u32 2048), .lit (.int .u32 2), .lit (.int .u32 4096), .lit (.int .u32 16414), .lit (.int .u32 222), .lit (.int .u32 65646), .lit (.int .u32 326), .lit (.int .u32 1350), .lit (.int .u32 32774), .lit (.int .u32 1600), .lit (.int .u32 326), .lit (.int .u32 132416)]

/-- 'catenarylaw10.LetterChecks': WHATEVER THE INPUT: true; the input reads as it did. -/
def letterChecksSpec : ChangeSpec := { name := "letterChecks", fn := fun _ => fun
  | [d1, d2, d3] => { results := [.lit (.bool true)], args := [d1, d2, d3] }
  | _ => none }
def letterChecksRow : OpenClaim := { program := "ytcbenminaakahaagreatdoor", sum := "f20a2bbb24f78bba9049641c3cb43e6611fcf8ba22fcbc6dae72925302368b90", func := "catenary/catenarylaw10.LetterChecks", spec := "letterChecks", inPlace := ["sync/atomic.AddInt64", "sync/atomic.LoadUint32", "(*internal/sync.Mutex).Lock", "internal/race.Disable", "sync/atomic.CompareAndSwapInt32", "internal/race.Enable", "internal/race.Acquire", "(*internal/sync.Mutex).lockSlow", "internal/sync.runtime_canSpin", "internal/sync.runtime_doSpin", "internal/sync.throw", "internal/sync.runtime_nanotime", "internal/sync.runtime_SemacquireMutex", "sync/atomic.AddInt32", "(*internal/sync.Mutex).Unlock", "internal/race.ReleaseMerge", "(*internal/sync.Mutex).unlockSlow", "internal/sync.fatal", "internal/sync.runtime_Semrelease", "sync/atomic.StoreUint32", "sync/atomic.AddUint64"], unfollowed := true, recurses := true, named := ["catenary/letter.kindParts", "catenary/letter.names"], apart := false, laid := [("catenary/letter.names", laid_catenary_letter_names), ("catenary/letter.kindParts", laid_catenary_letter_kindParts)] }
def LetterChecksSaid : Prop := letterChecksRow.holds Tryz.pinned (OpenSpec.ofChange letterChecksSpec)

/-- ITS FALSE NEIGHBOUR: 'it returns false'. Refute it at one input. -/
def letterChecksWrong : ChangeSpec := { name := "letterChecks", fn := fun _ => fun
  | [d1, d2, d3] => { results := [.lit (.bool false)], args := [d1, d2, d3] }
  | _ => none }
def LetterChecksWrongFalsely : Prop := letterChecksRow.holds Tryz.pinned (OpenSpec.ofChange letterChecksWrong)

/-- 'catenarylaw18.StorePlays': WHATEVER THE INPUT: true; the input reads as it did. -/
def storePlaysSpec : ChangeSpec := { name := "storePlays", fn := fun _ => fun
  | [d] => { results := [.lit (.bool true)], args := [d] }
  | _ => none }
def storePlaysRow : OpenClaim := { program := "ytcbenminaakahaagreatdoor", sum := "f20a2bbb24f78bba9049641c3cb43e6611fcf8ba22fcbc6dae72925302368b90", func := "catenary/catenarylaw18.StorePlays", spec := "storePlays", unfollowed := true, recurses := true, named := ["catenary/letter.kindParts"], apart := false, laid := [("catenary/letter.kindParts", laid_catenary_letter_kindParts)] }
def StorePlaysSaid : Prop := storePlaysRow.holds Tryz.pinned (OpenSpec.ofChange storePlaysSpec)

/-- ITS FALSE NEIGHBOUR: 'it returns false'. Refute it at one input. -/
def storePlaysWrong : ChangeSpec := { name := "storePlays", fn := fun _ => fun
  | [d] => { results := [.lit (.bool false)], args := [d] }
  | _ => none }
def StorePlaysWrongFalsely : Prop := storePlaysRow.holds Tryz.pinned (OpenSpec.ofChange storePlaysWrong)

/-- 'catenarylaw18.StoreLoads': WHATEVER THE INPUT: true; the input reads as it did. -/
def storeLoadsSpec : ChangeSpec := { name := "storeLoads", fn := fun _ => fun
  | [d1, d2] => { results := [.lit (.bool true)], args := [d1, d2] }
  | _ => none }
def storeLoadsRow : OpenClaim := { program := "ytcbenminaakahaagreatdoor", sum := "f20a2bbb24f78bba9049641c3cb43e6611fcf8ba22fcbc6dae72925302368b90", func := "catenary/catenarylaw18.StoreLoads", spec := "storeLoads", unfollowed := true, recurses := true, named := ["catenary/letter.kindParts"], apart := false, laid := [("catenary/letter.kindParts", laid_catenary_letter_kindParts)] }
def StoreLoadsSaid : Prop := storeLoadsRow.holds Tryz.pinned (OpenSpec.ofChange storeLoadsSpec)

/-- ITS FALSE NEIGHBOUR: 'it returns false'. Refute it at one input. -/
def storeLoadsWrong : ChangeSpec := { name := "storeLoads", fn := fun _ => fun
  | [d1, d2] => { results := [.lit (.bool false)], args := [d1, d2] }
  | _ => none }
def StoreLoadsWrongFalsely : Prop := storeLoadsRow.holds Tryz.pinned (OpenSpec.ofChange storeLoadsWrong)

/-- 'catenarylaw18.StoreGoesOn': WHATEVER THE INPUT: true; the input reads as it did. -/
def storeGoesOnSpec : ChangeSpec := { name := "storeGoesOn", fn := fun _ => fun
  | [d1, d2] => { results := [.lit (.bool true)], args := [d1, d2] }
  | _ => none }
def storeGoesOnRow : OpenClaim := { program := "ytcbenminaakahaagreatdoor", sum := "f20a2bbb24f78bba9049641c3cb43e6611fcf8ba22fcbc6dae72925302368b90", func := "catenary/catenarylaw18.StoreGoesOn", spec := "storeGoesOn", unfollowed := true, recurses := true, named := ["catenary/letter.kindParts"], apart := false, laid := [("catenary/letter.kindParts", laid_catenary_letter_kindParts)] }
def StoreGoesOnSaid : Prop := storeGoesOnRow.holds Tryz.pinned (OpenSpec.ofChange storeGoesOnSpec)

/-- ITS FALSE NEIGHBOUR: 'it returns false'. Refute it at one input. -/
def storeGoesOnWrong : ChangeSpec := { name := "storeGoesOn", fn := fun _ => fun
  | [d1, d2] => { results := [.lit (.bool false)], args := [d1, d2] }
  | _ => none }
def StoreGoesOnWrongFalsely : Prop := storeGoesOnRow.holds Tryz.pinned (OpenSpec.ofChange storeGoesOnWrong)

/-- 'catenarylaw18.StoreRoom': WHATEVER THE INPUT: true; the input reads as it did. -/
def storeRoomSpec : ChangeSpec := { name := "storeRoom", fn := fun _ => fun
  | [d1, d2] => { results := [.lit (.bool true)], args := [d1, d2] }
  | _ => none }
def storeRoomRow : OpenClaim := { program := "ytcbenminaakahaagreatdoor", sum := "f20a2bbb24f78bba9049641c3cb43e6611fcf8ba22fcbc6dae72925302368b90", func := "catenary/catenarylaw18.StoreRoom", spec := "storeRoom", unfollowed := true, recurses := true, named := ["catenary/letter.kindParts"], apart := false, laid := [("catenary/letter.kindParts", laid_catenary_letter_kindParts)] }
def StoreRoomSaid : Prop := storeRoomRow.holds Tryz.pinned (OpenSpec.ofChange storeRoomSpec)

/-- ITS FALSE NEIGHBOUR: 'it returns false'. Refute it at one input. -/
def storeRoomWrong : ChangeSpec := { name := "storeRoom", fn := fun _ => fun
  | [d1, d2] => { results := [.lit (.bool false)], args := [d1, d2] }
  | _ => none }
def StoreRoomWrongFalsely : Prop := storeRoomRow.holds Tryz.pinned (OpenSpec.ofChange storeRoomWrong)

/-- 'catenarylaw18.StoreNil': WHATEVER THE INPUT: true; the input reads as it did. -/
def storeNilSpec : ChangeSpec := { name := "storeNil", fn := fun _ => fun
  | [d] => { results := [.lit (.bool true)], args := [d] }
  | _ => none }
def storeNilRow : OpenClaim := { program := "ytcbenminaakahaagreatdoor", sum := "f20a2bbb24f78bba9049641c3cb43e6611fcf8ba22fcbc6dae72925302368b90", func := "catenary/catenarylaw18.StoreNil", spec := "storeNil", unfollowed := true, recurses := true, named := ["catenary/letter.kindParts"], apart := false, laid := [("catenary/letter.kindParts", laid_catenary_letter_kindParts)] }
def StoreNilSaid : Prop := storeNilRow.holds Tryz.pinned (OpenSpec.ofChange storeNilSpec)

/-- ITS FALSE NEIGHBOUR: 'it returns false'. Refute it at one input. -/
def storeNilWrong : ChangeSpec := { name := "storeNil", fn := fun _ => fun
  | [d] => { results := [.lit (.bool false)], args := [d] }
  | _ => none }
def StoreNilWrongFalsely : Prop := storeNilRow.holds Tryz.pinned (OpenSpec.ofChange storeNilWrong)

/-- 'catenarylaw19.RoleFences': WHATEVER THE INPUT: true; the input reads as it did. -/
def roleFencesSpec : ChangeSpec := { name := "roleFences", fn := fun _ => fun
  | [d1, d2, d3] => { results := [.lit (.bool true)], args := [d1, d2, d3] }
  | _ => none }
def roleFencesRow : OpenClaim := { program := "ytcbenminaakahaagreatdoor", sum := "f20a2bbb24f78bba9049641c3cb43e6611fcf8ba22fcbc6dae72925302368b90", func := "catenary/catenarylaw19.RoleFences", spec := "roleFences", unfollowed := true, recurses := true, named := ["catenary/letter.kindParts"], apart := false, laid := [("catenary/letter.kindParts", laid_catenary_letter_kindParts)] }
def RoleFencesSaid : Prop := roleFencesRow.holds Tryz.pinned (OpenSpec.ofChange roleFencesSpec)

/-- ITS FALSE NEIGHBOUR: 'it returns false'. Refute it at one input. -/
def roleFencesWrong : ChangeSpec := { name := "roleFences", fn := fun _ => fun
  | [d1, d2, d3] => { results := [.lit (.bool false)], args := [d1, d2, d3] }
  | _ => none }
def RoleFencesWrongFalsely : Prop := roleFencesRow.holds Tryz.pinned (OpenSpec.ofChange roleFencesWrong)

/-- 'catenarylaw19.RoleEpochs': WHATEVER THE INPUT: true; the input reads as it did. -/
def roleEpochsSpec : ChangeSpec := { name := "roleEpochs", fn := fun _ => fun
  | [d1, d2, d3] => { results := [.lit (.bool true)], args := [d1, d2, d3] }
  | _ => none }
def roleEpochsRow : OpenClaim := { program := "ytcbenminaakahaagreatdoor", sum := "f20a2bbb24f78bba9049641c3cb43e6611fcf8ba22fcbc6dae72925302368b90", func := "catenary/catenarylaw19.RoleEpochs", spec := "roleEpochs", unfollowed := true, recurses := true, named := ["catenary/letter.kindParts"], apart := false, laid := [("catenary/letter.kindParts", laid_catenary_letter_kindParts)] }
def RoleEpochsSaid : Prop := roleEpochsRow.holds Tryz.pinned (OpenSpec.ofChange roleEpochsSpec)

/-- ITS FALSE NEIGHBOUR: 'it returns false'. Refute it at one input. -/
def roleEpochsWrong : ChangeSpec := { name := "roleEpochs", fn := fun _ => fun
  | [d1, d2, d3] => { results := [.lit (.bool false)], args := [d1, d2, d3] }
  | _ => none }
def RoleEpochsWrongFalsely : Prop := roleEpochsRow.holds Tryz.pinned (OpenSpec.ofChange roleEpochsWrong)

/- THE SECOND FORM. 'bulk': how many values and letters a reading holds, each counted each time it is reached (what is shared counts as often as it is met; a slice's spare places count too). A statement '..UptoSaid' is the law's where the arguments, and the package variables that the reading takes, are together of bulk at most 1048576: NARROWER than '..Said'. Prove '..Said' where nothing that the law and all that it calls make is longer than what came in: it says more and counts as full. Else prove '..UptoSaid'. A law counts once. -/
mutual
def uptoBulk {H : Type} : DataW H → Nat
  | .lit (.string bytes) => bytes.length + 1
  | .lit _ => 1
  | .nil => 1
  | .ptr d => uptoBulk d + 1
  | .slice elems spare => uptoBulkAll elems + uptoBulkAll spare + 1
  | .agg parts => uptoBulkAll parts + 1
  | .iface _ d => uptoBulk d + 1
  | .map entries => uptoBulkEntries entries + 1
  | .held _ => 1
def uptoBulkAll {H : Type} : List (DataW H) → Nat
  | [] => 0
  | d :: r => uptoBulk d + uptoBulkAll r
def uptoBulkEntries {H : Type} : List (Lit × DataW H) → Nat
  | [] => 0
  | x :: r => uptoBulkEntry x + uptoBulkEntries r
def uptoBulkEntry {H : Type} : Lit × DataW H → Nat
  | (.string bytes, d) => bytes.length + uptoBulk d + 1
  | (_, d) => uptoBulk d + 1
 end
def uptoSmall : (H : Type) → List (DataW H) → Bool := fun _ ds => decide (uptoBulkAll ds ≤ 1048576)
def OpenSpec.upto (s : _root_.Go.ChangeSpec) : _root_.Go.OpenSpec := { _root_.Go.OpenSpec.ofChange s with cond := some uptoSmall }

/-- 'catenarylaw10.LetterChecks', WHERE WHAT IT READS IS OF BULK AT MOST 1048576: true; the input reads as it did. -/
def letterChecksUptoRow : OpenClaim := { program := "ytcbenminaakahaagreatdoor", sum := "f20a2bbb24f78bba9049641c3cb43e6611fcf8ba22fcbc6dae72925302368b90", func := "catenary/catenarylaw10.LetterChecks", spec := "letterChecks", inPlace := ["sync/atomic.AddInt64", "sync/atomic.LoadUint32", "(*internal/sync.Mutex).Lock", "internal/race.Disable", "sync/atomic.CompareAndSwapInt32", "internal/race.Enable", "internal/race.Acquire", "(*internal/sync.Mutex).lockSlow", "internal/sync.runtime_canSpin", "internal/sync.runtime_doSpin", "internal/sync.throw", "internal/sync.runtime_nanotime", "internal/sync.runtime_SemacquireMutex", "sync/atomic.AddInt32", "(*internal/sync.Mutex).Unlock", "internal/race.ReleaseMerge", "(*internal/sync.Mutex).unlockSlow", "internal/sync.fatal", "internal/sync.runtime_Semrelease", "sync/atomic.StoreUint32", "sync/atomic.AddUint64"], unfollowed := true, recurses := true, named := ["catenary/letter.kindParts", "catenary/letter.names"], apart := false, laid := [("catenary/letter.names", laid_catenary_letter_names), ("catenary/letter.kindParts", laid_catenary_letter_kindParts)], narrowed := true }
def LetterChecksUptoSaid : Prop := letterChecksUptoRow.holds Tryz.pinned (OpenSpec.upto letterChecksSpec)

/-- 'catenarylaw18.StorePlays', WHERE WHAT IT READS IS OF BULK AT MOST 1048576: true; the input reads as it did. -/
def storePlaysUptoRow : OpenClaim := { program := "ytcbenminaakahaagreatdoor", sum := "f20a2bbb24f78bba9049641c3cb43e6611fcf8ba22fcbc6dae72925302368b90", func := "catenary/catenarylaw18.StorePlays", spec := "storePlays", unfollowed := true, recurses := true, named := ["catenary/letter.kindParts"], apart := false, laid := [("catenary/letter.kindParts", laid_catenary_letter_kindParts)], narrowed := true }
def StorePlaysUptoSaid : Prop := storePlaysUptoRow.holds Tryz.pinned (OpenSpec.upto storePlaysSpec)

/-- 'catenarylaw18.StoreLoads', WHERE WHAT IT READS IS OF BULK AT MOST 1048576: true; the input reads as it did. -/
def storeLoadsUptoRow : OpenClaim := { program := "ytcbenminaakahaagreatdoor", sum := "f20a2bbb24f78bba9049641c3cb43e6611fcf8ba22fcbc6dae72925302368b90", func := "catenary/catenarylaw18.StoreLoads", spec := "storeLoads", unfollowed := true, recurses := true, named := ["catenary/letter.kindParts"], apart := false, laid := [("catenary/letter.kindParts", laid_catenary_letter_kindParts)], narrowed := true }
def StoreLoadsUptoSaid : Prop := storeLoadsUptoRow.holds Tryz.pinned (OpenSpec.upto storeLoadsSpec)

/-- 'catenarylaw18.StoreGoesOn', WHERE WHAT IT READS IS OF BULK AT MOST 1048576: true; the input reads as it did. -/
def storeGoesOnUptoRow : OpenClaim := { program := "ytcbenminaakahaagreatdoor", sum := "f20a2bbb24f78bba9049641c3cb43e6611fcf8ba22fcbc6dae72925302368b90", func := "catenary/catenarylaw18.StoreGoesOn", spec := "storeGoesOn", unfollowed := true, recurses := true, named := ["catenary/letter.kindParts"], apart := false, laid := [("catenary/letter.kindParts", laid_catenary_letter_kindParts)], narrowed := true }
def StoreGoesOnUptoSaid : Prop := storeGoesOnUptoRow.holds Tryz.pinned (OpenSpec.upto storeGoesOnSpec)

/-- 'catenarylaw18.StoreRoom', WHERE WHAT IT READS IS OF BULK AT MOST 1048576: true; the input reads as it did. -/
def storeRoomUptoRow : OpenClaim := { program := "ytcbenminaakahaagreatdoor", sum := "f20a2bbb24f78bba9049641c3cb43e6611fcf8ba22fcbc6dae72925302368b90", func := "catenary/catenarylaw18.StoreRoom", spec := "storeRoom", unfollowed := true, recurses := true, named := ["catenary/letter.kindParts"], apart := false, laid := [("catenary/letter.kindParts", laid_catenary_letter_kindParts)], narrowed := true }
def StoreRoomUptoSaid : Prop := storeRoomUptoRow.holds Tryz.pinned (OpenSpec.upto storeRoomSpec)

/-- 'catenarylaw18.StoreNil', WHERE WHAT IT READS IS OF BULK AT MOST 1048576: true; the input reads as it did. -/
def storeNilUptoRow : OpenClaim := { program := "ytcbenminaakahaagreatdoor", sum := "f20a2bbb24f78bba9049641c3cb43e6611fcf8ba22fcbc6dae72925302368b90", func := "catenary/catenarylaw18.StoreNil", spec := "storeNil", unfollowed := true, recurses := true, named := ["catenary/letter.kindParts"], apart := false, laid := [("catenary/letter.kindParts", laid_catenary_letter_kindParts)], narrowed := true }
def StoreNilUptoSaid : Prop := storeNilUptoRow.holds Tryz.pinned (OpenSpec.upto storeNilSpec)

/-- 'catenarylaw19.RoleFences', WHERE WHAT IT READS IS OF BULK AT MOST 1048576: true; the input reads as it did. -/
def roleFencesUptoRow : OpenClaim := { program := "ytcbenminaakahaagreatdoor", sum := "f20a2bbb24f78bba9049641c3cb43e6611fcf8ba22fcbc6dae72925302368b90", func := "catenary/catenarylaw19.RoleFences", spec := "roleFences", unfollowed := true, recurses := true, named := ["catenary/letter.kindParts"], apart := false, laid := [("catenary/letter.kindParts", laid_catenary_letter_kindParts)], narrowed := true }
def RoleFencesUptoSaid : Prop := roleFencesUptoRow.holds Tryz.pinned (OpenSpec.upto roleFencesSpec)

/-- 'catenarylaw19.RoleEpochs', WHERE WHAT IT READS IS OF BULK AT MOST 1048576: true; the input reads as it did. -/
def roleEpochsUptoRow : OpenClaim := { program := "ytcbenminaakahaagreatdoor", sum := "f20a2bbb24f78bba9049641c3cb43e6611fcf8ba22fcbc6dae72925302368b90", func := "catenary/catenarylaw19.RoleEpochs", spec := "roleEpochs", unfollowed := true, recurses := true, named := ["catenary/letter.kindParts"], apart := false, laid := [("catenary/letter.kindParts", laid_catenary_letter_kindParts)], narrowed := true }
def RoleEpochsUptoSaid : Prop := roleEpochsUptoRow.holds Tryz.pinned (OpenSpec.upto roleEpochsSpec)

end Rows
end Go.Proofs.YtcbenminaakahaaGreatDoor
