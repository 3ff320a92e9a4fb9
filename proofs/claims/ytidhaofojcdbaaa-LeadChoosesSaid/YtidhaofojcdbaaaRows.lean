/-
  No cell of these rows narrows 'for every input' (looked for: loops, veiled, ifaces, maps, wideKeys, modest, calm, conditions, laid).
  DERIVED. THE GIVEN ROWS OF THIS SEAT. 7 by the template 'for every input the law returns true; each argument reads behind the call as it read before'; 0 by the template 'total and deterministic' (their statements: YtidhaofojcdbaaaTotals.lean).
  GIVEN WITH THE SEED: the statements are not yours to turn. If you find one false, say at which input.
  Laid BY PROGRAM, IN A SANDBOX (cutbox-rows.mjs): the forced cells as the released guide's own fill.sh prints them over the translation 49a75dcb905e4bff… (all of the seat's roots in one cut). By AI agents, Wed Nov 11 2026. No macro, syntax, notation, axiom, sorry.
-/
import Derived.Test.YtidhaofojcdbaaaChecked
import GoSem.Claim
import GoSem.ClaimJoined
import GoSem.ClaimMapViews
import Derived.JoinedTies
import Derived.KernelRfl
namespace Go.Proofs.Ytidhaofojcdbaaa
/- THE CELL 'sum', in the pinned program and in every row, IS THE sha256 OF THE DUMP (.gsa) THAT YtidhaofojcdbaaaProg.lean LOADS. Nothing in Lean hashes anything: it is a label: what it is worth is what the hold of that sum in a sandbox is worth. -/
noncomputable def Try.pinned : Pinned := { name := "ytidhaofojcdbaaa", sum := "49a75dcb905e4bffe2f9e95f3ff7888a8c6461c5fcb288ce062da9ddd946da49", checked := Try.checked }
namespace Rows
def none {H : Type} : Left H := { results := [], args := [] }

/-- 'catenarylaw13.LeadSafe': WHATEVER THE INPUT: true; the input reads as it did. -/
def leadSafeSpec : ChangeSpec := { name := "leadSafe", fn := fun _ => fun
  | [d1, d2] => { results := [.lit (.bool true)], args := [d1, d2] }
  | _ => none }
def leadSafeRow : OpenClaim := { program := "ytidhaofojcdbaaa", sum := "49a75dcb905e4bffe2f9e95f3ff7888a8c6461c5fcb288ce062da9ddd946da49", func := "catenary/catenarylaw13.LeadSafe", spec := "leadSafe", unfollowed := true, recurses := true, apart := false }
def LeadSafeSaid : Prop := leadSafeRow.holds Try.pinned (OpenSpec.ofChange leadSafeSpec)

/-- ITS FALSE NEIGHBOUR: 'it returns false'. Refute it at one input. -/
def leadSafeWrong : ChangeSpec := { name := "leadSafe", fn := fun _ => fun
  | [d1, d2] => { results := [.lit (.bool false)], args := [d1, d2] }
  | _ => none }
def LeadSafeWrongFalsely : Prop := leadSafeRow.holds Try.pinned (OpenSpec.ofChange leadSafeWrong)

/-- 'catenarylaw13.LeadChooses': WHATEVER THE INPUT: true; the input reads as it did. -/
def leadChoosesSpec : ChangeSpec := { name := "leadChooses", fn := fun _ => fun
  | [d1, d2, d3] => { results := [.lit (.bool true)], args := [d1, d2, d3] }
  | _ => none }
def leadChoosesRow : OpenClaim := { program := "ytidhaofojcdbaaa", sum := "49a75dcb905e4bffe2f9e95f3ff7888a8c6461c5fcb288ce062da9ddd946da49", func := "catenary/catenarylaw13.LeadChooses", spec := "leadChooses", unfollowed := true, recurses := true, apart := false }
def LeadChoosesSaid : Prop := leadChoosesRow.holds Try.pinned (OpenSpec.ofChange leadChoosesSpec)

/-- ITS FALSE NEIGHBOUR: 'it returns false'. Refute it at one input. -/
def leadChoosesWrong : ChangeSpec := { name := "leadChooses", fn := fun _ => fun
  | [d1, d2, d3] => { results := [.lit (.bool false)], args := [d1, d2, d3] }
  | _ => none }
def LeadChoosesWrongFalsely : Prop := leadChoosesRow.holds Try.pinned (OpenSpec.ofChange leadChoosesWrong)

/-- 'catenarylaw13.LeadNil': WHATEVER THE INPUT: true; the input reads as it did. -/
def leadNilSpec : ChangeSpec := { name := "leadNil", fn := fun _ => fun
  | [d] => { results := [.lit (.bool true)], args := [d] }
  | _ => none }
def leadNilRow : OpenClaim := { program := "ytidhaofojcdbaaa", sum := "49a75dcb905e4bffe2f9e95f3ff7888a8c6461c5fcb288ce062da9ddd946da49", func := "catenary/catenarylaw13.LeadNil", spec := "leadNil", unfollowed := true, recurses := true, apart := false }
def LeadNilSaid : Prop := leadNilRow.holds Try.pinned (OpenSpec.ofChange leadNilSpec)

/-- ITS FALSE NEIGHBOUR: 'it returns false'. Refute it at one input. -/
def leadNilWrong : ChangeSpec := { name := "leadNil", fn := fun _ => fun
  | [d] => { results := [.lit (.bool false)], args := [d] }
  | _ => none }
def LeadNilWrongFalsely : Prop := leadNilRow.holds Try.pinned (OpenSpec.ofChange leadNilWrong)

/-- 'catenarylaw11.AcceptBest': WHATEVER THE INPUT: true; the input reads as it did. -/
def acceptBestSpec : ChangeSpec := { name := "acceptBest", fn := fun _ => fun
  | [d] => { results := [.lit (.bool true)], args := [d] }
  | _ => none }
def acceptBestRow : OpenClaim := { program := "ytidhaofojcdbaaa", sum := "49a75dcb905e4bffe2f9e95f3ff7888a8c6461c5fcb288ce062da9ddd946da49", func := "catenary/catenarylaw11.AcceptBest", spec := "acceptBest", unfollowed := true, recurses := true, apart := false }
def AcceptBestSaid : Prop := acceptBestRow.holds Try.pinned (OpenSpec.ofChange acceptBestSpec)

/-- ITS FALSE NEIGHBOUR: 'it returns false'. Refute it at one input. -/
def acceptBestWrong : ChangeSpec := { name := "acceptBest", fn := fun _ => fun
  | [d] => { results := [.lit (.bool false)], args := [d] }
  | _ => none }
def AcceptBestWrongFalsely : Prop := acceptBestRow.holds Try.pinned (OpenSpec.ofChange acceptBestWrong)

/-- 'catenarylaw12.ChosenOrder': WHATEVER THE INPUT: true; the input reads as it did. -/
def chosenOrderSpec : ChangeSpec := { name := "chosenOrder", fn := fun _ => fun
  | [d1, d2, d3] => { results := [.lit (.bool true)], args := [d1, d2, d3] }
  | _ => none }
def chosenOrderRow : OpenClaim := { program := "ytidhaofojcdbaaa", sum := "49a75dcb905e4bffe2f9e95f3ff7888a8c6461c5fcb288ce062da9ddd946da49", func := "catenary/catenarylaw12.ChosenOrder", spec := "chosenOrder", unfollowed := true, recurses := true, apart := false }
def ChosenOrderSaid : Prop := chosenOrderRow.holds Try.pinned (OpenSpec.ofChange chosenOrderSpec)

/-- ITS FALSE NEIGHBOUR: 'it returns false'. Refute it at one input. -/
def chosenOrderWrong : ChangeSpec := { name := "chosenOrder", fn := fun _ => fun
  | [d1, d2, d3] => { results := [.lit (.bool false)], args := [d1, d2, d3] }
  | _ => none }
def ChosenOrderWrongFalsely : Prop := chosenOrderRow.holds Try.pinned (OpenSpec.ofChange chosenOrderWrong)

/-- 'catenarylaw12.ChosenOwn': WHATEVER THE INPUT: true; the input reads as it did. -/
def chosenOwnSpec : ChangeSpec := { name := "chosenOwn", fn := fun _ => fun
  | [d1, d2, d3] => { results := [.lit (.bool true)], args := [d1, d2, d3] }
  | _ => none }
def chosenOwnRow : OpenClaim := { program := "ytidhaofojcdbaaa", sum := "49a75dcb905e4bffe2f9e95f3ff7888a8c6461c5fcb288ce062da9ddd946da49", func := "catenary/catenarylaw12.ChosenOwn", spec := "chosenOwn", unfollowed := true, recurses := true, apart := false }
def ChosenOwnSaid : Prop := chosenOwnRow.holds Try.pinned (OpenSpec.ofChange chosenOwnSpec)

/-- ITS FALSE NEIGHBOUR: 'it returns false'. Refute it at one input. -/
def chosenOwnWrong : ChangeSpec := { name := "chosenOwn", fn := fun _ => fun
  | [d1, d2, d3] => { results := [.lit (.bool false)], args := [d1, d2, d3] }
  | _ => none }
def ChosenOwnWrongFalsely : Prop := chosenOwnRow.holds Try.pinned (OpenSpec.ofChange chosenOwnWrong)

/-- 'catenarylaw12.ChosenNil': WHATEVER THE INPUT: true; the input reads as it did. -/
def chosenNilSpec : ChangeSpec := { name := "chosenNil", fn := fun _ => fun
  | [d1, d2] => { results := [.lit (.bool true)], args := [d1, d2] }
  | _ => none }
def chosenNilRow : OpenClaim := { program := "ytidhaofojcdbaaa", sum := "49a75dcb905e4bffe2f9e95f3ff7888a8c6461c5fcb288ce062da9ddd946da49", func := "catenary/catenarylaw12.ChosenNil", spec := "chosenNil", unfollowed := true, recurses := true, apart := false }
def ChosenNilSaid : Prop := chosenNilRow.holds Try.pinned (OpenSpec.ofChange chosenNilSpec)

/-- ITS FALSE NEIGHBOUR: 'it returns false'. Refute it at one input. -/
def chosenNilWrong : ChangeSpec := { name := "chosenNil", fn := fun _ => fun
  | [d1, d2] => { results := [.lit (.bool false)], args := [d1, d2] }
  | _ => none }
def ChosenNilWrongFalsely : Prop := chosenNilRow.holds Try.pinned (OpenSpec.ofChange chosenNilWrong)

/- THE SECOND FORM. 'bulk': how many values and letters a reading holds, each counted each time it is reached (what is shared counts as often as it is met; a slice's spare places count too). A statement '..UptoSaid' is the law's where the arguments, and the package variables that the reading takes, are together of bulk at most 1048576: NARROWER than '..Said'. Prove '..Said' where nothing that the law and all that it calls make is longer than what came in: it says more and counts as full. Else prove '..UptoSaid'. A law counts once. -/
mutual
def uptoBulk {H : Type} : DataW H → Nat
  | .lit (.string bytes) => bytes.length + 1
  | .lit _ => 1
  | .nil => 1
  | .ptr d => uptoBulk d + 1
  | .slice elems spare => uptoBulkAll elems + uptoBulkAll spare + 1
  | .agg parts => uptoBulkAll parts + 1
  | .iface _ d => uptoBulk d + 1
  | .map entries => uptoBulkEntries entries + 1
  | .held _ => 1
def uptoBulkAll {H : Type} : List (DataW H) → Nat
  | [] => 0
  | d :: r => uptoBulk d + uptoBulkAll r
def uptoBulkEntries {H : Type} : List (Lit × DataW H) → Nat
  | [] => 0
  | x :: r => uptoBulkEntry x + uptoBulkEntries r
def uptoBulkEntry {H : Type} : Lit × DataW H → Nat
  | (.string bytes, d) => bytes.length + uptoBulk d + 1
  | (_, d) => uptoBulk d + 1
 end
def uptoSmall : (H : Type) → List (DataW H) → Bool := fun _ ds => decide (uptoBulkAll ds ≤ 1048576)
def OpenSpec.upto (s : _root_.Go.ChangeSpec) : _root_.Go.OpenSpec := { _root_.Go.OpenSpec.ofChange s with cond := some uptoSmall }

/-- 'catenarylaw13.LeadSafe', WHERE WHAT IT READS IS OF BULK AT MOST 1048576: true; the input reads as it did. -/
def leadSafeUptoRow : OpenClaim := { program := "ytidhaofojcdbaaa", sum := "49a75dcb905e4bffe2f9e95f3ff7888a8c6461c5fcb288ce062da9ddd946da49", func := "catenary/catenarylaw13.LeadSafe", spec := "leadSafe", unfollowed := true, recurses := true, apart := false, narrowed := true }
def LeadSafeUptoSaid : Prop := leadSafeUptoRow.holds Try.pinned (OpenSpec.upto leadSafeSpec)

/-- 'catenarylaw13.LeadChooses', WHERE WHAT IT READS IS OF BULK AT MOST 1048576: true; the input reads as it did. -/
def leadChoosesUptoRow : OpenClaim := { program := "ytidhaofojcdbaaa", sum := "49a75dcb905e4bffe2f9e95f3ff7888a8c6461c5fcb288ce062da9ddd946da49", func := "catenary/catenarylaw13.LeadChooses", spec := "leadChooses", unfollowed := true, recurses := true, apart := false, narrowed := true }
def LeadChoosesUptoSaid : Prop := leadChoosesUptoRow.holds Try.pinned (OpenSpec.upto leadChoosesSpec)

/-- 'catenarylaw13.LeadNil', WHERE WHAT IT READS IS OF BULK AT MOST 1048576: true; the input reads as it did. -/
def leadNilUptoRow : OpenClaim := { program := "ytidhaofojcdbaaa", sum := "49a75dcb905e4bffe2f9e95f3ff7888a8c6461c5fcb288ce062da9ddd946da49", func := "catenary/catenarylaw13.LeadNil", spec := "leadNil", unfollowed := true, recurses := true, apart := false, narrowed := true }
def LeadNilUptoSaid : Prop := leadNilUptoRow.holds Try.pinned (OpenSpec.upto leadNilSpec)

/-- 'catenarylaw11.AcceptBest', WHERE WHAT IT READS IS OF BULK AT MOST 1048576: true; the input reads as it did. -/
def acceptBestUptoRow : OpenClaim := { program := "ytidhaofojcdbaaa", sum := "49a75dcb905e4bffe2f9e95f3ff7888a8c6461c5fcb288ce062da9ddd946da49", func := "catenary/catenarylaw11.AcceptBest", spec := "acceptBest", unfollowed := true, recurses := true, apart := false, narrowed := true }
def AcceptBestUptoSaid : Prop := acceptBestUptoRow.holds Try.pinned (OpenSpec.upto acceptBestSpec)

/-- 'catenarylaw12.ChosenOrder', WHERE WHAT IT READS IS OF BULK AT MOST 1048576: true; the input reads as it did. -/
def chosenOrderUptoRow : OpenClaim := { program := "ytidhaofojcdbaaa", sum := "49a75dcb905e4bffe2f9e95f3ff7888a8c6461c5fcb288ce062da9ddd946da49", func := "catenary/catenarylaw12.ChosenOrder", spec := "chosenOrder", unfollowed := true, recurses := true, apart := false, narrowed := true }
def ChosenOrderUptoSaid : Prop := chosenOrderUptoRow.holds Try.pinned (OpenSpec.upto chosenOrderSpec)

/-- 'catenarylaw12.ChosenOwn', WHERE WHAT IT READS IS OF BULK AT MOST 1048576: true; the input reads as it did. -/
def chosenOwnUptoRow : OpenClaim := { program := "ytidhaofojcdbaaa", sum := "49a75dcb905e4bffe2f9e95f3ff7888a8c6461c5fcb288ce062da9ddd946da49", func := "catenary/catenarylaw12.ChosenOwn", spec := "chosenOwn", unfollowed := true, recurses := true, apart := false, narrowed := true }
def ChosenOwnUptoSaid : Prop := chosenOwnUptoRow.holds Try.pinned (OpenSpec.upto chosenOwnSpec)

/-- 'catenarylaw12.ChosenNil', WHERE WHAT IT READS IS OF BULK AT MOST 1048576: true; the input reads as it did. -/
def chosenNilUptoRow : OpenClaim := { program := "ytidhaofojcdbaaa", sum := "49a75dcb905e4bffe2f9e95f3ff7888a8c6461c5fcb288ce062da9ddd946da49", func := "catenary/catenarylaw12.ChosenNil", spec := "chosenNil", unfollowed := true, recurses := true, apart := false, narrowed := true }
def ChosenNilUptoSaid : Prop := chosenNilUptoRow.holds Try.pinned (OpenSpec.upto chosenNilSpec)

end Rows
end Go.Proofs.Ytidhaofojcdbaaa
