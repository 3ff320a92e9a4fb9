/-
  No cell of these rows narrows 'for every input' (looked for: loops, veiled, ifaces, maps, wideKeys, modest, calm, conditions, laid).
  DERIVED. THE GIVEN ROWS OF THIS SEAT. 3 by the template 'for every input the law returns true; each argument reads behind the call as it read before'; 0 by the template 'total and deterministic' (their statements: YtpdkmalfojeghaaTotals.lean).
  GIVEN WITH THE SEED: the statements are not yours to turn. If you find one false, say at which input.
  Laid BY PROGRAM, IN A SANDBOX (cutbox-rows.mjs): the forced cells as the released guide's own fill.sh prints them over the translation 1d5a4ca220f8e110… (all of the seat's roots in one cut). By AI agents, Wed Nov 11 2026. No macro, syntax, notation, axiom, sorry.
-/
import Derived.Test.YtpdkmalfojeghaaChecked
import GoSem.Claim
import GoSem.ClaimJoined
import GoSem.ClaimMapViews
import Derived.JoinedTies
import Derived.KernelRfl
namespace Go.Proofs.Ytpdkmalfojeghaa
/- THE CELL 'sum', in the pinned program and in every row, IS THE sha256 OF THE DUMP (.gsa) THAT YtpdkmalfojeghaaProg.lean LOADS. Nothing in Lean hashes anything: it is a label: what it is worth is what the hold of that sum in a sandbox is worth. -/
noncomputable def Try.pinned : Pinned := { name := "ytpdkmalfojeghaa", sum := "1d5a4ca220f8e11095f04f547de09ce4295865962741e585ce80ee96f9084caa", checked := Try.checked }
namespace Rows
def none {H : Type} : Left H := { results := [], args := [] }

/-- 'catenarylaw11.AcceptBest': WHATEVER THE INPUT: true; the input reads as it did. -/
def acceptBestSpec : ChangeSpec := { name := "acceptBest", fn := fun _ => fun
  | [d] => { results := [.lit (.bool true)], args := [d] }
  | _ => none }
def acceptBestRow : OpenClaim := { program := "ytpdkmalfojeghaa", sum := "1d5a4ca220f8e11095f04f547de09ce4295865962741e585ce80ee96f9084caa", func := "catenary/catenarylaw11.AcceptBest", spec := "acceptBest", unfollowed := true, recurses := true, apart := false }
def AcceptBestSaid : Prop := acceptBestRow.holds Try.pinned (OpenSpec.ofChange acceptBestSpec)

/-- ITS FALSE NEIGHBOUR: 'it returns false'. Refute it at one input. -/
def acceptBestWrong : ChangeSpec := { name := "acceptBest", fn := fun _ => fun
  | [d] => { results := [.lit (.bool false)], args := [d] }
  | _ => none }
def AcceptBestWrongFalsely : Prop := acceptBestRow.holds Try.pinned (OpenSpec.ofChange acceptBestWrong)

/-- 'catenarylaw17.UpdateLists': WHATEVER THE INPUT: true; the input reads as it did. -/
def updateListsSpec : ChangeSpec := { name := "updateLists", fn := fun _ => fun
  | [d1, d2, d3] => { results := [.lit (.bool true)], args := [d1, d2, d3] }
  | _ => none }
def updateListsRow : OpenClaim := { program := "ytpdkmalfojeghaa", sum := "1d5a4ca220f8e11095f04f547de09ce4295865962741e585ce80ee96f9084caa", func := "catenary/catenarylaw17.UpdateLists", spec := "updateLists", unfollowed := true, recurses := true, apart := false }
def UpdateListsSaid : Prop := updateListsRow.holds Try.pinned (OpenSpec.ofChange updateListsSpec)

/-- ITS FALSE NEIGHBOUR: 'it returns false'. Refute it at one input. -/
def updateListsWrong : ChangeSpec := { name := "updateLists", fn := fun _ => fun
  | [d1, d2, d3] => { results := [.lit (.bool false)], args := [d1, d2, d3] }
  | _ => none }
def UpdateListsWrongFalsely : Prop := updateListsRow.holds Try.pinned (OpenSpec.ofChange updateListsWrong)

/-- 'catenarylaw17.UpdateFits': WHATEVER THE INPUT: true; the input reads as it did. -/
def updateFitsSpec : ChangeSpec := { name := "updateFits", fn := fun _ => fun
  | [d1, d2, d3] => { results := [.lit (.bool true)], args := [d1, d2, d3] }
  | _ => none }
def updateFitsRow : OpenClaim := { program := "ytpdkmalfojeghaa", sum := "1d5a4ca220f8e11095f04f547de09ce4295865962741e585ce80ee96f9084caa", func := "catenary/catenarylaw17.UpdateFits", spec := "updateFits", unfollowed := true, recurses := true, apart := false }
def UpdateFitsSaid : Prop := updateFitsRow.holds Try.pinned (OpenSpec.ofChange updateFitsSpec)

/-- ITS FALSE NEIGHBOUR: 'it returns false'. Refute it at one input. -/
def updateFitsWrong : ChangeSpec := { name := "updateFits", fn := fun _ => fun
  | [d1, d2, d3] => { results := [.lit (.bool false)], args := [d1, d2, d3] }
  | _ => none }
def UpdateFitsWrongFalsely : Prop := updateFitsRow.holds Try.pinned (OpenSpec.ofChange updateFitsWrong)

/- THE SECOND FORM. 'bulk': how many values and letters a reading holds, each counted each time it is reached (what is shared counts as often as it is met; a slice's spare places count too). A statement '..UptoSaid' is the law's where the arguments, and the package variables that the reading takes, are together of bulk at most 1048576: NARROWER than '..Said'. Prove '..Said' where nothing that the law and all that it calls make is longer than what came in: it says more and counts as full. Else prove '..UptoSaid'. A law counts once. -/
mutual
def uptoBulk {H : Type} : DataW H → Nat
  | .lit (.string bytes) => bytes.length + 1
  | .lit _ => 1
  | .nil => 1
  | .ptr d => uptoBulk d + 1
  | .slice elems spare => uptoBulkAll elems + uptoBulkAll spare + 1
  | .agg parts => uptoBulkAll parts + 1
  | .iface _ d => uptoBulk d + 1
  | .map entries => uptoBulkEntries entries + 1
  | .held _ => 1
def uptoBulkAll {H : Type} : List (DataW H) → Nat
  | [] => 0
  | d :: r => uptoBulk d + uptoBulkAll r
def uptoBulkEntries {H : Type} : List (Lit × DataW H) → Nat
  | [] => 0
  | x :: r => uptoBulkEntry x + uptoBulkEntries r
def uptoBulkEntry {H : Type} : Lit × DataW H → Nat
  | (.string bytes, d) => bytes.length + uptoBulk d + 1
  | (_, d) => uptoBulk d + 1
 end
def uptoSmall : (H : Type) → List (DataW H) → Bool := fun _ ds => decide (uptoBulkAll ds ≤ 1048576)
def OpenSpec.upto (s : _root_.Go.ChangeSpec) : _root_.Go.OpenSpec := { _root_.Go.OpenSpec.ofChange s with cond := some uptoSmall }

/-- 'catenarylaw11.AcceptBest', WHERE WHAT IT READS IS OF BULK AT MOST 1048576: true; the input reads as it did. -/
def acceptBestUptoRow : OpenClaim := { program := "ytpdkmalfojeghaa", sum := "1d5a4ca220f8e11095f04f547de09ce4295865962741e585ce80ee96f9084caa", func := "catenary/catenarylaw11.AcceptBest", spec := "acceptBest", unfollowed := true, recurses := true, apart := false, narrowed := true }
def AcceptBestUptoSaid : Prop := acceptBestUptoRow.holds Try.pinned (OpenSpec.upto acceptBestSpec)

/-- 'catenarylaw17.UpdateLists', WHERE WHAT IT READS IS OF BULK AT MOST 1048576: true; the input reads as it did. -/
def updateListsUptoRow : OpenClaim := { program := "ytpdkmalfojeghaa", sum := "1d5a4ca220f8e11095f04f547de09ce4295865962741e585ce80ee96f9084caa", func := "catenary/catenarylaw17.UpdateLists", spec := "updateLists", unfollowed := true, recurses := true, apart := false, narrowed := true }
def UpdateListsUptoSaid : Prop := updateListsUptoRow.holds Try.pinned (OpenSpec.upto updateListsSpec)

/-- 'catenarylaw17.UpdateFits', WHERE WHAT IT READS IS OF BULK AT MOST 1048576: true; the input reads as it did. -/
def updateFitsUptoRow : OpenClaim := { program := "ytpdkmalfojeghaa", sum := "1d5a4ca220f8e11095f04f547de09ce4295865962741e585ce80ee96f9084caa", func := "catenary/catenarylaw17.UpdateFits", spec := "updateFits", unfollowed := true, recurses := true, apart := false, narrowed := true }
def UpdateFitsUptoSaid : Prop := updateFitsUptoRow.holds Try.pinned (OpenSpec.upto updateFitsSpec)

end Rows
end Go.Proofs.Ytpdkmalfojeghaa
