/-
  No cell of these rows narrows 'for every input' (looked for: loops, veiled, ifaces, maps, wideKeys, modest, calm, conditions, laid).
  DERIVED. THE GIVEN ROWS OF THIS SEAT. 9 by the template 'for every input the law returns true; each argument reads behind the call as it read before'; 0 by the template 'total and deterministic' (their statements: YtbacnkndllifaaaTotals.lean).
  GIVEN WITH THE SEED: the statements are not yours to turn. If you find one false, say at which input.
  Laid BY PROGRAM, IN A SANDBOX (cutbox-rows.mjs): the forced cells as the released guide's own fill.sh prints them over the translation cd4689fe56737a2c… (all of the seat's roots in one cut). By AI agents, Wed Nov 11 2026. No macro, syntax, notation, axiom, sorry.
-/
import Derived.Test.YtbacnkndllifaaaChecked
import GoSem.Claim
import GoSem.ClaimJoined
import GoSem.ClaimMapViews
import Derived.JoinedTies
import Derived.KernelRfl
namespace Go.Proofs.Ytbacnkndllifaaa
/- THE CELL 'sum', in the pinned program and in every row, IS THE sha256 OF THE DUMP (.gsa) THAT YtbacnkndllifaaaProg.lean LOADS. Nothing in Lean hashes anything: it is a label: what it is worth is what the hold of that sum in a sandbox is worth. -/
noncomputable def Try.pinned : Pinned := { name := "ytbacnkndllifaaa", sum := "cd4689fe56737a2c2364f0a37b55d2e66cae9a3dcdb73f414dee7b965bc099a4", checked := Try.checked }
namespace Rows
def none {H : Type} : Left H := { results := [], args := [] }

/-- 'catenarylaw27.BitsAre': WHATEVER THE INPUT: true; the input reads as it did. -/
def bitsAreSpec : ChangeSpec := { name := "bitsAre", fn := fun _ => fun
  | [d1, d2, d3] => { results := [.lit (.bool true)], args := [d1, d2, d3] }
  | _ => none }
def bitsAreRow : OpenClaim := { program := "ytbacnkndllifaaa", sum := "cd4689fe56737a2c2364f0a37b55d2e66cae9a3dcdb73f414dee7b965bc099a4", func := "catenary/catenarylaw27.BitsAre", spec := "bitsAre", apart := false }
def BitsAreSaid : Prop := bitsAreRow.holds Try.pinned (OpenSpec.ofChange bitsAreSpec)

/-- ITS FALSE NEIGHBOUR: 'it returns false'. Refute it at one input. -/
def bitsAreWrong : ChangeSpec := { name := "bitsAre", fn := fun _ => fun
  | [d1, d2, d3] => { results := [.lit (.bool false)], args := [d1, d2, d3] }
  | _ => none }
def BitsAreWrongFalsely : Prop := bitsAreRow.holds Try.pinned (OpenSpec.ofChange bitsAreWrong)

/-- 'catenarylaw27.BitsTakes': WHATEVER THE INPUT: true; the input reads as it did. -/
def bitsTakesSpec : ChangeSpec := { name := "bitsTakes", fn := fun _ => fun
  | [d1, d2, d3] => { results := [.lit (.bool true)], args := [d1, d2, d3] }
  | _ => none }
def bitsTakesRow : OpenClaim := { program := "ytbacnkndllifaaa", sum := "cd4689fe56737a2c2364f0a37b55d2e66cae9a3dcdb73f414dee7b965bc099a4", func := "catenary/catenarylaw27.BitsTakes", spec := "bitsTakes", apart := false }
def BitsTakesSaid : Prop := bitsTakesRow.holds Try.pinned (OpenSpec.ofChange bitsTakesSpec)

/-- ITS FALSE NEIGHBOUR: 'it returns false'. Refute it at one input. -/
def bitsTakesWrong : ChangeSpec := { name := "bitsTakes", fn := fun _ => fun
  | [d1, d2, d3] => { results := [.lit (.bool false)], args := [d1, d2, d3] }
  | _ => none }
def BitsTakesWrongFalsely : Prop := bitsTakesRow.holds Try.pinned (OpenSpec.ofChange bitsTakesWrong)

/-- 'catenarylaw27.BitsBack': WHATEVER THE INPUT: true; the input reads as it did. -/
def bitsBackSpec : ChangeSpec := { name := "bitsBack", fn := fun _ => fun
  | [d1, d2, d3] => { results := [.lit (.bool true)], args := [d1, d2, d3] }
  | _ => none }
def bitsBackRow : OpenClaim := { program := "ytbacnkndllifaaa", sum := "cd4689fe56737a2c2364f0a37b55d2e66cae9a3dcdb73f414dee7b965bc099a4", func := "catenary/catenarylaw27.BitsBack", spec := "bitsBack", apart := false }
def BitsBackSaid : Prop := bitsBackRow.holds Try.pinned (OpenSpec.ofChange bitsBackSpec)

/-- ITS FALSE NEIGHBOUR: 'it returns false'. Refute it at one input. -/
def bitsBackWrong : ChangeSpec := { name := "bitsBack", fn := fun _ => fun
  | [d1, d2, d3] => { results := [.lit (.bool false)], args := [d1, d2, d3] }
  | _ => none }
def BitsBackWrongFalsely : Prop := bitsBackRow.holds Try.pinned (OpenSpec.ofChange bitsBackWrong)

/-- 'catenarylaw27.BitsAll': WHATEVER THE INPUT: true; the input reads as it did. -/
def bitsAllSpec : ChangeSpec := { name := "bitsAll", fn := fun _ => fun
  | [d1, d2] => { results := [.lit (.bool true)], args := [d1, d2] }
  | _ => none }
def bitsAllRow : OpenClaim := { program := "ytbacnkndllifaaa", sum := "cd4689fe56737a2c2364f0a37b55d2e66cae9a3dcdb73f414dee7b965bc099a4", func := "catenary/catenarylaw27.BitsAll", spec := "bitsAll", apart := false }
def BitsAllSaid : Prop := bitsAllRow.holds Try.pinned (OpenSpec.ofChange bitsAllSpec)

/-- ITS FALSE NEIGHBOUR: 'it returns false'. Refute it at one input. -/
def bitsAllWrong : ChangeSpec := { name := "bitsAll", fn := fun _ => fun
  | [d1, d2] => { results := [.lit (.bool false)], args := [d1, d2] }
  | _ => none }
def BitsAllWrongFalsely : Prop := bitsAllRow.holds Try.pinned (OpenSpec.ofChange bitsAllWrong)

/-- 'catenarylaw28.InodeChecks': WHATEVER THE INPUT: true; the input reads as it did. -/
def inodeChecksSpec : ChangeSpec := { name := "inodeChecks", fn := fun _ => fun
  | [d1, d2] => { results := [.lit (.bool true)], args := [d1, d2] }
  | _ => none }
def inodeChecksRow : OpenClaim := { program := "ytbacnkndllifaaa", sum := "cd4689fe56737a2c2364f0a37b55d2e66cae9a3dcdb73f414dee7b965bc099a4", func := "catenary/catenarylaw28.InodeChecks", spec := "inodeChecks", unfollowed := true, recurses := true, apart := false }
def InodeChecksSaid : Prop := inodeChecksRow.holds Try.pinned (OpenSpec.ofChange inodeChecksSpec)

/-- ITS FALSE NEIGHBOUR: 'it returns false'. Refute it at one input. -/
def inodeChecksWrong : ChangeSpec := { name := "inodeChecks", fn := fun _ => fun
  | [d1, d2] => { results := [.lit (.bool false)], args := [d1, d2] }
  | _ => none }
def InodeChecksWrongFalsely : Prop := inodeChecksRow.holds Try.pinned (OpenSpec.ofChange inodeChecksWrong)

/-- 'catenarylaw28.InodeGets': WHATEVER THE INPUT: true; the input reads as it did. -/
def inodeGetsSpec : ChangeSpec := { name := "inodeGets", fn := fun _ => fun
  | [d] => { results := [.lit (.bool true)], args := [d] }
  | _ => none }
def inodeGetsRow : OpenClaim := { program := "ytbacnkndllifaaa", sum := "cd4689fe56737a2c2364f0a37b55d2e66cae9a3dcdb73f414dee7b965bc099a4", func := "catenary/catenarylaw28.InodeGets", spec := "inodeGets", unfollowed := true, recurses := true, apart := false }
def InodeGetsSaid : Prop := inodeGetsRow.holds Try.pinned (OpenSpec.ofChange inodeGetsSpec)

/-- ITS FALSE NEIGHBOUR: 'it returns false'. Refute it at one input. -/
def inodeGetsWrong : ChangeSpec := { name := "inodeGets", fn := fun _ => fun
  | [d] => { results := [.lit (.bool false)], args := [d] }
  | _ => none }
def InodeGetsWrongFalsely : Prop := inodeGetsRow.holds Try.pinned (OpenSpec.ofChange inodeGetsWrong)

/-- 'catenarylaw28.InodeMakes': WHATEVER THE INPUT: true; the input reads as it did. -/
def inodeMakesSpec : ChangeSpec := { name := "inodeMakes", fn := fun _ => fun
  | [d1, d2, d3] => { results := [.lit (.bool true)], args := [d1, d2, d3] }
  | _ => none }
def inodeMakesRow : OpenClaim := { program := "ytbacnkndllifaaa", sum := "cd4689fe56737a2c2364f0a37b55d2e66cae9a3dcdb73f414dee7b965bc099a4", func := "catenary/catenarylaw28.InodeMakes", spec := "inodeMakes", unfollowed := true, recurses := true, apart := false }
def InodeMakesSaid : Prop := inodeMakesRow.holds Try.pinned (OpenSpec.ofChange inodeMakesSpec)

/-- ITS FALSE NEIGHBOUR: 'it returns false'. Refute it at one input. -/
def inodeMakesWrong : ChangeSpec := { name := "inodeMakes", fn := fun _ => fun
  | [d1, d2, d3] => { results := [.lit (.bool false)], args := [d1, d2, d3] }
  | _ => none }
def InodeMakesWrongFalsely : Prop := inodeMakesRow.holds Try.pinned (OpenSpec.ofChange inodeMakesWrong)

/-- 'catenarylaw28.InodeTurns': WHATEVER THE INPUT: true; the input reads as it did. -/
def inodeTurnsSpec : ChangeSpec := { name := "inodeTurns", fn := fun _ => fun
  | [d1, d2, d3] => { results := [.lit (.bool true)], args := [d1, d2, d3] }
  | _ => none }
def inodeTurnsRow : OpenClaim := { program := "ytbacnkndllifaaa", sum := "cd4689fe56737a2c2364f0a37b55d2e66cae9a3dcdb73f414dee7b965bc099a4", func := "catenary/catenarylaw28.InodeTurns", spec := "inodeTurns", unfollowed := true, recurses := true, apart := false }
def InodeTurnsSaid : Prop := inodeTurnsRow.holds Try.pinned (OpenSpec.ofChange inodeTurnsSpec)

/-- ITS FALSE NEIGHBOUR: 'it returns false'. Refute it at one input. -/
def inodeTurnsWrong : ChangeSpec := { name := "inodeTurns", fn := fun _ => fun
  | [d1, d2, d3] => { results := [.lit (.bool false)], args := [d1, d2, d3] }
  | _ => none }
def InodeTurnsWrongFalsely : Prop := inodeTurnsRow.holds Try.pinned (OpenSpec.ofChange inodeTurnsWrong)

/-- 'catenarylaw28.InodeBack': WHATEVER THE INPUT: true; the input reads as it did. -/
def inodeBackSpec : ChangeSpec := { name := "inodeBack", fn := fun _ => fun
  | [d1, d2, d3] => { results := [.lit (.bool true)], args := [d1, d2, d3] }
  | _ => none }
def inodeBackRow : OpenClaim := { program := "ytbacnkndllifaaa", sum := "cd4689fe56737a2c2364f0a37b55d2e66cae9a3dcdb73f414dee7b965bc099a4", func := "catenary/catenarylaw28.InodeBack", spec := "inodeBack", unfollowed := true, recurses := true, apart := false }
def InodeBackSaid : Prop := inodeBackRow.holds Try.pinned (OpenSpec.ofChange inodeBackSpec)

/-- ITS FALSE NEIGHBOUR: 'it returns false'. Refute it at one input. -/
def inodeBackWrong : ChangeSpec := { name := "inodeBack", fn := fun _ => fun
  | [d1, d2, d3] => { results := [.lit (.bool false)], args := [d1, d2, d3] }
  | _ => none }
def InodeBackWrongFalsely : Prop := inodeBackRow.holds Try.pinned (OpenSpec.ofChange inodeBackWrong)

/- THE SECOND FORM. 'bulk': how many values and letters a reading holds, each counted each time it is reached (what is shared counts as often as it is met; a slice's spare places count too). A statement '..UptoSaid' is the law's where the arguments, and the package variables that the reading takes, are together of bulk at most 1048576: NARROWER than '..Said'. Prove '..Said' where nothing that the law and all that it calls make is longer than what came in: it says more and counts as full. Else prove '..UptoSaid'. A law counts once. -/
mutual
def uptoBulk {H : Type} : DataW H → Nat
  | .lit (.string bytes) => bytes.length + 1
  | .lit _ => 1
  | .nil => 1
  | .ptr d => uptoBulk d + 1
  | .slice elems spare => uptoBulkAll elems + uptoBulkAll spare + 1
  | .agg parts => uptoBulkAll parts + 1
  | .iface _ d => uptoBulk d + 1
  | .map entries => uptoBulkEntries entries + 1
  | .held _ => 1
def uptoBulkAll {H : Type} : List (DataW H) → Nat
  | [] => 0
  | d :: r => uptoBulk d + uptoBulkAll r
def uptoBulkEntries {H : Type} : List (Lit × DataW H) → Nat
  | [] => 0
  | x :: r => uptoBulkEntry x + uptoBulkEntries r
def uptoBulkEntry {H : Type} : Lit × DataW H → Nat
  | (.string bytes, d) => bytes.length + uptoBulk d + 1
  | (_, d) => uptoBulk d + 1
 end
def uptoSmall : (H : Type) → List (DataW H) → Bool := fun _ ds => decide (uptoBulkAll ds ≤ 1048576)
def OpenSpec.upto (s : _root_.Go.ChangeSpec) : _root_.Go.OpenSpec := { _root_.Go.OpenSpec.ofChange s with cond := some uptoSmall }

/-- 'catenarylaw27.BitsAre', WHERE WHAT IT READS IS OF BULK AT MOST 1048576: true; the input reads as it did. -/
def bitsAreUptoRow : OpenClaim := { program := "ytbacnkndllifaaa", sum := "cd4689fe56737a2c2364f0a37b55d2e66cae9a3dcdb73f414dee7b965bc099a4", func := "catenary/catenarylaw27.BitsAre", spec := "bitsAre", apart := false, narrowed := true }
def BitsAreUptoSaid : Prop := bitsAreUptoRow.holds Try.pinned (OpenSpec.upto bitsAreSpec)

/-- 'catenarylaw27.BitsTakes', WHERE WHAT IT READS IS OF BULK AT MOST 1048576: true; the input reads as it did. -/
def bitsTakesUptoRow : OpenClaim := { program := "ytbacnkndllifaaa", sum := "cd4689fe56737a2c2364f0a37b55d2e66cae9a3dcdb73f414dee7b965bc099a4", func := "catenary/catenarylaw27.BitsTakes", spec := "bitsTakes", apart := false, narrowed := true }
def BitsTakesUptoSaid : Prop := bitsTakesUptoRow.holds Try.pinned (OpenSpec.upto bitsTakesSpec)

/-- 'catenarylaw27.BitsBack', WHERE WHAT IT READS IS OF BULK AT MOST 1048576: true; the input reads as it did. -/
def bitsBackUptoRow : OpenClaim := { program := "ytbacnkndllifaaa", sum := "cd4689fe56737a2c2364f0a37b55d2e66cae9a3dcdb73f414dee7b965bc099a4", func := "catenary/catenarylaw27.BitsBack", spec := "bitsBack", apart := false, narrowed := true }
def BitsBackUptoSaid : Prop := bitsBackUptoRow.holds Try.pinned (OpenSpec.upto bitsBackSpec)

/-- 'catenarylaw27.BitsAll', WHERE WHAT IT READS IS OF BULK AT MOST 1048576: true; the input reads as it did. -/
def bitsAllUptoRow : OpenClaim := { program := "ytbacnkndllifaaa", sum := "cd4689fe56737a2c2364f0a37b55d2e66cae9a3dcdb73f414dee7b965bc099a4", func := "catenary/catenarylaw27.BitsAll", spec := "bitsAll", apart := false, narrowed := true }
def BitsAllUptoSaid : Prop := bitsAllUptoRow.holds Try.pinned (OpenSpec.upto bitsAllSpec)

/-- 'catenarylaw28.InodeChecks', WHERE WHAT IT READS IS OF BULK AT MOST 1048576: true; the input reads as it did. -/
def inodeChecksUptoRow : OpenClaim := { program := "ytbacnkndllifaaa", sum := "cd4689fe56737a2c2364f0a37b55d2e66cae9a3dcdb73f414dee7b965bc099a4", func := "catenary/catenarylaw28.InodeChecks", spec := "inodeChecks", unfollowed := true, recurses := true, apart := false, narrowed := true }
def InodeChecksUptoSaid : Prop := inodeChecksUptoRow.holds Try.pinned (OpenSpec.upto inodeChecksSpec)

/-- 'catenarylaw28.InodeGets', WHERE WHAT IT READS IS OF BULK AT MOST 1048576: true; the input reads as it did. -/
def inodeGetsUptoRow : OpenClaim := { program := "ytbacnkndllifaaa", sum := "cd4689fe56737a2c2364f0a37b55d2e66cae9a3dcdb73f414dee7b965bc099a4", func := "catenary/catenarylaw28.InodeGets", spec := "inodeGets", unfollowed := true, recurses := true, apart := false, narrowed := true }
def InodeGetsUptoSaid : Prop := inodeGetsUptoRow.holds Try.pinned (OpenSpec.upto inodeGetsSpec)

/-- 'catenarylaw28.InodeMakes', WHERE WHAT IT READS IS OF BULK AT MOST 1048576: true; the input reads as it did. -/
def inodeMakesUptoRow : OpenClaim := { program := "ytbacnkndllifaaa", sum := "cd4689fe56737a2c2364f0a37b55d2e66cae9a3dcdb73f414dee7b965bc099a4", func := "catenary/catenarylaw28.InodeMakes", spec := "inodeMakes", unfollowed := true, recurses := true, apart := false, narrowed := true }
def InodeMakesUptoSaid : Prop := inodeMakesUptoRow.holds Try.pinned (OpenSpec.upto inodeMakesSpec)

/-- 'catenarylaw28.InodeTurns', WHERE WHAT IT READS IS OF BULK AT MOST 1048576: true; the input reads as it did. -/
def inodeTurnsUptoRow : OpenClaim := { program := "ytbacnkndllifaaa", sum := "cd4689fe56737a2c2364f0a37b55d2e66cae9a3dcdb73f414dee7b965bc099a4", func := "catenary/catenarylaw28.InodeTurns", spec := "inodeTurns", unfollowed := true, recurses := true, apart := false, narrowed := true }
def InodeTurnsUptoSaid : Prop := inodeTurnsUptoRow.holds Try.pinned (OpenSpec.upto inodeTurnsSpec)

/-- 'catenarylaw28.InodeBack', WHERE WHAT IT READS IS OF BULK AT MOST 1048576: true; the input reads as it did. -/
def inodeBackUptoRow : OpenClaim := { program := "ytbacnkndllifaaa", sum := "cd4689fe56737a2c2364f0a37b55d2e66cae9a3dcdb73f414dee7b965bc099a4", func := "catenary/catenarylaw28.InodeBack", spec := "inodeBack", unfollowed := true, recurses := true, apart := false, narrowed := true }
def InodeBackUptoSaid : Prop := inodeBackUptoRow.holds Try.pinned (OpenSpec.upto inodeBackSpec)

end Rows
end Go.Proofs.Ytbacnkndllifaaa
