/-
  No cell of these rows narrows 'for every input' (looked for: loops, veiled, ifaces, maps, wideKeys, modest, calm, conditions, laid).
  DERIVED. THE GIVEN ROWS OF THIS SEAT. 5 by the template 'for every input the law returns true; each argument reads behind the call as it read before'; 0 by the template 'total and deterministic' (their statements: YtiifkcjngajegaaTotals.lean).
  GIVEN WITH THE SEED: the statements are not yours to turn. If you find one false, say at which input.
  Laid BY PROGRAM, IN A SANDBOX (cutbox-rows.mjs): the forced cells as the released guide's own fill.sh prints them over the translation dd3cb958e372516e… (all of the seat's roots in one cut). By AI agents, Wed Nov 11 2026. No macro, syntax, notation, axiom, sorry.
-/
import Derived.Test.YtiifkcjngajegaaChecked
import GoSem.Claim
import GoSem.ClaimJoined
import GoSem.ClaimMapViews
import Derived.JoinedTies
import Derived.KernelRfl
namespace Go.Proofs.Ytiifkcjngajegaa
/- THE CELL 'sum', in the pinned program and in every row, IS THE sha256 OF THE DUMP (.gsa) THAT YtiifkcjngajegaaProg.lean LOADS. Nothing in Lean hashes anything: it is a label: what it is worth is what the hold of that sum in a sandbox is worth. -/
noncomputable def Try.pinned : Pinned := { name := "ytiifkcjngajegaa", sum := "dd3cb958e372516e3372e3a35690a8c13fee1909deabab80f8660a65378a52f6", checked := Try.checked }
namespace Rows
def none {H : Type} : Left H := { results := [], args := [] }

/-- 'catenarylaw28.InodeGets': WHATEVER THE INPUT: true; the input reads as it did. -/
def inodeGetsSpec : ChangeSpec := { name := "inodeGets", fn := fun _ => fun
  | [d] => { results := [.lit (.bool true)], args := [d] }
  | _ => none }
def inodeGetsRow : OpenClaim := { program := "ytiifkcjngajegaa", sum := "dd3cb958e372516e3372e3a35690a8c13fee1909deabab80f8660a65378a52f6", func := "catenary/catenarylaw28.InodeGets", spec := "inodeGets", unfollowed := true, recurses := true, apart := false }
def InodeGetsSaid : Prop := inodeGetsRow.holds Try.pinned (OpenSpec.ofChange inodeGetsSpec)

/-- ITS FALSE NEIGHBOUR: 'it returns false'. Refute it at one input. -/
def inodeGetsWrong : ChangeSpec := { name := "inodeGets", fn := fun _ => fun
  | [d] => { results := [.lit (.bool false)], args := [d] }
  | _ => none }
def InodeGetsWrongFalsely : Prop := inodeGetsRow.holds Try.pinned (OpenSpec.ofChange inodeGetsWrong)

/-- 'catenarylaw30.VolKeys': WHATEVER THE INPUT: true; the input reads as it did. -/
def volKeysSpec : ChangeSpec := { name := "volKeys", fn := fun _ => fun
  | [d1, d2, d3] => { results := [.lit (.bool true)], args := [d1, d2, d3] }
  | _ => none }
def volKeysRow : OpenClaim := { program := "ytiifkcjngajegaa", sum := "dd3cb958e372516e3372e3a35690a8c13fee1909deabab80f8660a65378a52f6", func := "catenary/catenarylaw30.VolKeys", spec := "volKeys", apart := false }
def VolKeysSaid : Prop := volKeysRow.holds Try.pinned (OpenSpec.ofChange volKeysSpec)

/-- ITS FALSE NEIGHBOUR: 'it returns false'. Refute it at one input. -/
def volKeysWrong : ChangeSpec := { name := "volKeys", fn := fun _ => fun
  | [d1, d2, d3] => { results := [.lit (.bool false)], args := [d1, d2, d3] }
  | _ => none }
def VolKeysWrongFalsely : Prop := volKeysRow.holds Try.pinned (OpenSpec.ofChange volKeysWrong)

/-- 'catenarylaw30.VolIntents': WHATEVER THE INPUT: true; the input reads as it did. -/
def volIntentsSpec : ChangeSpec := { name := "volIntents", fn := fun _ => fun
  | [d1, d2] => { results := [.lit (.bool true)], args := [d1, d2] }
  | _ => none }
def volIntentsRow : OpenClaim := { program := "ytiifkcjngajegaa", sum := "dd3cb958e372516e3372e3a35690a8c13fee1909deabab80f8660a65378a52f6", func := "catenary/catenarylaw30.VolIntents", spec := "volIntents", unfollowed := true, recurses := true, apart := false }
def VolIntentsSaid : Prop := volIntentsRow.holds Try.pinned (OpenSpec.ofChange volIntentsSpec)

/-- ITS FALSE NEIGHBOUR: 'it returns false'. Refute it at one input. -/
def volIntentsWrong : ChangeSpec := { name := "volIntents", fn := fun _ => fun
  | [d1, d2] => { results := [.lit (.bool false)], args := [d1, d2] }
  | _ => none }
def VolIntentsWrongFalsely : Prop := volIntentsRow.holds Try.pinned (OpenSpec.ofChange volIntentsWrong)

/-- 'catenarylaw30.VolGets': WHATEVER THE INPUT: true; the input reads as it did. -/
def volGetsSpec : ChangeSpec := { name := "volGets", fn := fun _ => fun
  | [d1, d2] => { results := [.lit (.bool true)], args := [d1, d2] }
  | _ => none }
def volGetsRow : OpenClaim := { program := "ytiifkcjngajegaa", sum := "dd3cb958e372516e3372e3a35690a8c13fee1909deabab80f8660a65378a52f6", func := "catenary/catenarylaw30.VolGets", spec := "volGets", apart := false }
def VolGetsSaid : Prop := volGetsRow.holds Try.pinned (OpenSpec.ofChange volGetsSpec)

/-- ITS FALSE NEIGHBOUR: 'it returns false'. Refute it at one input. -/
def volGetsWrong : ChangeSpec := { name := "volGets", fn := fun _ => fun
  | [d1, d2] => { results := [.lit (.bool false)], args := [d1, d2] }
  | _ => none }
def VolGetsWrongFalsely : Prop := volGetsRow.holds Try.pinned (OpenSpec.ofChange volGetsWrong)

/-- 'catenarylaw30.VolValues': WHATEVER THE INPUT: true; the input reads as it did. -/
def volValuesSpec : ChangeSpec := { name := "volValues", fn := fun _ => fun
  | [d1, d2] => { results := [.lit (.bool true)], args := [d1, d2] }
  | _ => none }
def volValuesRow : OpenClaim := { program := "ytiifkcjngajegaa", sum := "dd3cb958e372516e3372e3a35690a8c13fee1909deabab80f8660a65378a52f6", func := "catenary/catenarylaw30.VolValues", spec := "volValues", unfollowed := true, recurses := true, apart := false }
def VolValuesSaid : Prop := volValuesRow.holds Try.pinned (OpenSpec.ofChange volValuesSpec)

/-- ITS FALSE NEIGHBOUR: 'it returns false'. Refute it at one input. -/
def volValuesWrong : ChangeSpec := { name := "volValues", fn := fun _ => fun
  | [d1, d2] => { results := [.lit (.bool false)], args := [d1, d2] }
  | _ => none }
def VolValuesWrongFalsely : Prop := volValuesRow.holds Try.pinned (OpenSpec.ofChange volValuesWrong)

/- THE SECOND FORM. 'bulk': how many values and letters a reading holds, each counted each time it is reached (what is shared counts as often as it is met; a slice's spare places count too). A statement '..UptoSaid' is the law's where the arguments, and the package variables that the reading takes, are together of bulk at most 1048576: NARROWER than '..Said'. Prove '..Said' where nothing that the law and all that it calls make is longer than what came in: it says more and counts as full. Else prove '..UptoSaid'. A law counts once. -/
mutual
def uptoBulk {H : Type} : DataW H → Nat
  | .lit (.string bytes) => bytes.length + 1
  | .lit _ => 1
  | .nil => 1
  | .ptr d => uptoBulk d + 1
  | .slice elems spare => uptoBulkAll elems + uptoBulkAll spare + 1
  | .agg parts => uptoBulkAll parts + 1
  | .iface _ d => uptoBulk d + 1
  | .map entries => uptoBulkEntries entries + 1
  | .held _ => 1
def uptoBulkAll {H : Type} : List (DataW H) → Nat
  | [] => 0
  | d :: r => uptoBulk d + uptoBulkAll r
def uptoBulkEntries {H : Type} : List (Lit × DataW H) → Nat
  | [] => 0
  | x :: r => uptoBulkEntry x + uptoBulkEntries r
def uptoBulkEntry {H : Type} : Lit × DataW H → Nat
  | (.string bytes, d) => bytes.length + uptoBulk d + 1
  | (_, d) => uptoBulk d + 1
 end
def uptoSmall : (H : Type) → List (DataW H) → Bool := fun _ ds => decide (uptoBulkAll ds ≤ 1048576)
def OpenSpec.upto (s : _root_.Go.ChangeSpec) : _root_.Go.OpenSpec := { _root_.Go.OpenSpec.ofChange s with cond := some uptoSmall }

/-- 'catenarylaw28.InodeGets', WHERE WHAT IT READS IS OF BULK AT MOST 1048576: true; the input reads as it did. -/
def inodeGetsUptoRow : OpenClaim := { program := "ytiifkcjngajegaa", sum := "dd3cb958e372516e3372e3a35690a8c13fee1909deabab80f8660a65378a52f6", func := "catenary/catenarylaw28.InodeGets", spec := "inodeGets", unfollowed := true, recurses := true, apart := false, narrowed := true }
def InodeGetsUptoSaid : Prop := inodeGetsUptoRow.holds Try.pinned (OpenSpec.upto inodeGetsSpec)

/-- 'catenarylaw30.VolKeys', WHERE WHAT IT READS IS OF BULK AT MOST 1048576: true; the input reads as it did. -/
def volKeysUptoRow : OpenClaim := { program := "ytiifkcjngajegaa", sum := "dd3cb958e372516e3372e3a35690a8c13fee1909deabab80f8660a65378a52f6", func := "catenary/catenarylaw30.VolKeys", spec := "volKeys", apart := false, narrowed := true }
def VolKeysUptoSaid : Prop := volKeysUptoRow.holds Try.pinned (OpenSpec.upto volKeysSpec)

/-- 'catenarylaw30.VolIntents', WHERE WHAT IT READS IS OF BULK AT MOST 1048576: true; the input reads as it did. -/
def volIntentsUptoRow : OpenClaim := { program := "ytiifkcjngajegaa", sum := "dd3cb958e372516e3372e3a35690a8c13fee1909deabab80f8660a65378a52f6", func := "catenary/catenarylaw30.VolIntents", spec := "volIntents", unfollowed := true, recurses := true, apart := false, narrowed := true }
def VolIntentsUptoSaid : Prop := volIntentsUptoRow.holds Try.pinned (OpenSpec.upto volIntentsSpec)

/-- 'catenarylaw30.VolGets', WHERE WHAT IT READS IS OF BULK AT MOST 1048576: true; the input reads as it did. -/
def volGetsUptoRow : OpenClaim := { program := "ytiifkcjngajegaa", sum := "dd3cb958e372516e3372e3a35690a8c13fee1909deabab80f8660a65378a52f6", func := "catenary/catenarylaw30.VolGets", spec := "volGets", apart := false, narrowed := true }
def VolGetsUptoSaid : Prop := volGetsUptoRow.holds Try.pinned (OpenSpec.upto volGetsSpec)

/-- 'catenarylaw30.VolValues', WHERE WHAT IT READS IS OF BULK AT MOST 1048576: true; the input reads as it did. -/
def volValuesUptoRow : OpenClaim := { program := "ytiifkcjngajegaa", sum := "dd3cb958e372516e3372e3a35690a8c13fee1909deabab80f8660a65378a52f6", func := "catenary/catenarylaw30.VolValues", spec := "volValues", unfollowed := true, recurses := true, apart := false, narrowed := true }
def VolValuesUptoSaid : Prop := volValuesUptoRow.holds Try.pinned (OpenSpec.upto volValuesSpec)

end Rows
end Go.Proofs.Ytiifkcjngajegaa
