/-
  NARROWER THAN 'FOR EVERY INPUT', by the rows' own cells (each row's printed sentence says how): CraqAnswers: laid · ReplicaNil: laid · ServerFences: laid · ServerNil: laid.
  DERIVED. THE GIVEN ROWS OF THIS SEAT. 4 by the template 'for every input the law returns true; each argument reads behind the call as it read before'; 0 by the template 'total and deterministic' (their statements: YtabmipjpgofgpaaGreatDoorTotals.lean).
  GIVEN WITH THE SEED: the statements are not yours to turn. If you find one false, say at which input.
  Laid BY PROGRAM, IN A SANDBOX (cutbox-rows.mjs): the forced cells as the released guide's own fill.sh prints them over the translation ad3033c9776c1c56… (all of the seat's roots in one cut). By AI agents, Wed Nov 11 2026. No macro, syntax, notation, axiom, sorry.
-/
import Derived.Test.YtabmipjpgofgpaaGreatDoorChecked
import GoSem.Claim
import GoSem.ClaimJoined
import GoSem.ClaimMapViews
import Derived.JoinedTies
import Derived.KernelRfl
namespace Go.Proofs.YtabmipjpgofgpaaGreatDoor
/- THE CELL 'sum', in the pinned program and in every row, IS THE sha256 OF THE DUMP (.gsa) THAT YtabmipjpgofgpaaGreatDoorProg.lean LOADS. Nothing in Lean hashes anything: it is a label: what it is worth is what the hold of that sum in a sandbox is worth. -/
noncomputable def Tryz.pinned : Pinned := { name := "ytabmipjpgofgpaagreatdoor", sum := "ad3033c9776c1c569e625f6098ae8be016898be61e9499edf18f5e22760202c9", checked := Tryz.checked }
namespace Rows
def none {H : Type} : Left H := { results := [], args := [] }

/- WHAT THE LISTED PACKAGE-LEVEL VARIABLES READ AS WHEN THE CALL BEGINS. Each datum BY PROGRAM (the guide's laid-datum.mjs) off the statement by which the dump's own 'gosem.cut.vars' lays the variable. In a bare row this is a premise. The card (YtabmipjpgofgpaaGreatDoorCards.lean) ties it to the program's text. -/
def laid_catenary_letter_kindParts {H : Type} : DataW H := .agg [.lit (.int .u32 0), .lit (.int .u32 33), .lit (.int .u32 8225), .lit (.int .u32 2081), .lit (.int .u32 33), .lit (.int .u32 2080), .lit (.int .u32 33), .lit (.int .u32 32), .lit (.int .u32 1), .lit (.int .u32 2048), .lit (.int .u32 2), .lit (.int .u32 4096), .lit (.int .u32 16414), .lit (.int .u32 222), .lit (.int .u32 65646), .lit (.int .u32 326), .lit (.int .u32 1350), .lit (.int .u32 32774), .lit (.int .u32 1600), .lit (.int .u32 326), .lit (.int .u32 132416)]

/-- 'catenarylaw22.CraqAnswers': WHATEVER THE INPUT: true; the input reads as it did. -/
def craqAnswersSpec : ChangeSpec := { name := "craqAnswers", fn := fun _ => fun
  | [d1, d2, d3] => { results := [.lit (.bool true)], args := [d1, d2, d3] }
  | _ => none }
def craqAnswersRow : OpenClaim := { program := "ytabmipjpgofgpaagreatdoor", sum := "ad3033c9776c1c569e625f6098ae8be016898be61e9499edf18f5e22760202c9", func := "catenary/catenarylaw22.CraqAnswers", spec := "craqAnswers", unfollowed := true, recurses := true, named := ["catenary/letter.kindParts"], apart := false, laid := [("catenary/letter.kindParts", laid_catenary_letter_kindParts)] }
def CraqAnswersSaid : Prop := craqAnswersRow.holds Tryz.pinned (OpenSpec.ofChange craqAnswersSpec)

/-- ITS FALSE NEIGHBOUR: 'it returns false'. Refute it at one input. -/
def craqAnswersWrong : ChangeSpec := { name := "craqAnswers", fn := fun _ => fun
  | [d1, d2, d3] => { results := [.lit (.bool false)], args := [d1, d2, d3] }
  | _ => none }
def CraqAnswersWrongFalsely : Prop := craqAnswersRow.holds Tryz.pinned (OpenSpec.ofChange craqAnswersWrong)

/-- 'catenarylaw23.ReplicaNil': WHATEVER THE INPUT: true; the input reads as it did. -/
def replicaNilSpec : ChangeSpec := { name := "replicaNil", fn := fun _ => fun
  | [d1, d2] => { results := [.lit (.bool true)], args := [d1, d2] }
  | _ => none }
def replicaNilRow : OpenClaim := { program := "ytabmipjpgofgpaagreatdoor", sum := "ad3033c9776c1c569e625f6098ae8be016898be61e9499edf18f5e22760202c9", func := "catenary/catenarylaw23.ReplicaNil", spec := "replicaNil", unfollowed := true, recurses := true, named := ["catenary/letter.kindParts"], apart := false, laid := [("catenary/letter.kindParts", laid_catenary_letter_kindParts)] }
def ReplicaNilSaid : Prop := replicaNilRow.holds Tryz.pinned (OpenSpec.ofChange replicaNilSpec)

/-- ITS FALSE NEIGHBOUR: 'it returns false'. Refute it at one input. -/
def replicaNilWrong : ChangeSpec := { name := "replicaNil", fn := fun _ => fun
  | [d1, d2] => { results := [.lit (.bool false)], args := [d1, d2] }
  | _ => none }
def ReplicaNilWrongFalsely : Prop := replicaNilRow.holds Tryz.pinned (OpenSpec.ofChange replicaNilWrong)

/-- 'catenarylaw24.ServerFences': WHATEVER THE INPUT: true; the input reads as it did. -/
def serverFencesSpec : ChangeSpec := { name := "serverFences", fn := fun _ => fun
  | [d1, d2, d3] => { results := [.lit (.bool true)], args := [d1, d2, d3] }
  | _ => none }
def serverFencesRow : OpenClaim := { program := "ytabmipjpgofgpaagreatdoor", sum := "ad3033c9776c1c569e625f6098ae8be016898be61e9499edf18f5e22760202c9", func := "catenary/catenarylaw24.ServerFences", spec := "serverFences", unfollowed := true, recurses := true, named := ["catenary/letter.kindParts"], apart := false, laid := [("catenary/letter.kindParts", laid_catenary_letter_kindParts)] }
def ServerFencesSaid : Prop := serverFencesRow.holds Tryz.pinned (OpenSpec.ofChange serverFencesSpec)

/-- ITS FALSE NEIGHBOUR: 'it returns false'. Refute it at one input. -/
def serverFencesWrong : ChangeSpec := { name := "serverFences", fn := fun _ => fun
  | [d1, d2, d3] => { results := [.lit (.bool false)], args := [d1, d2, d3] }
  | _ => none }
def ServerFencesWrongFalsely : Prop := serverFencesRow.holds Tryz.pinned (OpenSpec.ofChange serverFencesWrong)

/-- 'catenarylaw24.ServerNil': WHATEVER THE INPUT: true; the input reads as it did. -/
def serverNilSpec : ChangeSpec := { name := "serverNil", fn := fun _ => fun
  | [d1, d2] => { results := [.lit (.bool true)], args := [d1, d2] }
  | _ => none }
def serverNilRow : OpenClaim := { program := "ytabmipjpgofgpaagreatdoor", sum := "ad3033c9776c1c569e625f6098ae8be016898be61e9499edf18f5e22760202c9", func := "catenary/catenarylaw24.ServerNil", spec := "serverNil", unfollowed := true, recurses := true, named := ["catenary/letter.kindParts"], apart := false, laid := [("catenary/letter.kindParts", laid_catenary_letter_kindParts)] }
def ServerNilSaid : Prop := serverNilRow.holds Tryz.pinned (OpenSpec.ofChange serverNilSpec)

/-- ITS FALSE NEIGHBOUR: 'it returns false'. Refute it at one input. -/
def serverNilWrong : ChangeSpec := { name := "serverNil", fn := fun _ => fun
  | [d1, d2] => { results := [.lit (.bool false)], args := [d1, d2] }
  | _ => none }
def ServerNilWrongFalsely : Prop := serverNilRow.holds Tryz.pinned (OpenSpec.ofChange serverNilWrong)

/- THE SECOND FORM. 'bulk': how many values and letters a reading holds, each counted each time it is reached (what is shared counts as often as it is met; a slice's spare places count too). A statement '..UptoSaid' is the law's where the arguments, and the package variables that the reading takes, are together of bulk at most 1048576: NARROWER than '..Said'. Prove '..Said' where nothing that the law and all that it calls make is longer than what came in: it says more and counts as full. Else prove '..UptoSaid'. A law counts once. -/
mutual
def uptoBulk {H : Type} : DataW H → Nat
  | .lit (.string bytes) => bytes.length + 1
  | .lit _ => 1
  | .nil => 1
  | .ptr d => uptoBulk d + 1
  | .slice elems spare => uptoBulkAll elems + uptoBulkAll spare + 1
  | .agg parts => uptoBulkAll parts + 1
  | .iface _ d => uptoBulk d + 1
  | .map entries => uptoBulkEntries entries + 1
  | .held _ => 1
def uptoBulkAll {H : Type} : List (DataW H) → Nat
  | [] => 0
  | d :: r => uptoBulk d + uptoBulkAll r
def uptoBulkEntries {H : Type} : List (Lit × DataW H) → Nat
  | [] => 0
  | x :: r => uptoBulkEntry x + uptoBulkEntries r
def uptoBulkEntry {H : Type} : Lit × DataW H → Nat
  | (.string bytes, d) => bytes.length + uptoBulk d + 1
  | (_, d) => uptoBulk d + 1
 end
def uptoSmall : (H : Type) → List (DataW H) → Bool := fun _ ds => decide (uptoBulkAll ds ≤ 1048576)
def OpenSpec.upto (s : _root_.Go.ChangeSpec) : _root_.Go.OpenSpec := { _root_.Go.OpenSpec.ofChange s with cond := some uptoSmall }

/-- 'catenarylaw22.CraqAnswers', WHERE WHAT IT READS IS OF BULK AT MOST 1048576: true; the input reads as it did. -/
def craqAnswersUptoRow : OpenClaim := { program := "ytabmipjpgofgpaagreatdoor", sum := "ad3033c9776c1c569e625f6098ae8be016898be61e9499edf18f5e22760202c9", func := "catenary/catenarylaw22.CraqAnswers", spec := "craqAnswers", unfollowed := true, recurses := true, named := ["catenary/letter.kindParts"], apart := false, laid := [("catenary/letter.kindParts", laid_catenary_letter_kindParts)], narrowed := true }
def CraqAnswersUptoSaid : Prop := craqAnswersUptoRow.holds Tryz.pinned (OpenSpec.upto craqAnswersSpec)

/-- 'catenarylaw23.ReplicaNil', WHERE WHAT IT READS IS OF BULK AT MOST 1048576: true; the input reads as it did. -/
def replicaNilUptoRow : OpenClaim := { program := "ytabmipjpgofgpaagreatdoor", sum := "ad3033c9776c1c569e625f6098ae8be016898be61e9499edf18f5e22760202c9", func := "catenary/catenarylaw23.ReplicaNil", spec := "replicaNil", unfollowed := true, recurses := true, named := ["catenary/letter.kindParts"], apart := false, laid := [("catenary/letter.kindParts", laid_catenary_letter_kindParts)], narrowed := true }
def ReplicaNilUptoSaid : Prop := replicaNilUptoRow.holds Tryz.pinned (OpenSpec.upto replicaNilSpec)

/-- 'catenarylaw24.ServerFences', WHERE WHAT IT READS IS OF BULK AT MOST 1048576: true; the input reads as it did. -/
def serverFencesUptoRow : OpenClaim := { program := "ytabmipjpgofgpaagreatdoor", sum := "ad3033c9776c1c569e625f6098ae8be016898be61e9499edf18f5e22760202c9", func := "catenary/catenarylaw24.ServerFences", spec := "serverFences", unfollowed := true, recurses := true, named := ["catenary/letter.kindParts"], apart := false, laid := [("catenary/letter.kindParts", laid_catenary_letter_kindParts)], narrowed := true }
def ServerFencesUptoSaid : Prop := serverFencesUptoRow.holds Tryz.pinned (OpenSpec.upto serverFencesSpec)

/-- 'catenarylaw24.ServerNil', WHERE WHAT IT READS IS OF BULK AT MOST 1048576: true; the input reads as it did. -/
def serverNilUptoRow : OpenClaim := { program := "ytabmipjpgofgpaagreatdoor", sum := "ad3033c9776c1c569e625f6098ae8be016898be61e9499edf18f5e22760202c9", func := "catenary/catenarylaw24.ServerNil", spec := "serverNil", unfollowed := true, recurses := true, named := ["catenary/letter.kindParts"], apart := false, laid := [("catenary/letter.kindParts", laid_catenary_letter_kindParts)], narrowed := true }
def ServerNilUptoSaid : Prop := serverNilUptoRow.holds Tryz.pinned (OpenSpec.upto serverNilSpec)

end Rows
end Go.Proofs.YtabmipjpgofgpaaGreatDoor
