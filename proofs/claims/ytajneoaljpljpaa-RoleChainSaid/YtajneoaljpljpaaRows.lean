/-
  No cell of these rows narrows 'for every input' (looked for: loops, veiled, ifaces, maps, wideKeys, modest, calm, conditions, laid).
  DERIVED. THE GIVEN ROWS OF THIS SEAT. 3 by the template 'for every input the law returns true; each argument reads behind the call as it read before'; 0 by the template 'total and deterministic' (their statements: YtajneoaljpljpaaTotals.lean).
  GIVEN WITH THE SEED: the statements are not yours to turn. If you find one false, say at which input.
  Laid BY PROGRAM, IN A SANDBOX (cutbox-rows.mjs): the forced cells as the released guide's own fill.sh prints them over the translation e34f9d026d025ef5… (all of the seat's roots in one cut). By AI agents, Wed Nov 11 2026. No macro, syntax, notation, axiom, sorry.
-/
import Derived.Test.YtajneoaljpljpaaChecked
import GoSem.Claim
import GoSem.ClaimJoined
import GoSem.ClaimMapViews
import Derived.JoinedTies
import Derived.KernelRfl
namespace Go.Proofs.Ytajneoaljpljpaa
/- THE CELL 'sum', in the pinned program and in every row, IS THE sha256 OF THE DUMP (.gsa) THAT YtajneoaljpljpaaProg.lean LOADS. Nothing in Lean hashes anything: it is a label: what it is worth is what the hold of that sum in a sandbox is worth. -/
noncomputable def Try.pinned : Pinned := { name := "ytajneoaljpljpaa", sum := "e34f9d026d025ef5aca139be6086ba6871bde531591b5f864b3d2d8b12b3d346", checked := Try.checked }
namespace Rows
def none {H : Type} : Left H := { results := [], args := [] }

/-- 'catenarylaw19.RoleIs': WHATEVER THE INPUT: true; the input reads as it did. -/
def roleIsSpec : ChangeSpec := { name := "roleIs", fn := fun _ => fun
  | [d1, d2, d3] => { results := [.lit (.bool true)], args := [d1, d2, d3] }
  | _ => none }
def roleIsRow : OpenClaim := { program := "ytajneoaljpljpaa", sum := "e34f9d026d025ef5aca139be6086ba6871bde531591b5f864b3d2d8b12b3d346", func := "catenary/catenarylaw19.RoleIs", spec := "roleIs", unfollowed := true, recurses := true, apart := false }
def RoleIsSaid : Prop := roleIsRow.holds Try.pinned (OpenSpec.ofChange roleIsSpec)

/-- ITS FALSE NEIGHBOUR: 'it returns false'. Refute it at one input. -/
def roleIsWrong : ChangeSpec := { name := "roleIs", fn := fun _ => fun
  | [d1, d2, d3] => { results := [.lit (.bool false)], args := [d1, d2, d3] }
  | _ => none }
def RoleIsWrongFalsely : Prop := roleIsRow.holds Try.pinned (OpenSpec.ofChange roleIsWrong)

/-- 'catenarylaw19.RoleReports': WHATEVER THE INPUT: true; the input reads as it did. -/
def roleReportsSpec : ChangeSpec := { name := "roleReports", fn := fun _ => fun
  | [d1, d2, d3] => { results := [.lit (.bool true)], args := [d1, d2, d3] }
  | _ => none }
def roleReportsRow : OpenClaim := { program := "ytajneoaljpljpaa", sum := "e34f9d026d025ef5aca139be6086ba6871bde531591b5f864b3d2d8b12b3d346", func := "catenary/catenarylaw19.RoleReports", spec := "roleReports", unfollowed := true, recurses := true, apart := false }
def RoleReportsSaid : Prop := roleReportsRow.holds Try.pinned (OpenSpec.ofChange roleReportsSpec)

/-- ITS FALSE NEIGHBOUR: 'it returns false'. Refute it at one input. -/
def roleReportsWrong : ChangeSpec := { name := "roleReports", fn := fun _ => fun
  | [d1, d2, d3] => { results := [.lit (.bool false)], args := [d1, d2, d3] }
  | _ => none }
def RoleReportsWrongFalsely : Prop := roleReportsRow.holds Try.pinned (OpenSpec.ofChange roleReportsWrong)

/-- 'catenarylaw19.RoleChain': WHATEVER THE INPUT: true; the input reads as it did. -/
def roleChainSpec : ChangeSpec := { name := "roleChain", fn := fun _ => fun
  | [d] => { results := [.lit (.bool true)], args := [d] }
  | _ => none }
def roleChainRow : OpenClaim := { program := "ytajneoaljpljpaa", sum := "e34f9d026d025ef5aca139be6086ba6871bde531591b5f864b3d2d8b12b3d346", func := "catenary/catenarylaw19.RoleChain", spec := "roleChain", unfollowed := true, recurses := true, apart := false }
def RoleChainSaid : Prop := roleChainRow.holds Try.pinned (OpenSpec.ofChange roleChainSpec)

/-- ITS FALSE NEIGHBOUR: 'it returns false'. Refute it at one input. -/
def roleChainWrong : ChangeSpec := { name := "roleChain", fn := fun _ => fun
  | [d] => { results := [.lit (.bool false)], args := [d] }
  | _ => none }
def RoleChainWrongFalsely : Prop := roleChainRow.holds Try.pinned (OpenSpec.ofChange roleChainWrong)

/- THE SECOND FORM. 'bulk': how many values and letters a reading holds, each counted each time it is reached (what is shared counts as often as it is met; a slice's spare places count too). A statement '..UptoSaid' is the law's where the arguments, and the package variables that the reading takes, are together of bulk at most 1048576: NARROWER than '..Said'. Prove '..Said' where nothing that the law and all that it calls make is longer than what came in: it says more and counts as full. Else prove '..UptoSaid'. A law counts once. -/
mutual
def uptoBulk {H : Type} : DataW H → Nat
  | .lit (.string bytes) => bytes.length + 1
  | .lit _ => 1
  | .nil => 1
  | .ptr d => uptoBulk d + 1
  | .slice elems spare => uptoBulkAll elems + uptoBulkAll spare + 1
  | .agg parts => uptoBulkAll parts + 1
  | .iface _ d => uptoBulk d + 1
  | .map entries => uptoBulkEntries entries + 1
  | .held _ => 1
def uptoBulkAll {H : Type} : List (DataW H) → Nat
  | [] => 0
  | d :: r => uptoBulk d + uptoBulkAll r
def uptoBulkEntries {H : Type} : List (Lit × DataW H) → Nat
  | [] => 0
  | x :: r => uptoBulkEntry x + uptoBulkEntries r
def uptoBulkEntry {H : Type} : Lit × DataW H → Nat
  | (.string bytes, d) => bytes.length + uptoBulk d + 1
  | (_, d) => uptoBulk d + 1
 end
def uptoSmall : (H : Type) → List (DataW H) → Bool := fun _ ds => decide (uptoBulkAll ds ≤ 1048576)
def OpenSpec.upto (s : _root_.Go.ChangeSpec) : _root_.Go.OpenSpec := { _root_.Go.OpenSpec.ofChange s with cond := some uptoSmall }

/-- 'catenarylaw19.RoleIs', WHERE WHAT IT READS IS OF BULK AT MOST 1048576: true; the input reads as it did. -/
def roleIsUptoRow : OpenClaim := { program := "ytajneoaljpljpaa", sum := "e34f9d026d025ef5aca139be6086ba6871bde531591b5f864b3d2d8b12b3d346", func := "catenary/catenarylaw19.RoleIs", spec := "roleIs", unfollowed := true, recurses := true, apart := false, narrowed := true }
def RoleIsUptoSaid : Prop := roleIsUptoRow.holds Try.pinned (OpenSpec.upto roleIsSpec)

/-- 'catenarylaw19.RoleReports', WHERE WHAT IT READS IS OF BULK AT MOST 1048576: true; the input reads as it did. -/
def roleReportsUptoRow : OpenClaim := { program := "ytajneoaljpljpaa", sum := "e34f9d026d025ef5aca139be6086ba6871bde531591b5f864b3d2d8b12b3d346", func := "catenary/catenarylaw19.RoleReports", spec := "roleReports", unfollowed := true, recurses := true, apart := false, narrowed := true }
def RoleReportsUptoSaid : Prop := roleReportsUptoRow.holds Try.pinned (OpenSpec.upto roleReportsSpec)

/-- 'catenarylaw19.RoleChain', WHERE WHAT IT READS IS OF BULK AT MOST 1048576: true; the input reads as it did. -/
def roleChainUptoRow : OpenClaim := { program := "ytajneoaljpljpaa", sum := "e34f9d026d025ef5aca139be6086ba6871bde531591b5f864b3d2d8b12b3d346", func := "catenary/catenarylaw19.RoleChain", spec := "roleChain", unfollowed := true, recurses := true, apart := false, narrowed := true }
def RoleChainUptoSaid : Prop := roleChainUptoRow.holds Try.pinned (OpenSpec.upto roleChainSpec)

end Rows
end Go.Proofs.Ytajneoaljpljpaa
