/-
  No cell of these rows narrows 'for every input' (looked for: loops, veiled, ifaces, maps, wideKeys, modest, calm, conditions, laid).
  DERIVED. THE GIVEN ROWS OF THIS SEAT. 9 by the template 'for every input the law returns true; each argument reads behind the call as it read before'; 0 by the template 'total and deterministic' (their statements: YtnmclhgljpcjcaaTotals.lean).
  GIVEN WITH THE SEED: the statements are not yours to turn. If you find one false, say at which input.
  Laid BY PROGRAM, IN A SANDBOX (cutbox-rows.mjs): the forced cells as the released guide's own fill.sh prints them over the translation 6b2c5878409f6eaa… (all of the seat's roots in one cut). By AI agents, Wed Nov 11 2026. No macro, syntax, notation, axiom, sorry.
-/
import Derived.Test.YtnmclhgljpcjcaaChecked
import GoSem.Claim
import GoSem.ClaimJoined
import GoSem.ClaimMapViews
import Derived.JoinedTies
import Derived.KernelRfl
namespace Go.Proofs.Ytnmclhgljpcjcaa
/- THE CELL 'sum', in the pinned program and in every row, IS THE sha256 OF THE DUMP (.gsa) THAT YtnmclhgljpcjcaaProg.lean LOADS. Nothing in Lean hashes anything: it is a label: what it is worth is what the hold of that sum in a sandbox is worth. -/
noncomputable def Try.pinned : Pinned := { name := "ytnmclhgljpcjcaa", sum := "6b2c5878409f6eaa8d840121aaf451f2bbc5efccffe3316268c5f66605c503b4", checked := Try.checked }
namespace Rows
def none {H : Type} : Left H := { results := [], args := [] }

/-- 'catenarylaw11.AcceptBest': WHATEVER THE INPUT: true; the input reads as it did. -/
def acceptBestSpec : ChangeSpec := { name := "acceptBest", fn := fun _ => fun
  | [d] => { results := [.lit (.bool true)], args := [d] }
  | _ => none }
def acceptBestRow : OpenClaim := { program := "ytnmclhgljpcjcaa", sum := "6b2c5878409f6eaa8d840121aaf451f2bbc5efccffe3316268c5f66605c503b4", func := "catenary/catenarylaw11.AcceptBest", spec := "acceptBest", unfollowed := true, recurses := true, apart := false }
def AcceptBestSaid : Prop := acceptBestRow.holds Try.pinned (OpenSpec.ofChange acceptBestSpec)

/-- ITS FALSE NEIGHBOUR: 'it returns false'. Refute it at one input. -/
def acceptBestWrong : ChangeSpec := { name := "acceptBest", fn := fun _ => fun
  | [d] => { results := [.lit (.bool false)], args := [d] }
  | _ => none }
def AcceptBestWrongFalsely : Prop := acceptBestRow.holds Try.pinned (OpenSpec.ofChange acceptBestWrong)

/-- 'catenarylaw15.VersPlays': WHATEVER THE INPUT: true; the input reads as it did. -/
def versPlaysSpec : ChangeSpec := { name := "versPlays", fn := fun _ => fun
  | [d] => { results := [.lit (.bool true)], args := [d] }
  | _ => none }
def versPlaysRow : OpenClaim := { program := "ytnmclhgljpcjcaa", sum := "6b2c5878409f6eaa8d840121aaf451f2bbc5efccffe3316268c5f66605c503b4", func := "catenary/catenarylaw15.VersPlays", spec := "versPlays", unfollowed := true, recurses := true, apart := false }
def VersPlaysSaid : Prop := versPlaysRow.holds Try.pinned (OpenSpec.ofChange versPlaysSpec)

/-- ITS FALSE NEIGHBOUR: 'it returns false'. Refute it at one input. -/
def versPlaysWrong : ChangeSpec := { name := "versPlays", fn := fun _ => fun
  | [d] => { results := [.lit (.bool false)], args := [d] }
  | _ => none }
def VersPlaysWrongFalsely : Prop := versPlaysRow.holds Try.pinned (OpenSpec.ofChange versPlaysWrong)

/-- 'catenarylaw15.VersTrims': WHATEVER THE INPUT: true; the input reads as it did. -/
def versTrimsSpec : ChangeSpec := { name := "versTrims", fn := fun _ => fun
  | [d1, d2, d3] => { results := [.lit (.bool true)], args := [d1, d2, d3] }
  | _ => none }
def versTrimsRow : OpenClaim := { program := "ytnmclhgljpcjcaa", sum := "6b2c5878409f6eaa8d840121aaf451f2bbc5efccffe3316268c5f66605c503b4", func := "catenary/catenarylaw15.VersTrims", spec := "versTrims", unfollowed := true, recurses := true, apart := false }
def VersTrimsSaid : Prop := versTrimsRow.holds Try.pinned (OpenSpec.ofChange versTrimsSpec)

/-- ITS FALSE NEIGHBOUR: 'it returns false'. Refute it at one input. -/
def versTrimsWrong : ChangeSpec := { name := "versTrims", fn := fun _ => fun
  | [d1, d2, d3] => { results := [.lit (.bool false)], args := [d1, d2, d3] }
  | _ => none }
def VersTrimsWrongFalsely : Prop := versTrimsRow.holds Try.pinned (OpenSpec.ofChange versTrimsWrong)

/-- 'catenarylaw15.VersOwn': WHATEVER THE INPUT: true; the input reads as it did. -/
def versOwnSpec : ChangeSpec := { name := "versOwn", fn := fun _ => fun
  | [d1, d2] => { results := [.lit (.bool true)], args := [d1, d2] }
  | _ => none }
def versOwnRow : OpenClaim := { program := "ytnmclhgljpcjcaa", sum := "6b2c5878409f6eaa8d840121aaf451f2bbc5efccffe3316268c5f66605c503b4", func := "catenary/catenarylaw15.VersOwn", spec := "versOwn", unfollowed := true, recurses := true, apart := false }
def VersOwnSaid : Prop := versOwnRow.holds Try.pinned (OpenSpec.ofChange versOwnSpec)

/-- ITS FALSE NEIGHBOUR: 'it returns false'. Refute it at one input. -/
def versOwnWrong : ChangeSpec := { name := "versOwn", fn := fun _ => fun
  | [d1, d2] => { results := [.lit (.bool false)], args := [d1, d2] }
  | _ => none }
def VersOwnWrongFalsely : Prop := versOwnRow.holds Try.pinned (OpenSpec.ofChange versOwnWrong)

/-- 'catenarylaw15.VersNil': WHATEVER THE INPUT: true; the input reads as it did. -/
def versNilSpec : ChangeSpec := { name := "versNil", fn := fun _ => fun
  | [d] => { results := [.lit (.bool true)], args := [d] }
  | _ => none }
def versNilRow : OpenClaim := { program := "ytnmclhgljpcjcaa", sum := "6b2c5878409f6eaa8d840121aaf451f2bbc5efccffe3316268c5f66605c503b4", func := "catenary/catenarylaw15.VersNil", spec := "versNil", unfollowed := true, recurses := true, apart := false }
def VersNilSaid : Prop := versNilRow.holds Try.pinned (OpenSpec.ofChange versNilSpec)

/-- ITS FALSE NEIGHBOUR: 'it returns false'. Refute it at one input. -/
def versNilWrong : ChangeSpec := { name := "versNil", fn := fun _ => fun
  | [d] => { results := [.lit (.bool false)], args := [d] }
  | _ => none }
def VersNilWrongFalsely : Prop := versNilRow.holds Try.pinned (OpenSpec.ofChange versNilWrong)

/-- 'catenarylaw16.SessPlays': WHATEVER THE INPUT: true; the input reads as it did. -/
def sessPlaysSpec : ChangeSpec := { name := "sessPlays", fn := fun _ => fun
  | [d1, d2, d3] => { results := [.lit (.bool true)], args := [d1, d2, d3] }
  | _ => none }
def sessPlaysRow : OpenClaim := { program := "ytnmclhgljpcjcaa", sum := "6b2c5878409f6eaa8d840121aaf451f2bbc5efccffe3316268c5f66605c503b4", func := "catenary/catenarylaw16.SessPlays", spec := "sessPlays", apart := false }
def SessPlaysSaid : Prop := sessPlaysRow.holds Try.pinned (OpenSpec.ofChange sessPlaysSpec)

/-- ITS FALSE NEIGHBOUR: 'it returns false'. Refute it at one input. -/
def sessPlaysWrong : ChangeSpec := { name := "sessPlays", fn := fun _ => fun
  | [d1, d2, d3] => { results := [.lit (.bool false)], args := [d1, d2, d3] }
  | _ => none }
def SessPlaysWrongFalsely : Prop := sessPlaysRow.holds Try.pinned (OpenSpec.ofChange sessPlaysWrong)

/-- 'catenarylaw16.SessRises': WHATEVER THE INPUT: true; the input reads as it did. -/
def sessRisesSpec : ChangeSpec := { name := "sessRises", fn := fun _ => fun
  | [d] => { results := [.lit (.bool true)], args := [d] }
  | _ => none }
def sessRisesRow : OpenClaim := { program := "ytnmclhgljpcjcaa", sum := "6b2c5878409f6eaa8d840121aaf451f2bbc5efccffe3316268c5f66605c503b4", func := "catenary/catenarylaw16.SessRises", spec := "sessRises", apart := false }
def SessRisesSaid : Prop := sessRisesRow.holds Try.pinned (OpenSpec.ofChange sessRisesSpec)

/-- ITS FALSE NEIGHBOUR: 'it returns false'. Refute it at one input. -/
def sessRisesWrong : ChangeSpec := { name := "sessRises", fn := fun _ => fun
  | [d] => { results := [.lit (.bool false)], args := [d] }
  | _ => none }
def SessRisesWrongFalsely : Prop := sessRisesRow.holds Try.pinned (OpenSpec.ofChange sessRisesWrong)

/-- 'catenarylaw16.SessBytes': WHATEVER THE INPUT: true; the input reads as it did. -/
def sessBytesSpec : ChangeSpec := { name := "sessBytes", fn := fun _ => fun
  | [d1, d2] => { results := [.lit (.bool true)], args := [d1, d2] }
  | _ => none }
def sessBytesRow : OpenClaim := { program := "ytnmclhgljpcjcaa", sum := "6b2c5878409f6eaa8d840121aaf451f2bbc5efccffe3316268c5f66605c503b4", func := "catenary/catenarylaw16.SessBytes", spec := "sessBytes", apart := false }
def SessBytesSaid : Prop := sessBytesRow.holds Try.pinned (OpenSpec.ofChange sessBytesSpec)

/-- ITS FALSE NEIGHBOUR: 'it returns false'. Refute it at one input. -/
def sessBytesWrong : ChangeSpec := { name := "sessBytes", fn := fun _ => fun
  | [d1, d2] => { results := [.lit (.bool false)], args := [d1, d2] }
  | _ => none }
def SessBytesWrongFalsely : Prop := sessBytesRow.holds Try.pinned (OpenSpec.ofChange sessBytesWrong)

/-- 'catenarylaw16.SessNil': WHATEVER THE INPUT: true; the input reads as it did. -/
def sessNilSpec : ChangeSpec := { name := "sessNil", fn := fun _ => fun
  | [d1, d2, d3] => { results := [.lit (.bool true)], args := [d1, d2, d3] }
  | _ => none }
def sessNilRow : OpenClaim := { program := "ytnmclhgljpcjcaa", sum := "6b2c5878409f6eaa8d840121aaf451f2bbc5efccffe3316268c5f66605c503b4", func := "catenary/catenarylaw16.SessNil", spec := "sessNil", apart := false }
def SessNilSaid : Prop := sessNilRow.holds Try.pinned (OpenSpec.ofChange sessNilSpec)

/-- ITS FALSE NEIGHBOUR: 'it returns false'. Refute it at one input. -/
def sessNilWrong : ChangeSpec := { name := "sessNil", fn := fun _ => fun
  | [d1, d2, d3] => { results := [.lit (.bool false)], args := [d1, d2, d3] }
  | _ => none }
def SessNilWrongFalsely : Prop := sessNilRow.holds Try.pinned (OpenSpec.ofChange sessNilWrong)

/- THE SECOND FORM. 'bulk': how many values and letters a reading holds, each counted each time it is reached (what is shared counts as often as it is met; a slice's spare places count too). A statement '..UptoSaid' is the law's where the arguments, and the package variables that the reading takes, are together of bulk at most 1048576: NARROWER than '..Said'. Prove '..Said' where nothing that the law and all that it calls make is longer than what came in: it says more and counts as full. Else prove '..UptoSaid'. A law counts once. -/
mutual
def uptoBulk {H : Type} : DataW H → Nat
  | .lit (.string bytes) => bytes.length + 1
  | .lit _ => 1
  | .nil => 1
  | .ptr d => uptoBulk d + 1
  | .slice elems spare => uptoBulkAll elems + uptoBulkAll spare + 1
  | .agg parts => uptoBulkAll parts + 1
  | .iface _ d => uptoBulk d + 1
  | .map entries => uptoBulkEntries entries + 1
  | .held _ => 1
def uptoBulkAll {H : Type} : List (DataW H) → Nat
  | [] => 0
  | d :: r => uptoBulk d + uptoBulkAll r
def uptoBulkEntries {H : Type} : List (Lit × DataW H) → Nat
  | [] => 0
  | x :: r => uptoBulkEntry x + uptoBulkEntries r
def uptoBulkEntry {H : Type} : Lit × DataW H → Nat
  | (.string bytes, d) => bytes.length + uptoBulk d + 1
  | (_, d) => uptoBulk d + 1
 end
def uptoSmall : (H : Type) → List (DataW H) → Bool := fun _ ds => decide (uptoBulkAll ds ≤ 1048576)
def OpenSpec.upto (s : _root_.Go.ChangeSpec) : _root_.Go.OpenSpec := { _root_.Go.OpenSpec.ofChange s with cond := some uptoSmall }

/-- 'catenarylaw11.AcceptBest', WHERE WHAT IT READS IS OF BULK AT MOST 1048576: true; the input reads as it did. -/
def acceptBestUptoRow : OpenClaim := { program := "ytnmclhgljpcjcaa", sum := "6b2c5878409f6eaa8d840121aaf451f2bbc5efccffe3316268c5f66605c503b4", func := "catenary/catenarylaw11.AcceptBest", spec := "acceptBest", unfollowed := true, recurses := true, apart := false, narrowed := true }
def AcceptBestUptoSaid : Prop := acceptBestUptoRow.holds Try.pinned (OpenSpec.upto acceptBestSpec)

/-- 'catenarylaw15.VersPlays', WHERE WHAT IT READS IS OF BULK AT MOST 1048576: true; the input reads as it did. -/
def versPlaysUptoRow : OpenClaim := { program := "ytnmclhgljpcjcaa", sum := "6b2c5878409f6eaa8d840121aaf451f2bbc5efccffe3316268c5f66605c503b4", func := "catenary/catenarylaw15.VersPlays", spec := "versPlays", unfollowed := true, recurses := true, apart := false, narrowed := true }
def VersPlaysUptoSaid : Prop := versPlaysUptoRow.holds Try.pinned (OpenSpec.upto versPlaysSpec)

/-- 'catenarylaw15.VersTrims', WHERE WHAT IT READS IS OF BULK AT MOST 1048576: true; the input reads as it did. -/
def versTrimsUptoRow : OpenClaim := { program := "ytnmclhgljpcjcaa", sum := "6b2c5878409f6eaa8d840121aaf451f2bbc5efccffe3316268c5f66605c503b4", func := "catenary/catenarylaw15.VersTrims", spec := "versTrims", unfollowed := true, recurses := true, apart := false, narrowed := true }
def VersTrimsUptoSaid : Prop := versTrimsUptoRow.holds Try.pinned (OpenSpec.upto versTrimsSpec)

/-- 'catenarylaw15.VersOwn', WHERE WHAT IT READS IS OF BULK AT MOST 1048576: true; the input reads as it did. -/
def versOwnUptoRow : OpenClaim := { program := "ytnmclhgljpcjcaa", sum := "6b2c5878409f6eaa8d840121aaf451f2bbc5efccffe3316268c5f66605c503b4", func := "catenary/catenarylaw15.VersOwn", spec := "versOwn", unfollowed := true, recurses := true, apart := false, narrowed := true }
def VersOwnUptoSaid : Prop := versOwnUptoRow.holds Try.pinned (OpenSpec.upto versOwnSpec)

/-- 'catenarylaw15.VersNil', WHERE WHAT IT READS IS OF BULK AT MOST 1048576: true; the input reads as it did. -/
def versNilUptoRow : OpenClaim := { program := "ytnmclhgljpcjcaa", sum := "6b2c5878409f6eaa8d840121aaf451f2bbc5efccffe3316268c5f66605c503b4", func := "catenary/catenarylaw15.VersNil", spec := "versNil", unfollowed := true, recurses := true, apart := false, narrowed := true }
def VersNilUptoSaid : Prop := versNilUptoRow.holds Try.pinned (OpenSpec.upto versNilSpec)

/-- 'catenarylaw16.SessPlays', WHERE WHAT IT READS IS OF BULK AT MOST 1048576: true; the input reads as it did. -/
def sessPlaysUptoRow : OpenClaim := { program := "ytnmclhgljpcjcaa", sum := "6b2c5878409f6eaa8d840121aaf451f2bbc5efccffe3316268c5f66605c503b4", func := "catenary/catenarylaw16.SessPlays", spec := "sessPlays", apart := false, narrowed := true }
def SessPlaysUptoSaid : Prop := sessPlaysUptoRow.holds Try.pinned (OpenSpec.upto sessPlaysSpec)

/-- 'catenarylaw16.SessRises', WHERE WHAT IT READS IS OF BULK AT MOST 1048576: true; the input reads as it did. -/
def sessRisesUptoRow : OpenClaim := { program := "ytnmclhgljpcjcaa", sum := "6b2c5878409f6eaa8d840121aaf451f2bbc5efccffe3316268c5f66605c503b4", func := "catenary/catenarylaw16.SessRises", spec := "sessRises", apart := false, narrowed := true }
def SessRisesUptoSaid : Prop := sessRisesUptoRow.holds Try.pinned (OpenSpec.upto sessRisesSpec)

/-- 'catenarylaw16.SessBytes', WHERE WHAT IT READS IS OF BULK AT MOST 1048576: true; the input reads as it did. -/
def sessBytesUptoRow : OpenClaim := { program := "ytnmclhgljpcjcaa", sum := "6b2c5878409f6eaa8d840121aaf451f2bbc5efccffe3316268c5f66605c503b4", func := "catenary/catenarylaw16.SessBytes", spec := "sessBytes", apart := false, narrowed := true }
def SessBytesUptoSaid : Prop := sessBytesUptoRow.holds Try.pinned (OpenSpec.upto sessBytesSpec)

/-- 'catenarylaw16.SessNil', WHERE WHAT IT READS IS OF BULK AT MOST 1048576: true; the input reads as it did. -/
def sessNilUptoRow : OpenClaim := { program := "ytnmclhgljpcjcaa", sum := "6b2c5878409f6eaa8d840121aaf451f2bbc5efccffe3316268c5f66605c503b4", func := "catenary/catenarylaw16.SessNil", spec := "sessNil", apart := false, narrowed := true }
def SessNilUptoSaid : Prop := sessNilUptoRow.holds Try.pinned (OpenSpec.upto sessNilSpec)

end Rows
end Go.Proofs.Ytnmclhgljpcjcaa
