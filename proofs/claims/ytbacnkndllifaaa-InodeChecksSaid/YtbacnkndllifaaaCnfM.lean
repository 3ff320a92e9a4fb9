/-
  Package conf: All.
-/
import Derived.Test.YtbacnkndllifaaaCnfL
namespace Go.Proofs.Ytbacnkndllifaaa
open Go.RowKit
set_option linter.unusedVariables false

theorem balloc {w : World} {g : Nat} {o : Obj} (h : w.heap[g]? = some o) (x : Obj) : (w.alloc x).heap[g]? = some o := (heap_alloc_old w x (heap_lt h)).trans h
end Go.Proofs.Ytbacnkndllifaaa
