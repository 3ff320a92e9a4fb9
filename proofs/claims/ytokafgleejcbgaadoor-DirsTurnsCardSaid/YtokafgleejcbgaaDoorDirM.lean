/-
  Layer 29: Put of the package.
-/
import Derived.Test.YtokafgleejcbgaaDoorDirL
namespace Go.Proofs.YtokafgleejcbgaaDoor
open Go.RowKit
set_option linter.unusedVariables false

theorem zer29 (nm : List UInt8) (h : nm.length ≤ 11) : splice (#[Value.int .u8 0, Value.int .u8 0, Value.int .u8 0, Value.int .u8 0, Value.int .u8 0, Value.int .u8 0, Value.int .u8 0, Value.int .u8 0, Value.int .u8 0, Value.int .u8 0, Value.int .u8 0] : Array Value).toList 0 (vb29 nm) = (pad29 nm).map (Value.int .u8) := splice_pad29 nm h
end Go.Proofs.YtokafgleejcbgaaDoor
