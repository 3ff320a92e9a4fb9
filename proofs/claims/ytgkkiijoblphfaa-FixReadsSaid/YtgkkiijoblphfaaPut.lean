/-
  What catenarylaw01.put does: an item is put, and its bytes and its own error are told.
-/
import Derived.Test.YtgkkiijoblphfaaRefD
import Derived.Test.YtgkkiijoblphfaaAwake
namespace Go.Proofs.Ytgkkiijoblphfaa
open Go.RowKit

/-- An item: its kind, its number, its width, its bytes. -/
structure Itm where
  kind : Int
  n : Nat
  width : Int
  b : List Int

def Itm.err (x : Itm) : Int := if x.kind = 0 then putErr x.n x.width else 0
def Itm.bytes (x : Itm) : List Int :=
  if x.kind = 0 then putBytes x.n x.width else if x.kind = 1 then x.b.take 60 else if x.kind = 2 then be (x.b.take 60).length 2 ++ x.b.take 60 else [if x.n % 2 = 1 then 1 else 0]

/-- The value is that item. -/
def ItmAt (w : World) (F : Nat → Prop) (v : Value) (x : Itm) : Prop :=
  ∃ b, v = .agg #[.int .i64 x.kind, .int .u64 x.n, .int .i64 x.width, b] ∧ BSl w F b x.b ∧ Hid (x.n < 18446744073709551616)

theorem emit_put (s : OSt) (n : Nat) (width : Int) : s.emit (putErr n width) (be (n : Int).toNat width.toNat) = s.emit (putErr n width) (putBytes n width) := by
  unfold putBytes
  by_cases h : putErr n width = 0
  · rw [if_pos h, Int.toNat_natCast]
  · rw [OSt.emit_err _ _ _ h, OSt.emit_err _ _ _ h]
theorem textErr_short (l : List Int) (h : l.length ≤ 60) : textErr l = 0 := if_neg (by omega)

end Go.Proofs.Ytgkkiijoblphfaa
