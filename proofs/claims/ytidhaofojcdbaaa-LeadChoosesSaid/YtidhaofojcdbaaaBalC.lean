/-
  The walks of BallotOf and BallotNext.
-/
import Derived.Test.YtidhaofojcdbaaaBalB
namespace Go.Proofs.Ytidhaofojcdbaaa
open Go.RowKit
set_option linter.unusedVariables false
theorem bNext_yes (b m : Int) (w : World) (h0 : 0 ≤ b) (hb : b ≤ 18446744073709551615) (h : Fine (nextR b m) m) : Calls Try.prog 51 #[.int .u64 b, .int .i64 m] w fun e w' => e = .returned (.tuple #[.int .u64 (nextR b m * 8 + m), .int .i64 0]) ∧ w = w' :=
  (bNext_any b m w h0 hb h.2.2.1 h.2.2.2).mono fun e w' ⟨hn, hw⟩ => ⟨by rcases hn with ⟨_, hn⟩ | ⟨hn, _⟩; exact hn; exact absurd h hn, hw⟩
theorem bNext_no (b m : Int) (w : World) (h0 : 0 ≤ b) (hb : b ≤ 18446744073709551615) (h1 : 1 ≤ m) (h2 : m ≤ 5) (h : ¬ Fine (nextR b m) m) : Calls Try.prog 51 #[.int .u64 b, .int .i64 m] w fun e w' => e = .returned (.tuple #[.int .u64 0, .int .i64 9]) ∧ w = w' :=
  (bNext_any b m w h0 hb h1 h2).mono fun e w' ⟨hn, hw⟩ => ⟨by rcases hn with ⟨hn, _⟩ | ⟨_, hn⟩; exact absurd hn h; exact hn, hw⟩
end Go.Proofs.Ytidhaofojcdbaaa
