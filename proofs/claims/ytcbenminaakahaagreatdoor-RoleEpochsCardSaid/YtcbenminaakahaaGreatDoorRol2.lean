/-
  Package role and the chapter: Reader, Newer. The page's example of roles; the walk of RoleIs.
-/
import Derived.Test.YtcbenminaakahaaGreatDoorRol1
namespace Go.Proofs.YtcbenminaakahaaGreatDoor
open Go.RowKit
set_option linter.unusedVariables false
set_option linter.unusedSimpArgs false

def readN (c : Cf) (p : Int) : Int := if rgtB c = true then c.ns.getD ((if p < 0 then 0 else p.toNat) % c.ns.length) 0 else 0
end Go.Proofs.YtcbenminaakahaaGreatDoor
namespace Go.Proofs.YtcbenminaakahaaGreatDoor
open Go.RowKit
set_option linter.unusedVariables false
set_option linter.unusedSimpArgs false

def AnyC : Nat → Prop := fun _ => True
/-- The example's configuration. -/
def exC : Cf := ⟨0, 1, [1, 2, 3], false, 4⟩
theorem exC_rl : rlOf exC 3 = ⟨true, false, false, true, false, 2, 2, 4⟩ := by
  unfold rlOf
  rw [if_pos (show rgtB exC = true by decide), if_pos (show (3 : Int) ∈ exC.ns by decide), show plc exC.ns 3 = 2 by decide]
  rfl
set_option maxRecDepth 100000 in
theorem awake19 (w : World) : Calls Tryz.prog 51 #[] w (BoolE true w) := by
  have hb := heap_alloc_new w (.cells #[.int .i64 1, .int .i64 2, .int .i64 3] 3)
  have HK := Lib.hid ((Kept.refl NoB w).alloc (.cells #[.int .i64 1, .int .i64 2, .int .i64 3] 3))
  have HC : Hid (CfR (w.alloc (.cells #[.int .i64 1, .int .i64 2, .int .i64 3] 3)) AnyC (.agg #[.int .i64 0, .int .u64 1, .slice (some ⟨w.heap.size, 0, none⟩) 3 3, .bool false, .int .i64 4]) exC) := Lib.hid
    ⟨_, rfl, ⟨_, 3, rfl, Nat.le_refl _, by decide, (fun h => by cases h), fun _ => ⟨_, 0, rfl, trivial, heap_lt hb, fun j hj => by
      have hj : j < 3 := hj
      rw [cell_of_row _ _ _ _ _ _ hb]
      match j, hj with
      | 0, _ | 1, _ | 2, _ => rfl⟩⟩, by decide, by decide⟩
  have HO := Lib.hid (exC_rl ▸ Of19 _ exC 3 AnyC _ HC.out)
  clear hb
  go_enter Tryz.func51, Tryz.ntmps51
  go_wp2_with fail
  refine HO.out.mono ?_
  rintro e w1 ⟨rfl, hk⟩
  have HK1 := Lib.hid (HK.out.trans hk (fun _ _ h => h))
  clear hk
  unfold rlV
  simp only
  go_wp2
  go_ret
  exact ⟨rfl, HK1.out.alloc _⟩
end Go.Proofs.YtcbenminaakahaaGreatDoor
