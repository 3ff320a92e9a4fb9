/-
  catenaryref17: Outcome.
-/
import Derived.Test.YtpdkmalfojeghaaGreatDoorUpdH
namespace Go.Proofs.YtpdkmalfojeghaaGreatDoor
open Go.RowKit
set_option linter.unusedVariables false
set_option linter.unusedSimpArgs false

set_option maxRecDepth 100000 in
set_option maxHeartbeats 1000000 in
theorem ROutcome_any (w : World) (v : Value) (x : Up) (ver : Int) (room : Bool) (F : Nat → Prop) (h : UpV w F v x) (h0 : 0 ≤ ver) (h1 : ver ≤ 18446744073709551615) : Calls Tryz.prog 30 #[v, .int .u64 ver, .bool room] w (OutE (outU x ver room) w) := by
  obtain ⟨u, rfl, hd⟩ := h
  obtain ⟨va, vc, rfl, _⟩ := hd
  obtain ⟨y0, y1, y2, y3, y4, y5, y6⟩ := x
  simp only
  have hka := (Kept.refl NoB w).alloc (.cells #[.int .u64 y0, .int .i64 y1, .int .u64 y2, .int .i64 y3, .int .u32 y4, .int .u64 y5, .slice va y6.length vc] 43)
  have HKA := Lib.hid hka
  obtain ⟨c0, c1, c2, c3, c4, c5, c6⟩ := cells7 (heap_alloc_new w (.cells #[.int .u64 y0, .int .i64 y1, .int .u64 y2, .int .i64 y3, .int .u32 y4, .int .u64 y5, .slice va y6.length vc] 43))
  obtain ⟨z, hz⟩ : ∃ z, z = outU ⟨y0, y1, y2, y3, y4, y5, y6⟩ ver room := ⟨_, rfl⟩
  rw [← hz]
  obtain ⟨r0, r1, r2⟩ := z
  have HZ := Lib.hid hz
  clear hka c0 c1 c2 c4 c6 hz
  by_cases hk : y3 = 2 ∨ y3 = 3
  rotate_left
  · skip
    have e1 : (y3 != 2) = true := by simpa using fun h => hk (.inl h)
    have e2 : (y3 != 3) = true := by simpa using fun h => hk (.inr h)
    have HE := (show outU ⟨y0, y1, y2, y3, y4, y5, y6⟩ ver room = (1, ver, false) from by unfold outU; rw [if_pos (by exact hk)])
    have HR0 : Hid (_ = r0) := Lib.hid ((congrArg Prod.fst HE).symm.trans (congrArg Prod.fst HZ.out).symm)
    have HR1 : Hid (_ = r1) := Lib.hid ((congrArg (fun z => z.2.1) HE).symm.trans (congrArg (fun z => z.2.1) HZ.out).symm)
    have HR2 : Hid (_ = r2) := Lib.hid ((congrArg (fun z => z.2.2) HE).symm.trans (congrArg (fun z => z.2.2) HZ.out).symm)
    clear HE HZ hk
    go_enter Tryz.func30, Tryz.ntmps30
    go_wp2
    go_ret3
    exact ⟨by rw [← HR0.out, ← HR1.out, ← HR2.out]; rfl, HKA.out⟩
  by_cases h3 : y3 = 3 ∧ y5 ≠ ver
  · skip
    have e1 : (y3 != 2) = true := by simp [h3.1]
    have e2 : (y3 != 3) = false := by simp [h3.1]
    have g1 : (y3 == 3) = true := by simpa using h3.1
    have g2 : (y5 != ver) = true := by simpa using h3.2
    have HE := (show outU ⟨y0, y1, y2, y3, y4, y5, y6⟩ ver room = (11, ver, false) from by unfold outU; rw [if_neg (by exact fun h => h hk), if_pos (by exact h3)])
    have HR0 : Hid (_ = r0) := Lib.hid ((congrArg Prod.fst HE).symm.trans (congrArg Prod.fst HZ.out).symm)
    have HR1 : Hid (_ = r1) := Lib.hid ((congrArg (fun z => z.2.1) HE).symm.trans (congrArg (fun z => z.2.1) HZ.out).symm)
    have HR2 : Hid (_ = r2) := Lib.hid ((congrArg (fun z => z.2.2) HE).symm.trans (congrArg (fun z => z.2.2) HZ.out).symm)
    clear HE HZ hk h3
    go_enter Tryz.func30, Tryz.ntmps30
    go_wp2
    go_ret3
    exact ⟨by rw [← HR0.out, ← HR1.out, ← HR2.out]; rfl, HKA.out⟩
  by_cases hk3 : y3 = 3
  · have hr5 : y5 = ver := Decidable.byContradiction (fun h => h3 ⟨hk3, h⟩)
    by_cases vm : ver = 18446744073709551615
    · skip
      have e1 : (y3 != 2) = true := by simp [hk3]
      have e2 : (y3 != 3) = false := by simp [hk3]
      have g1 : (y3 == 3) = true := by simpa using hk3
      have g2 : (y5 != ver) = false := by simpa using hr5
      have g4 : (ver == 18446744073709551615) = true := by simpa using vm
      have HE := (show outU ⟨y0, y1, y2, y3, y4, y5, y6⟩ ver room = (9, ver, false) from by unfold outU; rw [if_neg (by exact fun h => h hk), if_neg (by exact h3), if_pos (by exact .inl vm)])
      have HR0 : Hid (_ = r0) := Lib.hid ((congrArg Prod.fst HE).symm.trans (congrArg Prod.fst HZ.out).symm)
      have HR1 : Hid (_ = r1) := Lib.hid ((congrArg (fun z => z.2.1) HE).symm.trans (congrArg (fun z => z.2.1) HZ.out).symm)
      have HR2 : Hid (_ = r2) := Lib.hid ((congrArg (fun z => z.2.2) HE).symm.trans (congrArg (fun z => z.2.2) HZ.out).symm)
      clear HE HZ hk h3 hk3 hr5 vm
      go_enter Tryz.func30, Tryz.ntmps30
      go_wp2
      go_ret3
      exact ⟨by rw [← HR0.out, ← HR1.out, ← HR2.out]; rfl, HKA.out⟩
    have g4 : (ver == 18446744073709551615) = false := by simpa using vm
    by_cases v0 : ver = 0
    · cases room with
      | false =>
        have e1 : (y3 != 2) = true := by simp [hk3]
        have e2 : (y3 != 3) = false := by simp [hk3]
        have g1 : (y3 == 3) = true := by simpa using hk3
        have g2 : (y5 != ver) = false := by simpa using hr5
        have g3 : (ver == 0) = true := by simpa using v0
        have HE := (show outU ⟨y0, y1, y2, y3, y4, y5, y6⟩ ver false = (9, ver, false) from by unfold outU; rw [if_neg (by exact fun h => h hk), if_neg (by exact h3), if_pos (by exact .inr ⟨v0, rfl⟩)])
        have HR0 : Hid (_ = r0) := Lib.hid ((congrArg Prod.fst HE).symm.trans (congrArg Prod.fst HZ.out).symm)
        have HR1 : Hid (_ = r1) := Lib.hid ((congrArg (fun z => z.2.1) HE).symm.trans (congrArg (fun z => z.2.1) HZ.out).symm)
        have HR2 : Hid (_ = r2) := Lib.hid ((congrArg (fun z => z.2.2) HE).symm.trans (congrArg (fun z => z.2.2) HZ.out).symm)
        clear HE HZ hk h3 hk3 hr5 v0 vm
        go_enter Tryz.func30, Tryz.ntmps30
        go_wp2
        go_ret3
        exact ⟨by rw [← HR0.out, ← HR1.out, ← HR2.out]; rfl, HKA.out⟩
      | true =>
        have e1 : (y3 != 2) = true := by simp [hk3]
        have e2 : (y3 != 3) = false := by simp [hk3]
        have g1 : (y3 == 3) = true := by simpa using hk3
        have g2 : (y5 != ver) = false := by simpa using hr5
        have g3 : (ver == 0) = true := by simpa using v0
        have hw : IntKind.u64.wrap (ver + 1) = ver + 1 := IntWalk.u64_in _ (by omega)
        have HE := (show outU ⟨y0, y1, y2, y3, y4, y5, y6⟩ ver true = (0, ver + 1, true) from by unfold outU; rw [if_neg (by exact fun h => h hk), if_neg (by exact h3), if_neg (by exact fun h => h.elim (fun h => vm h) (fun h => absurd h.2 (by decide)))])
        have HR0 : Hid (_ = r0) := Lib.hid ((congrArg Prod.fst HE).symm.trans (congrArg Prod.fst HZ.out).symm)
        have HR1 : Hid (_ = r1) := Lib.hid ((congrArg (fun z => z.2.1) HE).symm.trans (congrArg (fun z => z.2.1) HZ.out).symm)
        have HR2 : Hid (_ = r2) := Lib.hid ((congrArg (fun z => z.2.2) HE).symm.trans (congrArg (fun z => z.2.2) HZ.out).symm)
        clear HE HZ hk h3 hk3 hr5 v0 vm
        go_enter Tryz.func30, Tryz.ntmps30
        go_wp2
        go_ret3
        exact ⟨by rw [← HR0.out, ← HR1.out, ← HR2.out]; rfl, HKA.out⟩
    · have g3 : (ver == 0) = false := by simpa using v0
      have e1 : (y3 != 2) = true := by simp [hk3]
      have e2 : (y3 != 3) = false := by simp [hk3]
      have g1 : (y3 == 3) = true := by simpa using hk3
      have g2 : (y5 != ver) = false := by simpa using hr5
      have hw : IntKind.u64.wrap (ver + 1) = ver + 1 := IntWalk.u64_in _ (by omega)
      have HE := (show outU ⟨y0, y1, y2, y3, y4, y5, y6⟩ ver room = (0, ver + 1, true) from by unfold outU; rw [if_neg (by exact fun h => h hk), if_neg (by exact h3), if_neg (by exact fun h => h.elim (fun h => vm h) (fun h => v0 h.1))])
      have HR0 : Hid (_ = r0) := Lib.hid ((congrArg Prod.fst HE).symm.trans (congrArg Prod.fst HZ.out).symm)
      have HR1 : Hid (_ = r1) := Lib.hid ((congrArg (fun z => z.2.1) HE).symm.trans (congrArg (fun z => z.2.1) HZ.out).symm)
      have HR2 : Hid (_ = r2) := Lib.hid ((congrArg (fun z => z.2.2) HE).symm.trans (congrArg (fun z => z.2.2) HZ.out).symm)
      clear HE HZ hk h3 hk3 hr5 v0 vm
      go_enter Tryz.func30, Tryz.ntmps30
      go_wp2
      go_ret3
      exact ⟨by rw [← HR0.out, ← HR1.out, ← HR2.out]; rfl, HKA.out⟩
  · have hk2 : y3 = 2 := hk.elim id (fun h => absurd h hk3)
    by_cases vm : ver = 18446744073709551615
    · skip
      have e1 : (y3 != 2) = false := by simp [hk2]
      have g1 : (y3 == 3) = false := by simpa using hk3
      have g4 : (ver == 18446744073709551615) = true := by simpa using vm
      have HE := (show outU ⟨y0, y1, y2, y3, y4, y5, y6⟩ ver room = (9, ver, false) from by unfold outU; rw [if_neg (by exact fun h => h hk), if_neg (by exact h3), if_pos (by exact .inl vm)])
      have HR0 : Hid (_ = r0) := Lib.hid ((congrArg Prod.fst HE).symm.trans (congrArg Prod.fst HZ.out).symm)
      have HR1 : Hid (_ = r1) := Lib.hid ((congrArg (fun z => z.2.1) HE).symm.trans (congrArg (fun z => z.2.1) HZ.out).symm)
      have HR2 : Hid (_ = r2) := Lib.hid ((congrArg (fun z => z.2.2) HE).symm.trans (congrArg (fun z => z.2.2) HZ.out).symm)
      clear HE HZ hk h3 hk3 hk2 vm
      go_enter Tryz.func30, Tryz.ntmps30
      go_wp2
      go_ret3
      exact ⟨by rw [← HR0.out, ← HR1.out, ← HR2.out]; rfl, HKA.out⟩
    have g4 : (ver == 18446744073709551615) = false := by simpa using vm
    by_cases v0 : ver = 0
    · cases room with
      | false =>
        have e1 : (y3 != 2) = false := by simp [hk2]
        have g1 : (y3 == 3) = false := by simpa using hk3
        have g3 : (ver == 0) = true := by simpa using v0
        have HE := (show outU ⟨y0, y1, y2, y3, y4, y5, y6⟩ ver false = (9, ver, false) from by unfold outU; rw [if_neg (by exact fun h => h hk), if_neg (by exact h3), if_pos (by exact .inr ⟨v0, rfl⟩)])
        have HR0 : Hid (_ = r0) := Lib.hid ((congrArg Prod.fst HE).symm.trans (congrArg Prod.fst HZ.out).symm)
        have HR1 : Hid (_ = r1) := Lib.hid ((congrArg (fun z => z.2.1) HE).symm.trans (congrArg (fun z => z.2.1) HZ.out).symm)
        have HR2 : Hid (_ = r2) := Lib.hid ((congrArg (fun z => z.2.2) HE).symm.trans (congrArg (fun z => z.2.2) HZ.out).symm)
        clear HE HZ hk h3 hk3 hk2 v0 vm
        go_enter Tryz.func30, Tryz.ntmps30
        go_wp2
        go_ret3
        exact ⟨by rw [← HR0.out, ← HR1.out, ← HR2.out]; rfl, HKA.out⟩
      | true =>
        have e1 : (y3 != 2) = false := by simp [hk2]
        have g1 : (y3 == 3) = false := by simpa using hk3
        have g3 : (ver == 0) = true := by simpa using v0
        have hw : IntKind.u64.wrap (ver + 1) = ver + 1 := IntWalk.u64_in _ (by omega)
        have HE := (show outU ⟨y0, y1, y2, y3, y4, y5, y6⟩ ver true = (0, ver + 1, true) from by unfold outU; rw [if_neg (by exact fun h => h hk), if_neg (by exact h3), if_neg (by exact fun h => h.elim (fun h => vm h) (fun h => absurd h.2 (by decide)))])
        have HR0 : Hid (_ = r0) := Lib.hid ((congrArg Prod.fst HE).symm.trans (congrArg Prod.fst HZ.out).symm)
        have HR1 : Hid (_ = r1) := Lib.hid ((congrArg (fun z => z.2.1) HE).symm.trans (congrArg (fun z => z.2.1) HZ.out).symm)
        have HR2 : Hid (_ = r2) := Lib.hid ((congrArg (fun z => z.2.2) HE).symm.trans (congrArg (fun z => z.2.2) HZ.out).symm)
        clear HE HZ hk h3 hk3 hk2 v0 vm
        go_enter Tryz.func30, Tryz.ntmps30
        go_wp2
        go_ret3
        exact ⟨by rw [← HR0.out, ← HR1.out, ← HR2.out]; rfl, HKA.out⟩
    · have g3 : (ver == 0) = false := by simpa using v0
      have e1 : (y3 != 2) = false := by simp [hk2]
      have g1 : (y3 == 3) = false := by simpa using hk3
      have hw : IntKind.u64.wrap (ver + 1) = ver + 1 := IntWalk.u64_in _ (by omega)
      have HE := (show outU ⟨y0, y1, y2, y3, y4, y5, y6⟩ ver room = (0, ver + 1, true) from by unfold outU; rw [if_neg (by exact fun h => h hk), if_neg (by exact h3), if_neg (by exact fun h => h.elim (fun h => vm h) (fun h => v0 h.1))])
      have HR0 : Hid (_ = r0) := Lib.hid ((congrArg Prod.fst HE).symm.trans (congrArg Prod.fst HZ.out).symm)
      have HR1 : Hid (_ = r1) := Lib.hid ((congrArg (fun z => z.2.1) HE).symm.trans (congrArg (fun z => z.2.1) HZ.out).symm)
      have HR2 : Hid (_ = r2) := Lib.hid ((congrArg (fun z => z.2.2) HE).symm.trans (congrArg (fun z => z.2.2) HZ.out).symm)
      clear HE HZ hk h3 hk3 hk2 v0 vm
      go_enter Tryz.func30, Tryz.ntmps30
      go_wp2
      go_ret3
      exact ⟨by rw [← HR0.out, ← HR1.out, ← HR2.out]; rfl, HKA.out⟩
end Go.Proofs.YtpdkmalfojeghaaGreatDoor
