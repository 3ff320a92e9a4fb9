/-
  Package update: isKind, Outcome; the statements' far and awake.
-/
import Derived.Test.YtnnmkmipeoajjaaGreatDoorUpdG
import Derived.Test.YtnnmkmipeoajjaaGreatDoorUpdE
namespace Go.Proofs.YtnnmkmipeoajjaaGreatDoor
open Go.RowKit
set_option linter.unusedVariables false
set_option linter.unusedSimpArgs false

/-- What comes of an update: code, version, made. -/
def outU (x : Up) (ver : Int) (room : Bool) : Int × Int × Bool :=
  if ¬ (x.k = 2 ∨ x.k = 3) then (1, ver, false) else if x.k = 3 ∧ x.r ≠ ver then (11, ver, false) else if ver = 18446744073709551615 ∨ (ver = 0 ∧ room = false) then (9, ver, false) else (0, ver + 1, true)
def OutE (r : Int × Int × Bool) (w : World) (e : Ending) (w' : World) : Prop := e = .returned (.tuple #[.int .i64 r.1, .int .u64 r.2.1, .bool r.2.2]) ∧ Kept NoB w w'
set_option maxRecDepth 100000 in
theorem UisKind_any (w : World) (k : Int) : Calls Tryz.prog 209 #[.int .i64 k] w fun e w' => e = .returned (.bool (decide (k = 2 ∨ k = 3))) ∧ w = w' := by
  by_cases h2 : k = 2
  · have g1 : (k == 2) = true := by simpa using h2
    have HR : Hid (decide (k = 2 ∨ k = 3) = true) := Lib.hid (decide_eq_true (.inl h2))
    clear h2
    go_enter Tryz.func209, Tryz.ntmps209
    go_wp2
    go_ret
    exact ⟨by rw [HR.out]; rfl, rfl⟩
  · have g1 : (k == 2) = false := by simpa using h2
    by_cases h3 : k = 3
    · have g2 : (k == 3) = true := by simpa using h3
      have HR : Hid (decide (k = 2 ∨ k = 3) = true) := Lib.hid (decide_eq_true (.inr h3))
      clear h2 h3
      go_enter Tryz.func209, Tryz.ntmps209
      go_wp2
      go_ret
      exact ⟨by rw [HR.out]; rfl, rfl⟩
    · have g2 : (k == 3) = false := by simpa using h3
      have HR : Hid (decide (k = 2 ∨ k = 3) = false) := Lib.hid (decide_eq_false (fun h => h.elim h2 h3))
      clear h2 h3
      go_enter Tryz.func209, Tryz.ntmps209
      go_wp2
      go_ret
      exact ⟨by rw [HR.out]; rfl, rfl⟩
set_option maxRecDepth 100000 in
set_option maxHeartbeats 1000000 in
theorem Outcome_any (w : World) (v : Value) (x : Up) (ver : Int) (room : Bool) (F : Nat → Prop) (h : UpV w F v x) (h0 : 0 ≤ ver) (h1 : ver ≤ 18446744073709551615) : Calls Tryz.prog 154 #[v, .int .u64 ver, .bool room] w (OutE (outU x ver room) w) := by
  obtain ⟨u, rfl, hd⟩ := h
  obtain ⟨va, vc, rfl, _⟩ := hd
  obtain ⟨y0, y1, y2, y3, y4, y5, y6⟩ := x
  simp only
  have hka := (Kept.refl NoB w).alloc (.cells #[.int .u64 y0, .int .i64 y1, .int .u64 y2, .int .i64 y3, .int .u32 y4, .int .u64 y5, .slice va y6.length vc] 62)
  have HKA := Lib.hid hka
  obtain ⟨c0, c1, c2, c3, c4, c5, c6⟩ := cells7 (heap_alloc_new w (.cells #[.int .u64 y0, .int .i64 y1, .int .u64 y2, .int .i64 y3, .int .u32 y4, .int .u64 y5, .slice va y6.length vc] 62))
  have HIK := Lib.hid (fun w => UisKind_any w y3)
  obtain ⟨z, hz⟩ : ∃ z, z = outU ⟨y0, y1, y2, y3, y4, y5, y6⟩ ver room := ⟨_, rfl⟩
  rw [← hz]
  obtain ⟨r0, r1, r2⟩ := z
  have HZ := Lib.hid hz
  clear hka c0 c1 c2 c4 c6 hz

  by_cases hk : y3 = 2 ∨ y3 = 3
  rotate_left
  · skip
    have HKB : Hid (decide (y3 = 2 ∨ y3 = 3) = false) := Lib.hid (decide_eq_false hk)
    have HE := (show outU ⟨y0, y1, y2, y3, y4, y5, y6⟩ ver room = (1, ver, false) from by unfold outU; rw [if_pos (by exact hk)])
    have HR0 : Hid (_ = r0) := Lib.hid ((congrArg Prod.fst HE).symm.trans (congrArg Prod.fst HZ.out).symm)
    have HR1 : Hid (_ = r1) := Lib.hid ((congrArg (fun z => z.2.1) HE).symm.trans (congrArg (fun z => z.2.1) HZ.out).symm)
    have HR2 : Hid (_ = r2) := Lib.hid ((congrArg (fun z => z.2.2) HE).symm.trans (congrArg (fun z => z.2.2) HZ.out).symm)
    clear HE HZ hk
    go_enter Tryz.func154, Tryz.ntmps154
    go_wp2_with fail
    refine (HIK.out _).mono ?_
    rintro e w1 ⟨rfl, rfl⟩
    rw [HKB.out]
    go_wp2
    go_ret3
    exact ⟨by rw [← HR0.out, ← HR1.out, ← HR2.out]; rfl, HKA.out⟩
  have hkb : decide (y3 = 2 ∨ y3 = 3) = true := decide_eq_true hk
  by_cases h3 : y3 = 3 ∧ y5 ≠ ver
  · skip
    have HKB : Hid (decide (y3 = 2 ∨ y3 = 3) = true) := Lib.hid (hkb)
    have g1 : (y3 == 3) = true := by simpa using h3.1
    have g2 : (y5 != ver) = true := by simpa using h3.2
    have HE := (show outU ⟨y0, y1, y2, y3, y4, y5, y6⟩ ver room = (11, ver, false) from by unfold outU; rw [if_neg (by exact fun h => h hk), if_pos (by exact h3)])
    have HR0 : Hid (_ = r0) := Lib.hid ((congrArg Prod.fst HE).symm.trans (congrArg Prod.fst HZ.out).symm)
    have HR1 : Hid (_ = r1) := Lib.hid ((congrArg (fun z => z.2.1) HE).symm.trans (congrArg (fun z => z.2.1) HZ.out).symm)
    have HR2 : Hid (_ = r2) := Lib.hid ((congrArg (fun z => z.2.2) HE).symm.trans (congrArg (fun z => z.2.2) HZ.out).symm)
    clear HE HZ hk hkb h3
    go_enter Tryz.func154, Tryz.ntmps154
    go_wp2_with fail
    refine (HIK.out _).mono ?_
    rintro e w1 ⟨rfl, rfl⟩
    rw [HKB.out]
    go_wp2
    go_ret3
    exact ⟨by rw [← HR0.out, ← HR1.out, ← HR2.out]; rfl, HKA.out⟩
  by_cases hk3 : y3 = 3
  · have hr5 : y5 = ver := Decidable.byContradiction (fun h => h3 ⟨hk3, h⟩)
    by_cases v0 : ver = 0
    · cases room with
      | false =>
        have HKB : Hid (decide (y3 = 2 ∨ y3 = 3) = true) := Lib.hid (hkb)
        have g1 : (y3 == 3) = true := by simpa using hk3
        have g2 : (y5 != ver) = false := by simpa using hr5
        have g3 : (ver == 0) = true := by simpa using v0
        have HE := (show outU ⟨y0, y1, y2, y3, y4, y5, y6⟩ ver false = (9, ver, false) from by unfold outU; rw [if_neg (by exact fun h => h hk), if_neg (by exact h3), if_pos (by exact .inr ⟨v0, rfl⟩)])
        have HR0 : Hid (_ = r0) := Lib.hid ((congrArg Prod.fst HE).symm.trans (congrArg Prod.fst HZ.out).symm)
        have HR1 : Hid (_ = r1) := Lib.hid ((congrArg (fun z => z.2.1) HE).symm.trans (congrArg (fun z => z.2.1) HZ.out).symm)
        have HR2 : Hid (_ = r2) := Lib.hid ((congrArg (fun z => z.2.2) HE).symm.trans (congrArg (fun z => z.2.2) HZ.out).symm)
        clear HE HZ hk hkb h3 hk3 hr5 v0
        go_enter Tryz.func154, Tryz.ntmps154
        go_wp2_with fail
        refine (HIK.out _).mono ?_
        rintro e w1 ⟨rfl, rfl⟩
        rw [HKB.out]
        go_wp2
        go_ret3
        exact ⟨by rw [← HR0.out, ← HR1.out, ← HR2.out]; rfl, HKA.out⟩
      | true =>
        have HKB : Hid (decide (y3 = 2 ∨ y3 = 3) = true) := Lib.hid (hkb)
        have g1 : (y3 == 3) = true := by simpa using hk3
        have g2 : (y5 != ver) = false := by simpa using hr5
        have g3 : (ver == 0) = true := by simpa using v0
        have g4 : (ver == 18446744073709551615) = false := by simp; omega
        have hw : IntKind.u64.wrap (ver + 1) = ver + 1 := IntWalk.u64_in _ (by omega)
        have HE := (show outU ⟨y0, y1, y2, y3, y4, y5, y6⟩ ver true = (0, ver + 1, true) from by unfold outU; rw [if_neg (by exact fun h => h hk), if_neg (by exact h3), if_neg (by exact fun h => h.elim (fun h => by omega) (fun h => absurd h.2 (by decide)))])
        have HR0 : Hid (_ = r0) := Lib.hid ((congrArg Prod.fst HE).symm.trans (congrArg Prod.fst HZ.out).symm)
        have HR1 : Hid (_ = r1) := Lib.hid ((congrArg (fun z => z.2.1) HE).symm.trans (congrArg (fun z => z.2.1) HZ.out).symm)
        have HR2 : Hid (_ = r2) := Lib.hid ((congrArg (fun z => z.2.2) HE).symm.trans (congrArg (fun z => z.2.2) HZ.out).symm)
        clear HE HZ hk hkb h3 hk3 hr5 v0
        go_enter Tryz.func154, Tryz.ntmps154
        go_wp2_with fail
        refine (HIK.out _).mono ?_
        rintro e w1 ⟨rfl, rfl⟩
        rw [HKB.out]
        go_wp2
        go_ret3
        exact ⟨by rw [← HR0.out, ← HR1.out, ← HR2.out]; rfl, HKA.out⟩
    · have g3 : (ver == 0) = false := by simpa using v0
      by_cases vm : ver = 18446744073709551615
      · skip
        have HKB : Hid (decide (y3 = 2 ∨ y3 = 3) = true) := Lib.hid (hkb)
        have g1 : (y3 == 3) = true := by simpa using hk3
        have g2 : (y5 != ver) = false := by simpa using hr5
        have g4 : (ver == 18446744073709551615) = true := by simpa using vm
        have HE := (show outU ⟨y0, y1, y2, y3, y4, y5, y6⟩ ver room = (9, ver, false) from by unfold outU; rw [if_neg (by exact fun h => h hk), if_neg (by exact h3), if_pos (by exact .inl vm)])
        have HR0 : Hid (_ = r0) := Lib.hid ((congrArg Prod.fst HE).symm.trans (congrArg Prod.fst HZ.out).symm)
        have HR1 : Hid (_ = r1) := Lib.hid ((congrArg (fun z => z.2.1) HE).symm.trans (congrArg (fun z => z.2.1) HZ.out).symm)
        have HR2 : Hid (_ = r2) := Lib.hid ((congrArg (fun z => z.2.2) HE).symm.trans (congrArg (fun z => z.2.2) HZ.out).symm)
        clear HE HZ hk hkb h3 hk3 hr5 v0 vm
        go_enter Tryz.func154, Tryz.ntmps154
        go_wp2_with fail
        refine (HIK.out _).mono ?_
        rintro e w1 ⟨rfl, rfl⟩
        rw [HKB.out]
        go_wp2
        go_ret3
        exact ⟨by rw [← HR0.out, ← HR1.out, ← HR2.out]; rfl, HKA.out⟩
      · skip
        have HKB : Hid (decide (y3 = 2 ∨ y3 = 3) = true) := Lib.hid (hkb)
        have g1 : (y3 == 3) = true := by simpa using hk3
        have g2 : (y5 != ver) = false := by simpa using hr5
        have g4 : (ver == 18446744073709551615) = false := by simpa using vm
        have hw : IntKind.u64.wrap (ver + 1) = ver + 1 := IntWalk.u64_in _ (by omega)
        have HE := (show outU ⟨y0, y1, y2, y3, y4, y5, y6⟩ ver room = (0, ver + 1, true) from by unfold outU; rw [if_neg (by exact fun h => h hk), if_neg (by exact h3), if_neg (by exact fun h => h.elim (fun h => vm h) (fun h => v0 h.1))])
        have HR0 : Hid (_ = r0) := Lib.hid ((congrArg Prod.fst HE).symm.trans (congrArg Prod.fst HZ.out).symm)
        have HR1 : Hid (_ = r1) := Lib.hid ((congrArg (fun z => z.2.1) HE).symm.trans (congrArg (fun z => z.2.1) HZ.out).symm)
        have HR2 : Hid (_ = r2) := Lib.hid ((congrArg (fun z => z.2.2) HE).symm.trans (congrArg (fun z => z.2.2) HZ.out).symm)
        clear HE HZ hk hkb h3 hk3 hr5 v0 vm
        go_enter Tryz.func154, Tryz.ntmps154
        go_wp2_with fail
        refine (HIK.out _).mono ?_
        rintro e w1 ⟨rfl, rfl⟩
        rw [HKB.out]
        go_wp2
        go_ret3
        exact ⟨by rw [← HR0.out, ← HR1.out, ← HR2.out]; rfl, HKA.out⟩
  · skip
    by_cases v0 : ver = 0
    · cases room with
      | false =>
        have HKB : Hid (decide (y3 = 2 ∨ y3 = 3) = true) := Lib.hid (hkb)
        have g1 : (y3 == 3) = false := by simpa using hk3
        have g3 : (ver == 0) = true := by simpa using v0
        have HE := (show outU ⟨y0, y1, y2, y3, y4, y5, y6⟩ ver false = (9, ver, false) from by unfold outU; rw [if_neg (by exact fun h => h hk), if_neg (by exact h3), if_pos (by exact .inr ⟨v0, rfl⟩)])
        have HR0 : Hid (_ = r0) := Lib.hid ((congrArg Prod.fst HE).symm.trans (congrArg Prod.fst HZ.out).symm)
        have HR1 : Hid (_ = r1) := Lib.hid ((congrArg (fun z => z.2.1) HE).symm.trans (congrArg (fun z => z.2.1) HZ.out).symm)
        have HR2 : Hid (_ = r2) := Lib.hid ((congrArg (fun z => z.2.2) HE).symm.trans (congrArg (fun z => z.2.2) HZ.out).symm)
        clear HE HZ hk hkb h3 hk3 v0
        go_enter Tryz.func154, Tryz.ntmps154
        go_wp2_with fail
        refine (HIK.out _).mono ?_
        rintro e w1 ⟨rfl, rfl⟩
        rw [HKB.out]
        go_wp2
        go_ret3
        exact ⟨by rw [← HR0.out, ← HR1.out, ← HR2.out]; rfl, HKA.out⟩
      | true =>
        have HKB : Hid (decide (y3 = 2 ∨ y3 = 3) = true) := Lib.hid (hkb)
        have g1 : (y3 == 3) = false := by simpa using hk3
        have g3 : (ver == 0) = true := by simpa using v0
        have g4 : (ver == 18446744073709551615) = false := by simp; omega
        have hw : IntKind.u64.wrap (ver + 1) = ver + 1 := IntWalk.u64_in _ (by omega)
        have HE := (show outU ⟨y0, y1, y2, y3, y4, y5, y6⟩ ver true = (0, ver + 1, true) from by unfold outU; rw [if_neg (by exact fun h => h hk), if_neg (by exact h3), if_neg (by exact fun h => h.elim (fun h => by omega) (fun h => absurd h.2 (by decide)))])
        have HR0 : Hid (_ = r0) := Lib.hid ((congrArg Prod.fst HE).symm.trans (congrArg Prod.fst HZ.out).symm)
        have HR1 : Hid (_ = r1) := Lib.hid ((congrArg (fun z => z.2.1) HE).symm.trans (congrArg (fun z => z.2.1) HZ.out).symm)
        have HR2 : Hid (_ = r2) := Lib.hid ((congrArg (fun z => z.2.2) HE).symm.trans (congrArg (fun z => z.2.2) HZ.out).symm)
        clear HE HZ hk hkb h3 hk3 v0
        go_enter Tryz.func154, Tryz.ntmps154
        go_wp2_with fail
        refine (HIK.out _).mono ?_
        rintro e w1 ⟨rfl, rfl⟩
        rw [HKB.out]
        go_wp2
        go_ret3
        exact ⟨by rw [← HR0.out, ← HR1.out, ← HR2.out]; rfl, HKA.out⟩
    · have g3 : (ver == 0) = false := by simpa using v0
      by_cases vm : ver = 18446744073709551615
      · skip
        have HKB : Hid (decide (y3 = 2 ∨ y3 = 3) = true) := Lib.hid (hkb)
        have g1 : (y3 == 3) = false := by simpa using hk3
        have g4 : (ver == 18446744073709551615) = true := by simpa using vm
        have HE := (show outU ⟨y0, y1, y2, y3, y4, y5, y6⟩ ver room = (9, ver, false) from by unfold outU; rw [if_neg (by exact fun h => h hk), if_neg (by exact h3), if_pos (by exact .inl vm)])
        have HR0 : Hid (_ = r0) := Lib.hid ((congrArg Prod.fst HE).symm.trans (congrArg Prod.fst HZ.out).symm)
        have HR1 : Hid (_ = r1) := Lib.hid ((congrArg (fun z => z.2.1) HE).symm.trans (congrArg (fun z => z.2.1) HZ.out).symm)
        have HR2 : Hid (_ = r2) := Lib.hid ((congrArg (fun z => z.2.2) HE).symm.trans (congrArg (fun z => z.2.2) HZ.out).symm)
        clear HE HZ hk hkb h3 hk3 v0 vm
        go_enter Tryz.func154, Tryz.ntmps154
        go_wp2_with fail
        refine (HIK.out _).mono ?_
        rintro e w1 ⟨rfl, rfl⟩
        rw [HKB.out]
        go_wp2
        go_ret3
        exact ⟨by rw [← HR0.out, ← HR1.out, ← HR2.out]; rfl, HKA.out⟩
      · skip
        have HKB : Hid (decide (y3 = 2 ∨ y3 = 3) = true) := Lib.hid (hkb)
        have g1 : (y3 == 3) = false := by simpa using hk3
        have g4 : (ver == 18446744073709551615) = false := by simpa using vm
        have hw : IntKind.u64.wrap (ver + 1) = ver + 1 := IntWalk.u64_in _ (by omega)
        have HE := (show outU ⟨y0, y1, y2, y3, y4, y5, y6⟩ ver room = (0, ver + 1, true) from by unfold outU; rw [if_neg (by exact fun h => h hk), if_neg (by exact h3), if_neg (by exact fun h => h.elim (fun h => vm h) (fun h => v0 h.1))])
        have HR0 : Hid (_ = r0) := Lib.hid ((congrArg Prod.fst HE).symm.trans (congrArg Prod.fst HZ.out).symm)
        have HR1 : Hid (_ = r1) := Lib.hid ((congrArg (fun z => z.2.1) HE).symm.trans (congrArg (fun z => z.2.1) HZ.out).symm)
        have HR2 : Hid (_ = r2) := Lib.hid ((congrArg (fun z => z.2.2) HE).symm.trans (congrArg (fun z => z.2.2) HZ.out).symm)
        clear HE HZ hk hkb h3 hk3 v0 vm
        go_enter Tryz.func154, Tryz.ntmps154
        go_wp2_with fail
        refine (HIK.out _).mono ?_
        rintro e w1 ⟨rfl, rfl⟩
        rw [HKB.out]
        go_wp2
        go_ret3
        exact ⟨by rw [← HR0.out, ← HR1.out, ← HR2.out]; rfl, HKA.out⟩
/-- What is looked at. -/
def farU (l : List Up) : Bool := l.any (fun x => decide (2100 < x.d.length)) || decide (40 < l.length)
theorem farU_not {l : List Up} (h : farU l = false) : l.length ≤ 40 ∧ ∀ x ∈ l, x.d.length ≤ 2100 := by
  unfold farU at h
  rw [Bool.or_eq_false_iff] at h
  have h2 := of_decide_eq_false h.2
  refine ⟨by omega, fun x hx => ?_⟩
  have h1 := List.any_eq_false.1 h.1 x hx
  simp at h1
  omega
def exU : Up := ⟨0, 0, 0, 3, 0, 3, []⟩
end Go.Proofs.YtnnmkmipeoajjaaGreatDoor
