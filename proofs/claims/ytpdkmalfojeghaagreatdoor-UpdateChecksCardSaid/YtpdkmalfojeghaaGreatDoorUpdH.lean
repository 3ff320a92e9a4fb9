/-
  Package update: isKind, Outcome; the statements' far and awake.
-/
import Derived.Test.YtpdkmalfojeghaaGreatDoorUpdG
import Derived.Test.YtpdkmalfojeghaaGreatDoorUpdE
namespace Go.Proofs.YtpdkmalfojeghaaGreatDoor
open Go.RowKit
set_option linter.unusedVariables false
set_option linter.unusedSimpArgs false

/-- What comes of an update: code, version, made. -/
def outU (x : Up) (ver : Int) (room : Bool) : Int × Int × Bool :=
  if ¬ (x.k = 2 ∨ x.k = 3) then (1, ver, false) else if x.k = 3 ∧ x.r ≠ ver then (11, ver, false) else if ver = 18446744073709551615 ∨ (ver = 0 ∧ room = false) then (9, ver, false) else (0, ver + 1, true)
def OutE (r : Int × Int × Bool) (w : World) (e : Ending) (w' : World) : Prop := e = .returned (.tuple #[.int .i64 r.1, .int .u64 r.2.1, .bool r.2.2]) ∧ Kept NoB w w'
set_option maxRecDepth 100000 in
theorem UisKind_any (w : World) (k : Int) : Calls Tryz.prog 80 #[.int .i64 k] w fun e w' => e = .returned (.bool (decide (k = 2 ∨ k = 3))) ∧ w = w' := by
  by_cases h2 : k = 2
  · have g1 : (k == 2) = true := by simpa using h2
    have HR : Hid (decide (k = 2 ∨ k = 3) = true) := Lib.hid (decide_eq_true (.inl h2))
    clear h2
    go_enter Tryz.func80, Tryz.ntmps80
    go_wp2
    go_ret
    exact ⟨by rw [HR.out]; rfl, rfl⟩
  · have g1 : (k == 2) = false := by simpa using h2
    by_cases h3 : k = 3
    · have g2 : (k == 3) = true := by simpa using h3
      have HR : Hid (decide (k = 2 ∨ k = 3) = true) := Lib.hid (decide_eq_true (.inr h3))
      clear h2 h3
      go_enter Tryz.func80, Tryz.ntmps80
      go_wp2
      go_ret
      exact ⟨by rw [HR.out]; rfl, rfl⟩
    · have g2 : (k == 3) = false := by simpa using h3
      have HR : Hid (decide (k = 2 ∨ k = 3) = false) := Lib.hid (decide_eq_false (fun h => h.elim h2 h3))
      clear h2 h3
      go_enter Tryz.func80, Tryz.ntmps80
      go_wp2
      go_ret
      exact ⟨by rw [HR.out]; rfl, rfl⟩
set_option maxRecDepth 100000 in
set_option maxHeartbeats 1000000 in
theorem Outcome_any (w : World) (v : Value) (x : Up) (ver : Int) (room : Bool) (F : Nat → Prop) (h : UpV w F v x) (h0 : 0 ≤ ver) (h1 : ver ≤ 18446744073709551615) : Calls Tryz.prog 29 #[v, .int .u64 ver, .bool room] w (OutE (outU x ver room) w) := by
  obtain ⟨u, rfl, hd⟩ := h
  obtain ⟨va, vc, rfl, _⟩ := hd
  obtain ⟨y0, y1, y2, y3, y4, y5, y6⟩ := x
  simp only
  have hka := (Kept.refl NoB w).alloc (.cells #[.int .u64 y0, .int .i64 y1, .int .u64 y2, .int .i64 y3, .int .u32 y4, .int .u64 y5, .slice va y6.length vc] 43)
  have HKA := Lib.hid hka
  obtain ⟨c0, c1, c2, c3, c4, c5, c6⟩ := cells7 (heap_alloc_new w (.cells #[.int .u64 y0, .int .i64 y1, .int .u64 y2, .int .i64 y3, .int .u32 y4, .int .u64 y5, .slice va y6.length vc] 43))
  have HIK := Lib.hid (fun w => UisKind_any w y3)
  obtain ⟨z, hz⟩ : ∃ z, z = outU ⟨y0, y1, y2, y3, y4, y5, y6⟩ ver room := ⟨_, rfl⟩
  rw [← hz]
  obtain ⟨r0, r1, r2⟩ := z
  have HZ := Lib.hid hz
  clear hka c0 c1 c2 c4 c6 hz

  by_cases hk : y3 = 2 ∨ y3 = 3
  rotate_left
  · skip
    have HKB : Hid (decide (y3 = 2 ∨ y3 = 3) = false) := Lib.hid (decide_eq_false hk)
    have HE := (show outU ⟨y0, y1, y2, y3, y4, y5, y6⟩ ver room = (1, ver, false) from by unfold outU; rw [if_pos (by exact hk)])
    have HR0 : Hid (_ = r0) := Lib.hid ((congrArg Prod.fst HE).symm.trans (congrArg Prod.fst HZ.out).symm)
    have HR1 : Hid (_ = r1) := Lib.hid ((congrArg (fun z => z.2.1) HE).symm.trans (congrArg (fun z => z.2.1) HZ.out).symm)
    have HR2 : Hid (_ = r2) := Lib.hid ((congrArg (fun z => z.2.2) HE).symm.trans (congrArg (fun z => z.2.2) HZ.out).symm)
    clear HE HZ hk
    go_enter Tryz.func29, Tryz.ntmps29
    go_wp2_with fail
    refine (HIK.out _).mono ?_
    rintro e w1 ⟨rfl, rfl⟩
    rw [HKB.out]
    go_wp2
    go_ret3
    exact ⟨by rw [← HR0.out, ← HR1.out, ← HR2.out]; rfl, HKA.out⟩
  have hkb : decide (y3 = 2 ∨ y3 = 3) = true := decide_eq_true hk
  by_cases h3 : y3 = 3 ∧ y5 ≠ ver
  · skip
    have HKB : Hid (decide (y3 = 2 ∨ y3 = 3) = true) := Lib.hid (hkb)
    have g1 : (y3 == 3) = true := by simpa using h3.1
    have g2 : (y5 != ver) = true := by simpa using h3.2
    have HE := (show outU ⟨y0, y1, y2, y3, y4, y5, y6⟩ ver room = (11, ver, false) from by unfold outU; rw [if_neg (by exact fun h => h hk), if_pos (by exact h3)])
    have HR0 : Hid (_ = r0) := Lib.hid ((congrArg Prod.fst HE).symm.trans (congrArg Prod.fst HZ.out).symm)
    have HR1 : Hid (_ = r1) := Lib.hid ((congrArg (fun z => z.2.1) HE).symm.trans (congrArg (fun z => z.2.1) HZ.out).symm)
    have HR2 : Hid (_ = r2) := Lib.hid ((congrArg (fun z => z.2.2) HE).symm.trans (congrArg (fun z => z.2.2) HZ.out).symm)
    clear HE HZ hk hkb h3
    go_enter Tryz.func29, Tryz.ntmps29
    go_wp2_with fail
    refine (HIK.out _).mono ?_
    rintro e w1 ⟨rfl, rfl⟩
    rw [HKB.out]
    go_wp2
    go_ret3
    exact ⟨by rw [← HR0.out, ← HR1.out, ← HR2.out]; rfl, HKA.out⟩
  by_cases hk3 : y3 = 3
  · have hr5 : y5 = ver := Decidable.byContradiction (fun h => h3 ⟨hk3, h⟩)
    by_cases v0 : ver = 0
    · cases room with
      | false =>
        have HKB : Hid (decide (y3 = 2 ∨ y3 = 3) = true) := Lib.hid (hkb)
        have g1 : (y3 == 3) = true := by simpa using hk3
        have g2 : (y5 != ver) = false := by simpa using hr5
        have g3 : (ver == 0) = true := by simpa using v0
        have HE := (show outU ⟨y0, y1, y2, y3, y4, y5, y6⟩ ver false = (9, ver, false) from by unfold outU; rw [if_neg (by exact fun h => h hk), if_neg (by exact h3), if_pos (by exact .inr ⟨v0, rfl⟩)])
        have HR0 : Hid (_ = r0) := Lib.hid ((congrArg Prod.fst HE).symm.trans (congrArg Prod.fst HZ.out).symm)
        have HR1 : Hid (_ = r1) := Lib.hid ((congrArg (fun z => z.2.1) HE).symm.trans (congrArg (fun z => z.2.1) HZ.out).symm)
        have HR2 : Hid (_ = r2) := Lib.hid ((congrArg (fun z => z.2.2) HE).symm.trans (congrArg (fun z => z.2.2) HZ.out).symm)
        clear HE HZ hk hkb h3 hk3 hr5 v0
        go_enter Tryz.func29, Tryz.ntmps29
        go_wp2_with fail
        refine (HIK.out _).mono ?_
        rintro e w1 ⟨rfl, rfl⟩
        rw [HKB.out]
        go_wp2
        go_ret3
        exact ⟨by rw [← HR0.out, ← HR1.out, ← HR2.out]; rfl, HKA.out⟩
      | true =>
        have HKB : Hid (decide (y3 = 2 ∨ y3 = 3) = true) := Lib.hid (hkb)
        have g1 : (y3 == 3) = true := by simpa using hk3
        have g2 : (y5 != ver) = false := by simpa using hr5
        have g3 : (ver == 0) = true := by simpa using v0
        have g4 : (ver == 18446744073709551615) = false := by simp; omega
        have hw : IntKind.u64.wrap (ver + 1) = ver + 1 := IntWalk.u64_in _ (by omega)
        have HE := (show outU ⟨y0, y1, y2, y3, y4, y5, y6⟩ ver true = (0, ver + 1, true) from by unfold outU; rw [if_neg (by exact fun h => h hk), if_neg (by exact h3), if_neg (by exact fun h => h.elim (fun h => by omega) (fun h => absurd h.2 (by decide)))])
        have HR0 : Hid (_ = r0) := Lib.hid ((congrArg Prod.fst HE).symm.trans (congrArg Prod.fst HZ.out).symm)
        have HR1 : Hid (_ = r1) := Lib.hid ((congrArg (fun z => z.2.1) HE).symm.trans (congrArg (fun z => z.2.1) HZ.out).symm)
        have HR2 : Hid (_ = r2) := Lib.hid ((congrArg (fun z => z.2.2) HE).symm.trans (congrArg (fun z => z.2.2) HZ.out).symm)
        clear HE HZ hk hkb h3 hk3 hr5 v0
        go_enter Tryz.func29, Tryz.ntmps29
        go_wp2_with fail
        refine (HIK.out _).mono ?_
        rintro e w1 ⟨rfl, rfl⟩
        rw [HKB.out]
        go_wp2
        go_ret3
        exact ⟨by rw [← HR0.out, ← HR1.out, ← HR2.out]; rfl, HKA.out⟩
    · have g3 : (ver == 0) = false := by simpa using v0
      by_cases vm : ver = 18446744073709551615
      · skip
        have HKB : Hid (decide (y3 = 2 ∨ y3 = 3) = true) := Lib.hid (hkb)
        have g1 : (y3 == 3) = true := by simpa using hk3
        have g2 : (y5 != ver) = false := by simpa using hr5
        have g4 : (ver == 18446744073709551615) = true := by simpa using vm
        have HE := (show outU ⟨y0, y1, y2, y3, y4, y5, y6⟩ ver room = (9, ver, false) from by unfold outU; rw [if_neg (by exact fun h => h hk), if_neg (by exact h3), if_pos (by exact .inl vm)])
        have HR0 : Hid (_ = r0) := Lib.hid ((congrArg Prod.fst HE).symm.trans (congrArg Prod.fst HZ.out).symm)
        have HR1 : Hid (_ = r1) := Lib.hid ((congrArg (fun z => z.2.1) HE).symm.trans (congrArg (fun z => z.2.1) HZ.out).symm)
        have HR2 : Hid (_ = r2) := Lib.hid ((congrArg (fun z => z.2.2) HE).symm.trans (congrArg (fun z => z.2.2) HZ.out).symm)
        clear HE HZ hk hkb h3 hk3 hr5 v0 vm
        go_enter Tryz.func29, Tryz.ntmps29
        go_wp2_with fail
        refine (HIK.out _).mono ?_
        rintro e w1 ⟨rfl, rfl⟩
        rw [HKB.out]
        go_wp2
        go_ret3
        exact ⟨by rw [← HR0.out, ← HR1.out, ← HR2.out]; rfl, HKA.out⟩
      · skip
        have HKB : Hid (decide (y3 = 2 ∨ y3 = 3) = true) := Lib.hid (hkb)
        have g1 : (y3 == 3) = true := by simpa using hk3
        have g2 : (y5 != ver) = false := by simpa using hr5
        have g4 : (ver == 18446744073709551615) = false := by simpa using vm
        have hw : IntKind.u64.wrap (ver + 1) = ver + 1 := IntWalk.u64_in _ (by omega)
        have HE := (show outU ⟨y0, y1, y2, y3, y4, y5, y6⟩ ver room = (0, ver + 1, true) from by unfold outU; rw [if_neg (by exact fun h => h hk), if_neg (by exact h3), if_neg (by exact fun h => h.elim (fun h => vm h) (fun h => v0 h.1))])
        have HR0 : Hid (_ = r0) := Lib.hid ((congrArg Prod.fst HE).symm.trans (congrArg Prod.fst HZ.out).symm)
        have HR1 : Hid (_ = r1) := Lib.hid ((congrArg (fun z => z.2.1) HE).symm.trans (congrArg (fun z => z.2.1) HZ.out).symm)
        have HR2 : Hid (_ = r2) := Lib.hid ((congrArg (fun z => z.2.2) HE).symm.trans (congrArg (fun z => z.2.2) HZ.out).symm)
        clear HE HZ hk hkb h3 hk3 hr5 v0 vm
        go_enter Tryz.func29, Tryz.ntmps29
        go_wp2_with fail
        refine (HIK.out _).mono ?_
        rintro e w1 ⟨rfl, rfl⟩
        rw [HKB.out]
        go_wp2
        go_ret3
        exact ⟨by rw [← HR0.out, ← HR1.out, ← HR2.out]; rfl, HKA.out⟩
  · skip
    by_cases v0 : ver = 0
    · cases room with
      | false =>
        have HKB : Hid (decide (y3 = 2 ∨ y3 = 3) = true) := Lib.hid (hkb)
        have g1 : (y3 == 3) = false := by simpa using hk3
        have g3 : (ver == 0) = true := by simpa using v0
        have HE := (show outU ⟨y0, y1, y2, y3, y4, y5, y6⟩ ver false = (9, ver, false) from by unfold outU; rw [if_neg (by exact fun h => h hk), if_neg (by exact h3), if_pos (by exact .inr ⟨v0, rfl⟩)])
        have HR0 : Hid (_ = r0) := Lib.hid ((congrArg Prod.fst HE).symm.trans (congrArg Prod.fst HZ.out).symm)
        have HR1 : Hid (_ = r1) := Lib.hid ((congrArg (fun z => z.2.1) HE).symm.trans (congrArg (fun z => z.2.1) HZ.out).symm)
        have HR2 : Hid (_ = r2) := Lib.hid ((congrArg (fun z => z.2.2) HE).symm.trans (congrArg (fun z => z.2.2) HZ.out).symm)
        clear HE HZ hk hkb h3 hk3 v0
        go_enter Tryz.func29, Tryz.ntmps29
        go_wp2_with fail
        refine (HIK.out _).mono ?_
        rintro e w1 ⟨rfl, rfl⟩
        rw [HKB.out]
        go_wp2
        go_ret3
        exact ⟨by rw [← HR0.out, ← HR1.out, ← HR2.out]; rfl, HKA.out⟩
      | true =>
        have HKB : Hid (decide (y3 = 2 ∨ y3 = 3) = true) := Lib.hid (hkb)
        have g1 : (y3 == 3) = false := by simpa using hk3
        have g3 : (ver == 0) = true := by simpa using v0
        have g4 : (ver == 18446744073709551615) = false := by simp; omega
        have hw : IntKind.u64.wrap (ver + 1) = ver + 1 := IntWalk.u64_in _ (by omega)
        have HE := (show outU ⟨y0, y1, y2, y3, y4, y5, y6⟩ ver true = (0, ver + 1, true) from by unfold outU; rw [if_neg (by exact fun h => h hk), if_neg (by exact h3), if_neg (by exact fun h => h.elim (fun h => by omega) (fun h => absurd h.2 (by decide)))])
        have HR0 : Hid (_ = r0) := Lib.hid ((congrArg Prod.fst HE).symm.trans (congrArg Prod.fst HZ.out).symm)
        have HR1 : Hid (_ = r1) := Lib.hid ((congrArg (fun z => z.2.1) HE).symm.trans (congrArg (fun z => z.2.1) HZ.out).symm)
        have HR2 : Hid (_ = r2) := Lib.hid ((congrArg (fun z => z.2.2) HE).symm.trans (congrArg (fun z => z.2.2) HZ.out).symm)
        clear HE HZ hk hkb h3 hk3 v0
        go_enter Tryz.func29, Tryz.ntmps29
        go_wp2_with fail
        refine (HIK.out _).mono ?_
        rintro e w1 ⟨rfl, rfl⟩
        rw [HKB.out]
        go_wp2
        go_ret3
        exact ⟨by rw [← HR0.out, ← HR1.out, ← HR2.out]; rfl, HKA.out⟩
    · have g3 : (ver == 0) = false := by simpa using v0
      by_cases vm : ver = 18446744073709551615
      · skip
        have HKB : Hid (decide (y3 = 2 ∨ y3 = 3) = true) := Lib.hid (hkb)
        have g1 : (y3 == 3) = false := by simpa using hk3
        have g4 : (ver == 18446744073709551615) = true := by simpa using vm
        have HE := (show outU ⟨y0, y1, y2, y3, y4, y5, y6⟩ ver room = (9, ver, false) from by unfold outU; rw [if_neg (by exact fun h => h hk), if_neg (by exact h3), if_pos (by exact .inl vm)])
        have HR0 : Hid (_ = r0) := Lib.hid ((congrArg Prod.fst HE).symm.trans (congrArg Prod.fst HZ.out).symm)
        have HR1 : Hid (_ = r1) := Lib.hid ((congrArg (fun z => z.2.1) HE).symm.trans (congrArg (fun z => z.2.1) HZ.out).symm)
        have HR2 : Hid (_ = r2) := Lib.hid ((congrArg (fun z => z.2.2) HE).symm.trans (congrArg (fun z => z.2.2) HZ.out).symm)
        clear HE HZ hk hkb h3 hk3 v0 vm
        go_enter Tryz.func29, Tryz.ntmps29
        go_wp2_with fail
        refine (HIK.out _).mono ?_
        rintro e w1 ⟨rfl, rfl⟩
        rw [HKB.out]
        go_wp2
        go_ret3
        exact ⟨by rw [← HR0.out, ← HR1.out, ← HR2.out]; rfl, HKA.out⟩
      · skip
        have HKB : Hid (decide (y3 = 2 ∨ y3 = 3) = true) := Lib.hid (hkb)
        have g1 : (y3 == 3) = false := by simpa using hk3
        have g4 : (ver == 18446744073709551615) = false := by simpa using vm
        have hw : IntKind.u64.wrap (ver + 1) = ver + 1 := IntWalk.u64_in _ (by omega)
        have HE := (show outU ⟨y0, y1, y2, y3, y4, y5, y6⟩ ver room = (0, ver + 1, true) from by unfold outU; rw [if_neg (by exact fun h => h hk), if_neg (by exact h3), if_neg (by exact fun h => h.elim (fun h => vm h) (fun h => v0 h.1))])
        have HR0 : Hid (_ = r0) := Lib.hid ((congrArg Prod.fst HE).symm.trans (congrArg Prod.fst HZ.out).symm)
        have HR1 : Hid (_ = r1) := Lib.hid ((congrArg (fun z => z.2.1) HE).symm.trans (congrArg (fun z => z.2.1) HZ.out).symm)
        have HR2 : Hid (_ = r2) := Lib.hid ((congrArg (fun z => z.2.2) HE).symm.trans (congrArg (fun z => z.2.2) HZ.out).symm)
        clear HE HZ hk hkb h3 hk3 v0 vm
        go_enter Tryz.func29, Tryz.ntmps29
        go_wp2_with fail
        refine (HIK.out _).mono ?_
        rintro e w1 ⟨rfl, rfl⟩
        rw [HKB.out]
        go_wp2
        go_ret3
        exact ⟨by rw [← HR0.out, ← HR1.out, ← HR2.out]; rfl, HKA.out⟩
/-- What is looked at. -/
def farU (l : List Up) : Bool := l.any (fun x => decide (2100 < x.d.length)) || decide (40 < l.length)
set_option maxRecDepth 100000 in
set_option maxHeartbeats 1000000 in
theorem far17_any (w : World) (v : Value) (l : List Up) (F : Nat → Prop) (h : UsAt w F v l) : Calls Tryz.prog 27 #[v] w fun e w' => e = .returned (.bool (farU l)) ∧ Kept NoB w w' := by
  obtain ⟨a, c, rfl⟩ := h.form
  have hlen := h.len
  unfold maxLen at hlen
  have hll : (l.length : Int) ≤ 9223372036854775807 := by omega
  have HU := Lib.hid h
  clear h hlen
  go_enter Tryz.func27, Tryz.ntmps27
  go_wp2
  go_loopw [3] (fun iv wr => ∃ k : Nat, k ≤ l.length ∧ iv = .int .i64 k ∧ (l.take k).any (fun x => decide (2100 < x.d.length)) = false ∧ Kept NoB w wr) (fun i _ => l.length - (RowKit.intOf i).toNat)
  case atStart => exact ⟨0, Nat.zero_le _, rfl, by simp, Kept.refl _ _⟩
  case round =>
    obtain ⟨k, hk, rfl, hno, hK⟩ := hrel
    have HN := Lib.hid hno
    have HK := Lib.hid hK
    have hk0 : (0 : Int) ≤ (k : Int) := by omega
    clear hno
    by_cases hlt : k < l.length
    · have hk1 : (k : Int) < (l.length : Int) := by omega
      obtain ⟨b, o, rfl, hFb, hb, u, e0, e1, e2, e3, e4, e5, e6, hdd⟩ := (HU.out.no hK).at_ hlt
      have HSS := Lib.hid (takeU hlt)
      have HA : Hid (nthU l k ∈ l) := Lib.hid (by rw [nthU_at hlt]; exact List.getElem_mem _)
      obtain ⟨y, hy⟩ : ∃ y, y = nthU l k := ⟨_, rfl⟩
      rw [← hy] at hdd HSS HA
      obtain ⟨va, vc, rfl, _⟩ := hdd
      clear hy e0 e1 e2 e3 e4 e5 hFb hb hK
      by_cases hbig : 2100 < y.d.length
      · have g1 : decide ((2100 : Int) < (y.d.length : Int)) = true := decide_eq_true (by omega)
        have HR : Hid (farU l = true) := Lib.hid (by unfold farU; rw [List.any_eq_true.2 ⟨y, HA.out, by simpa using hbig⟩]; rfl)
        clear hbig
        go_wp2
        go_ret
        exact ⟨by rw [HR.out]; rfl, HK.out⟩
      · have g1 : decide ((2100 : Int) < (y.d.length : Int)) = false := decide_eq_false (by omega)
        have HR : Hid ((l.take (k + 1)).any (fun x => decide (2100 < x.d.length)) = false) := Lib.hid (by rw [HSS.out, List.any_append, HN.out]; simp; omega)
        clear hbig
        go_wp2
        exact ⟨⟨k + 1, by omega, by go_num, HR.out, HK.out⟩, by simp [RowKit.intOf]; omega⟩
    · obtain rfl : k = l.length := by omega
      have hn := HN.out
      rw [List.take_length] at hn
      clear hK
      by_cases hbig : 40 < l.length
      · have g1 : decide ((40 : Int) < (l.length : Int)) = true := decide_eq_true (by omega)
        have HR : Hid (farU l = true) := Lib.hid (by unfold farU; rw [decide_eq_true hbig]; simp)
        clear hbig hn
        go_wp2
        go_ret
        exact ⟨by rw [HR.out]; rfl, HK.out⟩
      · have g1 : decide ((40 : Int) < (l.length : Int)) = false := decide_eq_false (by omega)
        have HR : Hid (farU l = false) := Lib.hid (by unfold farU; rw [hn, decide_eq_false hbig]; rfl)
        clear hbig hn
        go_wp2
        go_ret
        exact ⟨by rw [HR.out]; rfl, HK.out⟩
theorem farU_not {l : List Up} (h : farU l = false) : l.length ≤ 40 ∧ ∀ x ∈ l, x.d.length ≤ 2100 := by
  unfold farU at h
  rw [Bool.or_eq_false_iff] at h
  have h2 := of_decide_eq_false h.2
  refine ⟨by omega, fun x hx => ?_⟩
  have h1 := List.any_eq_false.1 h.1 x hx
  simp at h1
  omega
def exU : Up := ⟨0, 0, 0, 3, 0, 3, []⟩
set_option maxRecDepth 100000 in
set_option maxHeartbeats 1000000 in
theorem awake17 (w : World) : Calls Tryz.prog 28 #[] w fun e w' => e = .returned (.bool true) ∧ Kept NoB w w' := by
  have HO := Lib.hid (Outcome_any w (.agg #[.int .u64 0, .int .i64 0, .int .u64 0, .int .i64 3, .int .u32 0, .int .u64 3, .slice none 0 0]) exU 4 true NoB ⟨_, rfl, BSl.nil _ _⟩ (by decide) (by decide))
  have HE : Hid (outU exU 4 true = (11, 4, false)) := Lib.hid (by decide)
  have HN := Lib.hid (fun w => Runs_any w (.slice none 0 0) [] 9 NoB (UsAt.nil _ _) (fun _ h => absurd h (fun h => h)) (fun x h => by cases h) (by decide) (by decide) (by decide))
  go_enter Tryz.func28, Tryz.ntmps28
  go_wp2_with fail
  refine HO.out.mono ?_
  rintro e w1 ⟨rfl, hk1⟩
  rw [HE.out]
  have HK1 := Lib.hid hk1
  clear hk1
  go_wp2_with fail
  refine (HN.out _).mono ?_
  rintro e w2 ⟨rfl, hk2⟩
  have HK2 := Lib.hid (HK1.out.trans hk2 (fun _ _ h => h))
  clear hk2
  go_wp2
  go_ret
  exact ⟨rfl, HK2.out⟩
end Go.Proofs.YtpdkmalfojeghaaGreatDoor
