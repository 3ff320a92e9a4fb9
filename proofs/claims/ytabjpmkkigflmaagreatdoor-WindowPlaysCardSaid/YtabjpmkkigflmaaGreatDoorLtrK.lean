/-
  catenaryref17: check, Check, Asked; what both sides tell.
-/
import Derived.Test.YtabjpmkkigflmaaGreatDoorLtrB
namespace Go.Proofs.YtabjpmkkigflmaaGreatDoor
open Go.RowKit
set_option linter.unusedVariables false
set_option linter.unusedSimpArgs false

/-- What the chapter's check tells. -/
def chkR (seq : Bool) (x : Up) : Int :=
  if ¬ (x.k = 2 ∨ x.k = 3) then 1 else if 2048 < x.d.length then 6 else if (decide (0 < x.q) != seq) = true ∨ x.c < 1 ∨ 6 < x.c ∨ x.n = 0 ∨ (x.k = 2 ∧ 0 < x.r) then 4 else 0
set_option maxRecDepth 100000 in
set_option maxHeartbeats 2000000 in
theorem Rcheck_any (w : World) (v : Value) (x : Up) (seq : Bool) (F : Nat → Prop) (h : UpV w F v x) : Calls Tryz.prog 148 #[v, .bool seq] w fun e w' => e = .returned (.int .i64 (chkR seq x)) ∧ Kept NoB w w' := by
  obtain ⟨u, rfl, hd⟩ := h
  obtain ⟨va, vc, rfl, _⟩ := hd
  obtain ⟨y0, y1, y2, y3, y4, y5, y6⟩ := x
  simp only
  have hka := (Kept.refl NoB w).alloc (.cells #[.int .u64 y0, .int .i64 y1, .int .u64 y2, .int .i64 y3, .int .u32 y4, .int .u64 y5, .slice va y6.length vc] 34)
  have HKA := Lib.hid hka
  obtain ⟨c0, c1, c2, c3, c4, c5, c6⟩ := cells7 (heap_alloc_new w (.cells #[.int .u64 y0, .int .i64 y1, .int .u64 y2, .int .i64 y3, .int .u32 y4, .int .u64 y5, .slice va y6.length vc] 34))
  obtain ⟨cx, hcx⟩ : ∃ z, z = chkR seq ⟨y0, y1, y2, y3, y4, y5, y6⟩ := ⟨_, rfl⟩
  rw [← hcx]
  unfold chkR at hcx
  simp only at hcx
  clear hka c4
  by_cases hk2 : y3 = 2
  · have gk : (y3 != 2) = false := by simpa using hk2
    have gk' : (y3 == 2) = true := by simpa using hk2
    have hk : y3 = 2 ∨ y3 = 3 := .inl hk2
    by_cases hl : 2048 < y6.length
    · skip
      have gl : decide ((2048 : Int) < (y6.length : Int)) = true := decide_eq_true (by omega)
      have HX : Hid (cx = 6) := Lib.hid (by rw [hcx]; rw [if_neg (by exact fun h => h hk), if_pos (by exact hl)])
      try clear hq
      try clear h6
      try clear h5
      try clear h4
      try clear h3
      try clear h2
      try clear h1
      try clear hl
      try clear hk
      try clear hk2
      try clear hk3
      try clear hcx
      go_enter Tryz.func148, Tryz.ntmps148
      go_wp2
      go_ret
      exact ⟨by rw [HX.out]; rfl, HKA.out⟩
    have gl : decide ((2048 : Int) < (y6.length : Int)) = false := decide_eq_false (by omega)
    cases seq
    · by_cases hq : 0 < y0
      · skip
        have gq : decide (0 < y0) = true := decide_eq_true hq
        have h1 : (decide (0 < y0) != false) = true := by rw [gq]; rfl
        have HX : Hid (cx = 4) := Lib.hid (by rw [hcx]; rw [if_neg (by exact fun h => h hk), if_neg (by exact hl), if_pos (by exact .inl h1)])
        try clear hq
        try clear h6
        try clear h5
        try clear h4
        try clear h3
        try clear h2
        try clear h1
        try clear hl
        try clear hk
        try clear hk2
        try clear hk3
        try clear hcx
        go_enter Tryz.func148, Tryz.ntmps148
        go_wp2
        go_ret
        exact ⟨by rw [HX.out]; rfl, HKA.out⟩
      · skip
        have gq : decide (0 < y0) = false := decide_eq_false hq
        have h1 : ¬ (decide (0 < y0) != false) = true := by rw [gq]; decide
        by_cases h2 : y1 < 1
        · skip
          have g2 : decide (y1 < 1) = true := decide_eq_true h2
          have HX : Hid (cx = 4) := Lib.hid (by rw [hcx]; rw [if_neg (by exact fun h => h hk), if_neg (by exact hl), if_pos (by exact .inr (.inl h2))])
          try clear hq
          try clear h6
          try clear h5
          try clear h4
          try clear h3
          try clear h2
          try clear h1
          try clear hl
          try clear hk
          try clear hk2
          try clear hk3
          try clear hcx
          go_enter Tryz.func148, Tryz.ntmps148
          go_wp2
          go_ret
          exact ⟨by rw [HX.out]; rfl, HKA.out⟩
        have g2 : decide (y1 < 1) = false := decide_eq_false h2
        by_cases h3 : 6 < y1
        · skip
          have g3 : decide (6 < y1) = true := decide_eq_true h3
          have HX : Hid (cx = 4) := Lib.hid (by rw [hcx]; rw [if_neg (by exact fun h => h hk), if_neg (by exact hl), if_pos (by exact .inr (.inr (.inl h3)))])
          try clear hq
          try clear h6
          try clear h5
          try clear h4
          try clear h3
          try clear h2
          try clear h1
          try clear hl
          try clear hk
          try clear hk2
          try clear hk3
          try clear hcx
          go_enter Tryz.func148, Tryz.ntmps148
          go_wp2
          go_ret
          exact ⟨by rw [HX.out]; rfl, HKA.out⟩
        have g3 : decide (6 < y1) = false := decide_eq_false h3
        by_cases h4 : y2 = 0
        · skip
          have g4 : (y2 == 0) = true := by simpa using h4
          have HX : Hid (cx = 4) := Lib.hid (by rw [hcx]; rw [if_neg (by exact fun h => h hk), if_neg (by exact hl), if_pos (by exact .inr (.inr (.inr (.inl h4))))])
          try clear hq
          try clear h6
          try clear h5
          try clear h4
          try clear h3
          try clear h2
          try clear h1
          try clear hl
          try clear hk
          try clear hk2
          try clear hk3
          try clear hcx
          go_enter Tryz.func148, Tryz.ntmps148
          go_wp2
          go_ret
          exact ⟨by rw [HX.out]; rfl, HKA.out⟩
        have g4 : (y2 == 0) = false := by simpa using h4
        by_cases h6 : 0 < y5
        · skip
          have g6 : decide (0 < y5) = true := decide_eq_true h6
          have HX : Hid (cx = 4) := Lib.hid (by rw [hcx]; rw [if_neg (by exact fun h => h hk), if_neg (by exact hl), if_pos (by exact .inr (.inr (.inr (.inr ⟨hk2, h6⟩))))])
          try clear hq
          try clear h6
          try clear h5
          try clear h4
          try clear h3
          try clear h2
          try clear h1
          try clear hl
          try clear hk
          try clear hk2
          try clear hk3
          try clear hcx
          go_enter Tryz.func148, Tryz.ntmps148
          go_wp2
          go_ret
          exact ⟨by rw [HX.out]; rfl, HKA.out⟩
        have g6 : decide (0 < y5) = false := decide_eq_false h6
        have HX : Hid (cx = 0) := Lib.hid (by rw [hcx]; rw [if_neg (by exact fun h => h hk), if_neg (by exact hl), if_neg (by exact fun h => h.elim h1 (fun h => h.elim h2 (fun h => h.elim h3 (fun h => h.elim h4 (fun h => h6 h.2)))))])
        try clear hq
        try clear h6
        try clear h5
        try clear h4
        try clear h3
        try clear h2
        try clear h1
        try clear hl
        try clear hk
        try clear hk2
        try clear hk3
        try clear hcx
        go_enter Tryz.func148, Tryz.ntmps148
        go_wp2
        go_ret
        exact ⟨by rw [HX.out]; rfl, HKA.out⟩
    · by_cases hq : 0 < y0
      · skip
        have gq : decide (0 < y0) = true := decide_eq_true hq
        have h1 : ¬ (decide (0 < y0) != true) = true := by rw [gq]; decide
        by_cases h2 : y1 < 1
        · skip
          have g2 : decide (y1 < 1) = true := decide_eq_true h2
          have HX : Hid (cx = 4) := Lib.hid (by rw [hcx]; rw [if_neg (by exact fun h => h hk), if_neg (by exact hl), if_pos (by exact .inr (.inl h2))])
          try clear hq
          try clear h6
          try clear h5
          try clear h4
          try clear h3
          try clear h2
          try clear h1
          try clear hl
          try clear hk
          try clear hk2
          try clear hk3
          try clear hcx
          go_enter Tryz.func148, Tryz.ntmps148
          go_wp2
          go_ret
          exact ⟨by rw [HX.out]; rfl, HKA.out⟩
        have g2 : decide (y1 < 1) = false := decide_eq_false h2
        by_cases h3 : 6 < y1
        · skip
          have g3 : decide (6 < y1) = true := decide_eq_true h3
          have HX : Hid (cx = 4) := Lib.hid (by rw [hcx]; rw [if_neg (by exact fun h => h hk), if_neg (by exact hl), if_pos (by exact .inr (.inr (.inl h3)))])
          try clear hq
          try clear h6
          try clear h5
          try clear h4
          try clear h3
          try clear h2
          try clear h1
          try clear hl
          try clear hk
          try clear hk2
          try clear hk3
          try clear hcx
          go_enter Tryz.func148, Tryz.ntmps148
          go_wp2
          go_ret
          exact ⟨by rw [HX.out]; rfl, HKA.out⟩
        have g3 : decide (6 < y1) = false := decide_eq_false h3
        by_cases h4 : y2 = 0
        · skip
          have g4 : (y2 == 0) = true := by simpa using h4
          have HX : Hid (cx = 4) := Lib.hid (by rw [hcx]; rw [if_neg (by exact fun h => h hk), if_neg (by exact hl), if_pos (by exact .inr (.inr (.inr (.inl h4))))])
          try clear hq
          try clear h6
          try clear h5
          try clear h4
          try clear h3
          try clear h2
          try clear h1
          try clear hl
          try clear hk
          try clear hk2
          try clear hk3
          try clear hcx
          go_enter Tryz.func148, Tryz.ntmps148
          go_wp2
          go_ret
          exact ⟨by rw [HX.out]; rfl, HKA.out⟩
        have g4 : (y2 == 0) = false := by simpa using h4
        by_cases h6 : 0 < y5
        · skip
          have g6 : decide (0 < y5) = true := decide_eq_true h6
          have HX : Hid (cx = 4) := Lib.hid (by rw [hcx]; rw [if_neg (by exact fun h => h hk), if_neg (by exact hl), if_pos (by exact .inr (.inr (.inr (.inr ⟨hk2, h6⟩))))])
          try clear hq
          try clear h6
          try clear h5
          try clear h4
          try clear h3
          try clear h2
          try clear h1
          try clear hl
          try clear hk
          try clear hk2
          try clear hk3
          try clear hcx
          go_enter Tryz.func148, Tryz.ntmps148
          go_wp2
          go_ret
          exact ⟨by rw [HX.out]; rfl, HKA.out⟩
        have g6 : decide (0 < y5) = false := decide_eq_false h6
        have HX : Hid (cx = 0) := Lib.hid (by rw [hcx]; rw [if_neg (by exact fun h => h hk), if_neg (by exact hl), if_neg (by exact fun h => h.elim h1 (fun h => h.elim h2 (fun h => h.elim h3 (fun h => h.elim h4 (fun h => h6 h.2)))))])
        try clear hq
        try clear h6
        try clear h5
        try clear h4
        try clear h3
        try clear h2
        try clear h1
        try clear hl
        try clear hk
        try clear hk2
        try clear hk3
        try clear hcx
        go_enter Tryz.func148, Tryz.ntmps148
        go_wp2
        go_ret
        exact ⟨by rw [HX.out]; rfl, HKA.out⟩
      · skip
        have gq : decide (0 < y0) = false := decide_eq_false hq
        have h1 : (decide (0 < y0) != true) = true := by rw [gq]; rfl
        have HX : Hid (cx = 4) := Lib.hid (by rw [hcx]; rw [if_neg (by exact fun h => h hk), if_neg (by exact hl), if_pos (by exact .inl h1)])
        try clear hq
        try clear h6
        try clear h5
        try clear h4
        try clear h3
        try clear h2
        try clear h1
        try clear hl
        try clear hk
        try clear hk2
        try clear hk3
        try clear hcx
        go_enter Tryz.func148, Tryz.ntmps148
        go_wp2
        go_ret
        exact ⟨by rw [HX.out]; rfl, HKA.out⟩
  have gk : (y3 != 2) = true := by simpa using hk2
  have gk' : (y3 == 2) = false := by simpa using hk2
  by_cases hk3 : y3 = 3
  rotate_left
  · skip
    have gk3 : (y3 != 3) = true := by simpa using hk3
    have HX : Hid (cx = 1) := Lib.hid (by rw [hcx]; rw [if_pos (by exact fun h => h.elim hk2 hk3)])
    try clear hq
    try clear h6
    try clear h5
    try clear h4
    try clear h3
    try clear h2
    try clear h1
    try clear hl
    try clear hk
    try clear hk2
    try clear hk3
    try clear hcx
    go_enter Tryz.func148, Tryz.ntmps148
    go_wp2
    go_ret
    exact ⟨by rw [HX.out]; rfl, HKA.out⟩
  have gk3 : (y3 != 3) = false := by simpa using hk3
  have hk : y3 = 2 ∨ y3 = 3 := .inr hk3
  by_cases hl : 2048 < y6.length
  · skip
    have gl : decide ((2048 : Int) < (y6.length : Int)) = true := decide_eq_true (by omega)
    have HX : Hid (cx = 6) := Lib.hid (by rw [hcx]; rw [if_neg (by exact fun h => h hk), if_pos (by exact hl)])
    try clear hq
    try clear h6
    try clear h5
    try clear h4
    try clear h3
    try clear h2
    try clear h1
    try clear hl
    try clear hk
    try clear hk2
    try clear hk3
    try clear hcx
    go_enter Tryz.func148, Tryz.ntmps148
    go_wp2
    go_ret
    exact ⟨by rw [HX.out]; rfl, HKA.out⟩
  have gl : decide ((2048 : Int) < (y6.length : Int)) = false := decide_eq_false (by omega)
  cases seq
  · by_cases hq : 0 < y0
    · skip
      have gq : decide (0 < y0) = true := decide_eq_true hq
      have h1 : (decide (0 < y0) != false) = true := by rw [gq]; rfl
      have HX : Hid (cx = 4) := Lib.hid (by rw [hcx]; rw [if_neg (by exact fun h => h hk), if_neg (by exact hl), if_pos (by exact .inl h1)])
      try clear hq
      try clear h6
      try clear h5
      try clear h4
      try clear h3
      try clear h2
      try clear h1
      try clear hl
      try clear hk
      try clear hk2
      try clear hk3
      try clear hcx
      go_enter Tryz.func148, Tryz.ntmps148
      go_wp2
      go_ret
      exact ⟨by rw [HX.out]; rfl, HKA.out⟩
    · skip
      have gq : decide (0 < y0) = false := decide_eq_false hq
      have h1 : ¬ (decide (0 < y0) != false) = true := by rw [gq]; decide
      by_cases h2 : y1 < 1
      · skip
        have g2 : decide (y1 < 1) = true := decide_eq_true h2
        have HX : Hid (cx = 4) := Lib.hid (by rw [hcx]; rw [if_neg (by exact fun h => h hk), if_neg (by exact hl), if_pos (by exact .inr (.inl h2))])
        try clear hq
        try clear h6
        try clear h5
        try clear h4
        try clear h3
        try clear h2
        try clear h1
        try clear hl
        try clear hk
        try clear hk2
        try clear hk3
        try clear hcx
        go_enter Tryz.func148, Tryz.ntmps148
        go_wp2
        go_ret
        exact ⟨by rw [HX.out]; rfl, HKA.out⟩
      have g2 : decide (y1 < 1) = false := decide_eq_false h2
      by_cases h3 : 6 < y1
      · skip
        have g3 : decide (6 < y1) = true := decide_eq_true h3
        have HX : Hid (cx = 4) := Lib.hid (by rw [hcx]; rw [if_neg (by exact fun h => h hk), if_neg (by exact hl), if_pos (by exact .inr (.inr (.inl h3)))])
        try clear hq
        try clear h6
        try clear h5
        try clear h4
        try clear h3
        try clear h2
        try clear h1
        try clear hl
        try clear hk
        try clear hk2
        try clear hk3
        try clear hcx
        go_enter Tryz.func148, Tryz.ntmps148
        go_wp2
        go_ret
        exact ⟨by rw [HX.out]; rfl, HKA.out⟩
      have g3 : decide (6 < y1) = false := decide_eq_false h3
      by_cases h4 : y2 = 0
      · skip
        have g4 : (y2 == 0) = true := by simpa using h4
        have HX : Hid (cx = 4) := Lib.hid (by rw [hcx]; rw [if_neg (by exact fun h => h hk), if_neg (by exact hl), if_pos (by exact .inr (.inr (.inr (.inl h4))))])
        try clear hq
        try clear h6
        try clear h5
        try clear h4
        try clear h3
        try clear h2
        try clear h1
        try clear hl
        try clear hk
        try clear hk2
        try clear hk3
        try clear hcx
        go_enter Tryz.func148, Tryz.ntmps148
        go_wp2
        go_ret
        exact ⟨by rw [HX.out]; rfl, HKA.out⟩
      have g4 : (y2 == 0) = false := by simpa using h4
      have HX : Hid (cx = 0) := Lib.hid (by rw [hcx]; rw [if_neg (by exact fun h => h hk), if_neg (by exact hl), if_neg (by exact fun h => h.elim h1 (fun h => h.elim h2 (fun h => h.elim h3 (fun h => h.elim h4 (fun h => hk2 h.1)))))])
      try clear hq
      try clear h6
      try clear h5
      try clear h4
      try clear h3
      try clear h2
      try clear h1
      try clear hl
      try clear hk
      try clear hk2
      try clear hk3
      try clear hcx
      go_enter Tryz.func148, Tryz.ntmps148
      go_wp2
      go_ret
      exact ⟨by rw [HX.out]; rfl, HKA.out⟩
  · by_cases hq : 0 < y0
    · skip
      have gq : decide (0 < y0) = true := decide_eq_true hq
      have h1 : ¬ (decide (0 < y0) != true) = true := by rw [gq]; decide
      by_cases h2 : y1 < 1
      · skip
        have g2 : decide (y1 < 1) = true := decide_eq_true h2
        have HX : Hid (cx = 4) := Lib.hid (by rw [hcx]; rw [if_neg (by exact fun h => h hk), if_neg (by exact hl), if_pos (by exact .inr (.inl h2))])
        try clear hq
        try clear h6
        try clear h5
        try clear h4
        try clear h3
        try clear h2
        try clear h1
        try clear hl
        try clear hk
        try clear hk2
        try clear hk3
        try clear hcx
        go_enter Tryz.func148, Tryz.ntmps148
        go_wp2
        go_ret
        exact ⟨by rw [HX.out]; rfl, HKA.out⟩
      have g2 : decide (y1 < 1) = false := decide_eq_false h2
      by_cases h3 : 6 < y1
      · skip
        have g3 : decide (6 < y1) = true := decide_eq_true h3
        have HX : Hid (cx = 4) := Lib.hid (by rw [hcx]; rw [if_neg (by exact fun h => h hk), if_neg (by exact hl), if_pos (by exact .inr (.inr (.inl h3)))])
        try clear hq
        try clear h6
        try clear h5
        try clear h4
        try clear h3
        try clear h2
        try clear h1
        try clear hl
        try clear hk
        try clear hk2
        try clear hk3
        try clear hcx
        go_enter Tryz.func148, Tryz.ntmps148
        go_wp2
        go_ret
        exact ⟨by rw [HX.out]; rfl, HKA.out⟩
      have g3 : decide (6 < y1) = false := decide_eq_false h3
      by_cases h4 : y2 = 0
      · skip
        have g4 : (y2 == 0) = true := by simpa using h4
        have HX : Hid (cx = 4) := Lib.hid (by rw [hcx]; rw [if_neg (by exact fun h => h hk), if_neg (by exact hl), if_pos (by exact .inr (.inr (.inr (.inl h4))))])
        try clear hq
        try clear h6
        try clear h5
        try clear h4
        try clear h3
        try clear h2
        try clear h1
        try clear hl
        try clear hk
        try clear hk2
        try clear hk3
        try clear hcx
        go_enter Tryz.func148, Tryz.ntmps148
        go_wp2
        go_ret
        exact ⟨by rw [HX.out]; rfl, HKA.out⟩
      have g4 : (y2 == 0) = false := by simpa using h4
      have HX : Hid (cx = 0) := Lib.hid (by rw [hcx]; rw [if_neg (by exact fun h => h hk), if_neg (by exact hl), if_neg (by exact fun h => h.elim h1 (fun h => h.elim h2 (fun h => h.elim h3 (fun h => h.elim h4 (fun h => hk2 h.1)))))])
      try clear hq
      try clear h6
      try clear h5
      try clear h4
      try clear h3
      try clear h2
      try clear h1
      try clear hl
      try clear hk
      try clear hk2
      try clear hk3
      try clear hcx
      go_enter Tryz.func148, Tryz.ntmps148
      go_wp2
      go_ret
      exact ⟨by rw [HX.out]; rfl, HKA.out⟩
    · skip
      have gq : decide (0 < y0) = false := decide_eq_false hq
      have h1 : (decide (0 < y0) != true) = true := by rw [gq]; rfl
      have HX : Hid (cx = 4) := Lib.hid (by rw [hcx]; rw [if_neg (by exact fun h => h hk), if_neg (by exact hl), if_pos (by exact .inl h1)])
      try clear hq
      try clear h6
      try clear h5
      try clear h4
      try clear h3
      try clear h2
      try clear h1
      try clear hl
      try clear hk
      try clear hk2
      try clear hk3
      try clear hcx
      go_enter Tryz.func148, Tryz.ntmps148
      go_wp2
      go_ret
      exact ⟨by rw [HX.out]; rfl, HKA.out⟩
set_option maxRecDepth 100000 in
theorem RCheck17_any (w : World) (v : Value) (x : Up) (F : Nat → Prop) (h : UpV w F v x) : Calls Tryz.prog 75 #[v] w fun e w' => e = .returned (.int .i64 (chkR true x)) ∧ Kept NoB w w' := by
  obtain ⟨u, rfl, hd⟩ := h
  have HD := Lib.hid hd
  obtain ⟨va, vc, rfl, _⟩ := hd
  obtain ⟨y0, y1, y2, y3, y4, y5, y6⟩ := x
  simp only at HD ⊢
  have hka := (Kept.refl NoB w).alloc (.cells #[.int .u64 y0, .int .i64 y1, .int .u64 y2, .int .i64 y3, .int .u32 y4, .int .u64 y5, .slice va y6.length vc] 34)
  have HKA := Lib.hid hka
  obtain ⟨c0, c1, c2, c3, c4, c5, c6⟩ := cells7 (heap_alloc_new w (.cells #[.int .u64 y0, .int .i64 y1, .int .u64 y2, .int .i64 y3, .int .u32 y4, .int .u64 y5, .slice va y6.length vc] 34))
  have HC := Lib.hid (Rcheck_any (w.alloc (.cells #[.int .u64 y0, .int .i64 y1, .int .u64 y2, .int .i64 y3, .int .u32 y4, .int .u64 y5, .slice va y6.length vc] 34)) _ ⟨y0, y1, y2, y3, y4, y5, y6⟩ true F ⟨_, rfl, HD.out.kept hka (fun _ _ h => h)⟩)
  obtain ⟨z, hz⟩ : ∃ z, z = chkR true ⟨y0, y1, y2, y3, y4, y5, y6⟩ := ⟨_, rfl⟩
  rw [← hz] at HC ⊢
  clear hka hz
  go_enter Tryz.func75, Tryz.ntmps75
  go_wp2_with fail
  refine HC.out.mono ?_
  rintro e w1 ⟨rfl, hk⟩
  have HK := Lib.hid (HKA.out.trans hk (fun _ _ h => h))
  clear hk
  go_wp2
  go_ret
  exact ⟨rfl, HK.out⟩
end Go.Proofs.YtabjpmkkigflmaaGreatDoor
