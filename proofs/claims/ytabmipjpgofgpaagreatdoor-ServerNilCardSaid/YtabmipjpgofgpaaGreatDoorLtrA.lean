/-
  Package letter: addresses, kinds; which updates may be.
-/
import Derived.Test.YtabmipjpgofgpaaGreatDoorUpd1
import Derived.Laws.EntriesVeiled
namespace Go.Proofs.YtabmipjpgofgpaaGreatDoor
open Go.RowKit
set_option linter.unusedVariables false
set_option linter.unusedSimpArgs false

/-- A plain yes or no. -/
def YesNo (b : Bool) (w : World) (e : Ending) (w' : World) : Prop := e = .returned (.bool b) ∧ w = w'
/-- A yes or no behind which nothing else has changed. -/
def YesNoK (b : Bool) (w : World) (e : Ending) (w' : World) : Prop := e = .returned (.bool b) ∧ Kept NoB w w'

def nodeB (a : Int) : Bool := decide (1 ≤ a ∧ a ≤ 24)
set_option maxRecDepth 100000 in
theorem LNode_any (w : World) (a : Int) : Calls Tryz.prog 195 #[.int .i64 a] w (YesNo (nodeB a) w) := by
  by_cases h1 : 1 ≤ a
  · have g1 : decide ((1 : Int) ≤ a) = true := decide_eq_true h1
    by_cases h2 : a ≤ 24
    · have g2 : decide (a ≤ (24 : Int)) = true := decide_eq_true h2
      have HR : Hid (nodeB a = true) := Lib.hid (decide_eq_true ⟨h1, h2⟩)
      clear h1 h2
      go_enter Tryz.func195, Tryz.ntmps195
      go_wp2
      go_ret
      exact ⟨by rw [HR.out]; rfl, rfl⟩
    · have g2 : decide (a ≤ (24 : Int)) = false := decide_eq_false h2
      have HR : Hid (nodeB a = false) := Lib.hid (decide_eq_false (fun h => h2 h.2))
      clear h1 h2
      go_enter Tryz.func195, Tryz.ntmps195
      go_wp2
      go_ret
      exact ⟨by rw [HR.out]; rfl, rfl⟩
  · have g1 : decide ((1 : Int) ≤ a) = false := decide_eq_false h1
    have HR : Hid (nodeB a = false) := Lib.hid (decide_eq_false (fun h => h1 h.1))
    clear h1
    go_enter Tryz.func195, Tryz.ntmps195
    go_wp2
    go_ret
    exact ⟨by rw [HR.out]; rfl, rfl⟩
def masterB (a : Int) : Bool := decide (100 < a ∧ a ≤ 105)
set_option maxRecDepth 100000 in
theorem LMaster_any (w : World) (a : Int) : Calls Tryz.prog 196 #[.int .i64 a] w (YesNo (masterB a) w) := by
  by_cases h1 : 100 < a
  · have g1 : decide ((100 : Int) < a) = true := decide_eq_true h1
    by_cases h2 : a ≤ 105
    · have g2 : decide (a ≤ (105 : Int)) = true := decide_eq_true h2
      have HR : Hid (masterB a = true) := Lib.hid (decide_eq_true ⟨h1, h2⟩)
      clear h1 h2
      go_enter Tryz.func196, Tryz.ntmps196
      go_wp2
      go_ret
      exact ⟨by rw [HR.out]; rfl, rfl⟩
    · have g2 : decide (a ≤ (105 : Int)) = false := decide_eq_false h2
      have HR : Hid (masterB a = false) := Lib.hid (decide_eq_false (fun h => h2 h.2))
      clear h1 h2
      go_enter Tryz.func196, Tryz.ntmps196
      go_wp2
      go_ret
      exact ⟨by rw [HR.out]; rfl, rfl⟩
  · have g1 : decide ((100 : Int) < a) = false := decide_eq_false h1
    have HR : Hid (masterB a = false) := Lib.hid (decide_eq_false (fun h => h1 h.1))
    clear h1
    go_enter Tryz.func196, Tryz.ntmps196
    go_wp2
    go_ret
    exact ⟨by rw [HR.out]; rfl, rfl⟩
def clientB (a : Int) : Bool := decide (200 < a ∧ a ≤ 206)
set_option maxRecDepth 100000 in
theorem LClient_any (w : World) (a : Int) : Calls Tryz.prog 178 #[.int .i64 a] w (YesNo (clientB a) w) := by
  by_cases h1 : 200 < a
  · have g1 : decide ((200 : Int) < a) = true := decide_eq_true h1
    by_cases h2 : a ≤ 206
    · have g2 : decide (a ≤ (206 : Int)) = true := decide_eq_true h2
      have HR : Hid (clientB a = true) := Lib.hid (decide_eq_true ⟨h1, h2⟩)
      clear h1 h2
      go_enter Tryz.func178, Tryz.ntmps178
      go_wp2
      go_ret
      exact ⟨by rw [HR.out]; rfl, rfl⟩
    · have g2 : decide (a ≤ (206 : Int)) = false := decide_eq_false h2
      have HR : Hid (clientB a = false) := Lib.hid (decide_eq_false (fun h => h2 h.2))
      clear h1 h2
      go_enter Tryz.func178, Tryz.ntmps178
      go_wp2
      go_ret
      exact ⟨by rw [HR.out]; rfl, rfl⟩
  · have g1 : decide ((200 : Int) < a) = false := decide_eq_false h1
    have HR : Hid (clientB a = false) := Lib.hid (decide_eq_false (fun h => h1 h.1))
    clear h1
    go_enter Tryz.func178, Tryz.ntmps178
    go_wp2
    go_ret
    exact ⟨by rw [HR.out]; rfl, rfl⟩
def kindB (a : Int) : Bool := decide (1 ≤ a ∧ a ≤ 20)
set_option maxRecDepth 100000 in
theorem LisKind_any (w : World) (a : Int) : Calls Tryz.prog 144 #[.int .i64 a] w (YesNo (kindB a) w) := by
  by_cases h1 : 1 ≤ a
  · have g1 : decide ((1 : Int) ≤ a) = true := decide_eq_true h1
    by_cases h2 : a ≤ 20
    · have g2 : decide (a ≤ (20 : Int)) = true := decide_eq_true h2
      have HR : Hid (kindB a = true) := Lib.hid (decide_eq_true ⟨h1, h2⟩)
      clear h1 h2
      go_enter Tryz.func144, Tryz.ntmps144
      go_wp2
      go_ret
      exact ⟨by rw [HR.out]; rfl, rfl⟩
    · have g2 : decide (a ≤ (20 : Int)) = false := decide_eq_false h2
      have HR : Hid (kindB a = false) := Lib.hid (decide_eq_false (fun h => h2 h.2))
      clear h1 h2
      go_enter Tryz.func144, Tryz.ntmps144
      go_wp2
      go_ret
      exact ⟨by rw [HR.out]; rfl, rfl⟩
  · have g1 : decide ((1 : Int) ≤ a) = false := decide_eq_false h1
    have HR : Hid (kindB a = false) := Lib.hid (decide_eq_false (fun h => h1 h.1))
    clear h1
    go_enter Tryz.func144, Tryz.ntmps144
    go_wp2
    go_ret
    exact ⟨by rw [HR.out]; rfl, rfl⟩
def addrB (a : Int) : Bool := nodeB a || masterB a || clientB a
set_option maxRecDepth 100000 in
theorem LAddress_any (w : World) (a : Int) : Calls Tryz.prog 145 #[.int .i64 a] w (YesNo (addrB a) w) := by
  have HN := Lib.hid (fun w => LNode_any w a)
  have HM := Lib.hid (fun w => LMaster_any w a)
  have HC := Lib.hid (fun w => LClient_any w a)
  obtain ⟨bn, hbn⟩ : ∃ b, b = nodeB a := ⟨_, rfl⟩
  obtain ⟨bm, hbm⟩ : ∃ b, b = masterB a := ⟨_, rfl⟩
  obtain ⟨bc, hbc⟩ : ∃ b, b = clientB a := ⟨_, rfl⟩
  have HR : Hid (addrB a = (bn || bm || bc)) := Lib.hid (by rw [hbn, hbm, hbc]; rfl)
  rw [← hbn] at HN
  rw [← hbm] at HM
  rw [← hbc] at HC
  clear hbn hbm hbc
  go_enter Tryz.func145, Tryz.ntmps145
  go_wp2_with fail
  refine (HN.out _).mono ?_
  rintro e w1 ⟨rfl, rfl⟩
  cases bn with
  | true =>
    go_wp2
    go_ret
    exact ⟨by rw [HR.out]; rfl, rfl⟩
  | false =>
    go_wp2_with fail
    refine (HM.out _).mono ?_
    rintro e w1 ⟨rfl, rfl⟩
    cases bm with
    | true =>
      go_wp2
      go_ret
      exact ⟨by rw [HR.out]; rfl, rfl⟩
    | false =>
      go_wp2_with fail
      refine (HC.out _).mono ?_
      rintro e w1 ⟨rfl, rfl⟩
      go_wp2
      go_ret
      exact ⟨by rw [HR.out]; rfl, rfl⟩
/-- An update, whatever its Seq is. -/
def isUp (x : Up) : Bool := decide ((1 ≤ x.c ∧ x.c ≤ 6) ∧ (x.k = 3 ∨ (x.k = 2 ∧ x.r = 0)) ∧ 1 ≤ x.n ∧ x.d.length ≤ 2048)
set_option maxRecDepth 100000 in
set_option maxHeartbeats 1000000 in
theorem isUpdate_any (w : World) (v : Value) (x : Up) (F : Nat → Prop) (h : UpV w F v x) : Calls Tryz.prog 323 #[v] w (YesNoK (isUp x) w) := by
  obtain ⟨u, rfl, hd⟩ := h
  obtain ⟨va, vc, rfl, _⟩ := hd
  obtain ⟨y0, y1, y2, y3, y4, y5, y6⟩ := x
  simp only
  have hka := (Kept.refl NoB w).alloc (.cells #[.int .u64 y0, .int .i64 y1, .int .u64 y2, .int .i64 y3, .int .u32 y4, .int .u64 y5, .slice va y6.length vc] 36)
  have HKA := Lib.hid hka
  obtain ⟨c0, c1, c2, c3, c4, c5, c6⟩ := cells7 (heap_alloc_new w (.cells #[.int .u64 y0, .int .i64 y1, .int .u64 y2, .int .i64 y3, .int .u32 y4, .int .u64 y5, .slice va y6.length vc] 36))
  clear hka c0 c4
  by_cases hc1 : 1 ≤ y1
  · have g1 : decide ((1 : Int) ≤ y1) = true := decide_eq_true hc1
    by_cases hc2 : y1 ≤ 6
    · have g2 : decide (y1 ≤ (6 : Int)) = true := decide_eq_true hc2
      by_cases h3 : y3 = 3
      · skip
        by_cases hn : 1 ≤ y2
        · have g6 : decide ((1 : Int) ≤ y2) = true := decide_eq_true hn
          by_cases hl : y6.length ≤ 2048
          · skip
            have g3 : (y3 == 3) = true := by simpa using h3
            have g7 : decide ((y6.length : Int) ≤ 2048) = true := decide_eq_true (by omega)
            have HR : Hid (isUp ⟨y0, y1, y2, y3, y4, y5, y6⟩ = true) := Lib.hid (decide_eq_true ⟨by simp only; omega, by simp only; omega, hn, hl⟩)
            try clear hn
            try clear hl
            try clear h5
            try clear h2
            try clear h3
            try clear hc2
            try clear hc1
            go_enter Tryz.func323, Tryz.ntmps323
            go_wp2
            go_ret
            exact ⟨by rw [HR.out]; rfl, HKA.out⟩
          · skip
            have g3 : (y3 == 3) = true := by simpa using h3
            have g7 : decide ((y6.length : Int) ≤ 2048) = false := decide_eq_false (by omega)
            have HR : Hid (isUp ⟨y0, y1, y2, y3, y4, y5, y6⟩ = false) := Lib.hid (decide_eq_false (fun h => hl h.2.2.2))
            try clear hn
            try clear hl
            try clear h5
            try clear h2
            try clear h3
            try clear hc2
            try clear hc1
            go_enter Tryz.func323, Tryz.ntmps323
            go_wp2
            go_ret
            exact ⟨by rw [HR.out]; rfl, HKA.out⟩
        · have g6 : decide ((1 : Int) ≤ y2) = false := decide_eq_false hn
          have g3 : (y3 == 3) = true := by simpa using h3
          have HR : Hid (isUp ⟨y0, y1, y2, y3, y4, y5, y6⟩ = false) := Lib.hid (decide_eq_false (fun h => hn h.2.2.1))
          try clear hn
          try clear hl
          try clear h5
          try clear h2
          try clear h3
          try clear hc2
          try clear hc1
          go_enter Tryz.func323, Tryz.ntmps323
          go_wp2
          go_ret
          exact ⟨by rw [HR.out]; rfl, HKA.out⟩
      · by_cases h2 : y3 = 2
        · by_cases h5 : y5 = 0
          · skip
            by_cases hn : 1 ≤ y2
            · have g6 : decide ((1 : Int) ≤ y2) = true := decide_eq_true hn
              by_cases hl : y6.length ≤ 2048
              · skip
                have g3 : (y3 == 3) = false := by simpa using h3
                have g4 : (y3 == 2) = true := by simpa using h2
                have g5 : (y5 == 0) = true := by simpa using h5
                have g7 : decide ((y6.length : Int) ≤ 2048) = true := decide_eq_true (by omega)
                have HR : Hid (isUp ⟨y0, y1, y2, y3, y4, y5, y6⟩ = true) := Lib.hid (decide_eq_true ⟨by simp only; omega, by simp only; omega, hn, hl⟩)
                try clear hn
                try clear hl
                try clear h5
                try clear h2
                try clear h3
                try clear hc2
                try clear hc1
                go_enter Tryz.func323, Tryz.ntmps323
                go_wp2
                go_ret
                exact ⟨by rw [HR.out]; rfl, HKA.out⟩
              · skip
                have g3 : (y3 == 3) = false := by simpa using h3
                have g4 : (y3 == 2) = true := by simpa using h2
                have g5 : (y5 == 0) = true := by simpa using h5
                have g7 : decide ((y6.length : Int) ≤ 2048) = false := decide_eq_false (by omega)
                have HR : Hid (isUp ⟨y0, y1, y2, y3, y4, y5, y6⟩ = false) := Lib.hid (decide_eq_false (fun h => hl h.2.2.2))
                try clear hn
                try clear hl
                try clear h5
                try clear h2
                try clear h3
                try clear hc2
                try clear hc1
                go_enter Tryz.func323, Tryz.ntmps323
                go_wp2
                go_ret
                exact ⟨by rw [HR.out]; rfl, HKA.out⟩
            · have g6 : decide ((1 : Int) ≤ y2) = false := decide_eq_false hn
              have g3 : (y3 == 3) = false := by simpa using h3
              have g4 : (y3 == 2) = true := by simpa using h2
              have g5 : (y5 == 0) = true := by simpa using h5
              have HR : Hid (isUp ⟨y0, y1, y2, y3, y4, y5, y6⟩ = false) := Lib.hid (decide_eq_false (fun h => hn h.2.2.1))
              try clear hn
              try clear hl
              try clear h5
              try clear h2
              try clear h3
              try clear hc2
              try clear hc1
              go_enter Tryz.func323, Tryz.ntmps323
              go_wp2
              go_ret
              exact ⟨by rw [HR.out]; rfl, HKA.out⟩
          · skip
            have g3 : (y3 == 3) = false := by simpa using h3
            have g4 : (y3 == 2) = true := by simpa using h2
            have g5 : (y5 == 0) = false := by simpa using h5
            have HR : Hid (isUp ⟨y0, y1, y2, y3, y4, y5, y6⟩ = false) := Lib.hid (decide_eq_false (fun h => by have h1 := h.1; have h2 := h.2.1; simp only at h1 h2; omega))
            try clear hn
            try clear hl
            try clear h5
            try clear h2
            try clear h3
            try clear hc2
            try clear hc1
            go_enter Tryz.func323, Tryz.ntmps323
            go_wp2
            go_ret
            exact ⟨by rw [HR.out]; rfl, HKA.out⟩
        · skip
          have g3 : (y3 == 3) = false := by simpa using h3
          have g4 : (y3 == 2) = false := by simpa using h2
          have HR : Hid (isUp ⟨y0, y1, y2, y3, y4, y5, y6⟩ = false) := Lib.hid (decide_eq_false (fun h => by have h1 := h.1; have h2 := h.2.1; simp only at h1 h2; omega))
          try clear hn
          try clear hl
          try clear h5
          try clear h2
          try clear h3
          try clear hc2
          try clear hc1
          go_enter Tryz.func323, Tryz.ntmps323
          go_wp2
          go_ret
          exact ⟨by rw [HR.out]; rfl, HKA.out⟩
    · have g2 : decide (y1 ≤ (6 : Int)) = false := decide_eq_false hc2
      by_cases h3 : y3 = 3
      · skip
        have g3 : (y3 == 3) = true := by simpa using h3
        have HR : Hid (isUp ⟨y0, y1, y2, y3, y4, y5, y6⟩ = false) := Lib.hid (decide_eq_false (fun h => by have h1 := h.1; have h2 := h.2.1; simp only at h1 h2; omega))
        try clear hn
        try clear hl
        try clear h5
        try clear h2
        try clear h3
        try clear hc2
        try clear hc1
        go_enter Tryz.func323, Tryz.ntmps323
        go_wp2
        go_ret
        exact ⟨by rw [HR.out]; rfl, HKA.out⟩
      · by_cases h2 : y3 = 2
        · by_cases h5 : y5 = 0
          · skip
            have g3 : (y3 == 3) = false := by simpa using h3
            have g4 : (y3 == 2) = true := by simpa using h2
            have g5 : (y5 == 0) = true := by simpa using h5
            have HR : Hid (isUp ⟨y0, y1, y2, y3, y4, y5, y6⟩ = false) := Lib.hid (decide_eq_false (fun h => by have h1 := h.1; have h2 := h.2.1; simp only at h1 h2; omega))
            try clear hn
            try clear hl
            try clear h5
            try clear h2
            try clear h3
            try clear hc2
            try clear hc1
            go_enter Tryz.func323, Tryz.ntmps323
            go_wp2
            go_ret
            exact ⟨by rw [HR.out]; rfl, HKA.out⟩
          · skip
            have g3 : (y3 == 3) = false := by simpa using h3
            have g4 : (y3 == 2) = true := by simpa using h2
            have g5 : (y5 == 0) = false := by simpa using h5
            have HR : Hid (isUp ⟨y0, y1, y2, y3, y4, y5, y6⟩ = false) := Lib.hid (decide_eq_false (fun h => by have h1 := h.1; have h2 := h.2.1; simp only at h1 h2; omega))
            try clear hn
            try clear hl
            try clear h5
            try clear h2
            try clear h3
            try clear hc2
            try clear hc1
            go_enter Tryz.func323, Tryz.ntmps323
            go_wp2
            go_ret
            exact ⟨by rw [HR.out]; rfl, HKA.out⟩
        · skip
          have g3 : (y3 == 3) = false := by simpa using h3
          have g4 : (y3 == 2) = false := by simpa using h2
          have HR : Hid (isUp ⟨y0, y1, y2, y3, y4, y5, y6⟩ = false) := Lib.hid (decide_eq_false (fun h => by have h1 := h.1; have h2 := h.2.1; simp only at h1 h2; omega))
          try clear hn
          try clear hl
          try clear h5
          try clear h2
          try clear h3
          try clear hc2
          try clear hc1
          go_enter Tryz.func323, Tryz.ntmps323
          go_wp2
          go_ret
          exact ⟨by rw [HR.out]; rfl, HKA.out⟩
  · have g1 : decide ((1 : Int) ≤ y1) = false := decide_eq_false hc1
    by_cases h3 : y3 = 3
    · skip
      have g3 : (y3 == 3) = true := by simpa using h3
      have HR : Hid (isUp ⟨y0, y1, y2, y3, y4, y5, y6⟩ = false) := Lib.hid (decide_eq_false (fun h => by have h1 := h.1; have h2 := h.2.1; simp only at h1 h2; omega))
      try clear hn
      try clear hl
      try clear h5
      try clear h2
      try clear h3
      try clear hc2
      try clear hc1
      go_enter Tryz.func323, Tryz.ntmps323
      go_wp2
      go_ret
      exact ⟨by rw [HR.out]; rfl, HKA.out⟩
    · by_cases h2 : y3 = 2
      · by_cases h5 : y5 = 0
        · skip
          have g3 : (y3 == 3) = false := by simpa using h3
          have g4 : (y3 == 2) = true := by simpa using h2
          have g5 : (y5 == 0) = true := by simpa using h5
          have HR : Hid (isUp ⟨y0, y1, y2, y3, y4, y5, y6⟩ = false) := Lib.hid (decide_eq_false (fun h => by have h1 := h.1; have h2 := h.2.1; simp only at h1 h2; omega))
          try clear hn
          try clear hl
          try clear h5
          try clear h2
          try clear h3
          try clear hc2
          try clear hc1
          go_enter Tryz.func323, Tryz.ntmps323
          go_wp2
          go_ret
          exact ⟨by rw [HR.out]; rfl, HKA.out⟩
        · skip
          have g3 : (y3 == 3) = false := by simpa using h3
          have g4 : (y3 == 2) = true := by simpa using h2
          have g5 : (y5 == 0) = false := by simpa using h5
          have HR : Hid (isUp ⟨y0, y1, y2, y3, y4, y5, y6⟩ = false) := Lib.hid (decide_eq_false (fun h => by have h1 := h.1; have h2 := h.2.1; simp only at h1 h2; omega))
          try clear hn
          try clear hl
          try clear h5
          try clear h2
          try clear h3
          try clear hc2
          try clear hc1
          go_enter Tryz.func323, Tryz.ntmps323
          go_wp2
          go_ret
          exact ⟨by rw [HR.out]; rfl, HKA.out⟩
      · skip
        have g3 : (y3 == 3) = false := by simpa using h3
        have g4 : (y3 == 2) = false := by simpa using h2
        have HR : Hid (isUp ⟨y0, y1, y2, y3, y4, y5, y6⟩ = false) := Lib.hid (decide_eq_false (fun h => by have h1 := h.1; have h2 := h.2.1; simp only at h1 h2; omega))
        try clear hn
        try clear hl
        try clear h5
        try clear h2
        try clear h3
        try clear hc2
        try clear hc1
        go_enter Tryz.func323, Tryz.ntmps323
        go_wp2
        go_ret
        exact ⟨by rw [HR.out]; rfl, HKA.out⟩
set_option maxRecDepth 100000 in
set_option maxHeartbeats 1000000 in
theorem wrong1_any (w : World) (v : Value) (x : Up) (F : Nat → Prop) (h : UpV w F v x) : Calls Tryz.prog 322 #[v] w (YesNoK (decide (x.q < 1) || !isUp x) w) := by
  have hv := h
  obtain ⟨u, rfl, hd⟩ := h
  obtain ⟨va, vc, rfl, _⟩ := id hd
  obtain ⟨y0, y1, y2, y3, y4, y5, y6⟩ := x
  simp only at hd ⊢
  have hka := (Kept.refl NoB w).alloc (.cells #[.int .u64 y0, .int .i64 y1, .int .u64 y2, .int .i64 y3, .int .u32 y4, .int .u64 y5, .slice va y6.length vc] 36)
  have HKA := Lib.hid hka
  have HU := Lib.hid (isUpdate_any _ _ ⟨y0, y1, y2, y3, y4, y5, y6⟩ F (hv.no hka))
  obtain ⟨c0, c1, c2, c3, c4, c5, c6⟩ := cells7 (heap_alloc_new w (.cells #[.int .u64 y0, .int .i64 y1, .int .u64 y2, .int .i64 y3, .int .u32 y4, .int .u64 y5, .slice va y6.length vc] 36))
  obtain ⟨b, hb⟩ : ∃ b, b = isUp ⟨y0, y1, y2, y3, y4, y5, y6⟩ := ⟨_, rfl⟩
  rw [← hb] at HU ⊢
  clear hka hv hd hb
  by_cases hq : y0 < 1
  · have g1 : decide (y0 < 1) = true := decide_eq_true hq
    clear hq HU
    go_enter Tryz.func322, Tryz.ntmps322
    go_wp2
    go_ret
    exact ⟨by first | rfl | (rw [g1]; rfl), HKA.out⟩
  · have g1 : decide (y0 < 1) = false := decide_eq_false hq
    clear hq
    go_enter Tryz.func322, Tryz.ntmps322
    go_wp2_with fail
    refine HU.out.mono ?_
    rintro e w1 ⟨rfl, hk⟩
    have HK := Lib.hid (HKA.out.trans hk (fun _ _ h => h))
    clear hk
    have hnot : ∀ (x : Bool) (w : World), (Op.unary .not (.bool x)).run Tryz.prog w = .ok (.bool (!x)) w := fun _ _ => rfl
    go_wp2
    go_ret
    exact ⟨by first | rfl | (rw [g1]; rfl) | (cases b <;> rfl), HK.out⟩
end Go.Proofs.YtabmipjpgofgpaaGreatDoor
