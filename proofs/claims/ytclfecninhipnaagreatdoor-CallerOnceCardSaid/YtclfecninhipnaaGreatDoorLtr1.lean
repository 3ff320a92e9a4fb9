/-
  Package letter: addresses, kinds; which updates may be. Package letter: areUpdates, areRequest; where a letter's fields lie; the checks of numbers. Package letter: field and number: what a part consists of. Package letter: number: what a part that is a number consists of. Package letter: partAt, for the parts that an update's letters have. Package letter: rows of parts; partsOf for the kinds of an update's letters. Package letter: what a part's right and drop do, for the parts that an update's letters have. Package letter: Same of two zero letters.
-/
import Derived.Test.YtclfecninhipnaaGreatDoorUpd1
import Derived.Laws.EntriesVeiled
import Derived.Lib.LaidTab
import Derived.Lib.SmallJoins
import Derived.Laws.BytesArg
import Derived.Lib.Bytes
namespace Go.Proofs.YtclfecninhipnaaGreatDoor
open Go.RowKit
set_option linter.unusedVariables false
set_option linter.unusedSimpArgs false

/-- A plain yes or no. -/
def YesNo (b : Bool) (w : World) (e : Ending) (w' : World) : Prop := e = .returned (.bool b) ∧ w = w'
/-- A yes or no behind which nothing else has changed. -/
def YesNoK (b : Bool) (w : World) (e : Ending) (w' : World) : Prop := e = .returned (.bool b) ∧ Kept NoB w w'

def nodeB (a : Int) : Bool := decide (1 ≤ a ∧ a ≤ 24)
set_option maxRecDepth 100000 in
theorem LNode_any (w : World) (a : Int) : Calls Tryz.prog 42 #[.int .i64 a] w (YesNo (nodeB a) w) := by
  by_cases h1 : 1 ≤ a
  · have g1 : decide ((1 : Int) ≤ a) = true := decide_eq_true h1
    by_cases h2 : a ≤ 24
    · have g2 : decide (a ≤ (24 : Int)) = true := decide_eq_true h2
      have HR : Hid (nodeB a = true) := Lib.hid (decide_eq_true ⟨h1, h2⟩)
      clear h1 h2
      go_enter Tryz.func42, Tryz.ntmps42
      go_wp2
      go_ret
      exact ⟨by rw [HR.out]; rfl, rfl⟩
    · have g2 : decide (a ≤ (24 : Int)) = false := decide_eq_false h2
      have HR : Hid (nodeB a = false) := Lib.hid (decide_eq_false (fun h => h2 h.2))
      clear h1 h2
      go_enter Tryz.func42, Tryz.ntmps42
      go_wp2
      go_ret
      exact ⟨by rw [HR.out]; rfl, rfl⟩
  · have g1 : decide ((1 : Int) ≤ a) = false := decide_eq_false h1
    have HR : Hid (nodeB a = false) := Lib.hid (decide_eq_false (fun h => h1 h.1))
    clear h1
    go_enter Tryz.func42, Tryz.ntmps42
    go_wp2
    go_ret
    exact ⟨by rw [HR.out]; rfl, rfl⟩
def masterB (a : Int) : Bool := decide (100 < a ∧ a ≤ 105)
set_option maxRecDepth 100000 in
theorem LMaster_any (w : World) (a : Int) : Calls Tryz.prog 61 #[.int .i64 a] w (YesNo (masterB a) w) := by
  by_cases h1 : 100 < a
  · have g1 : decide ((100 : Int) < a) = true := decide_eq_true h1
    by_cases h2 : a ≤ 105
    · have g2 : decide (a ≤ (105 : Int)) = true := decide_eq_true h2
      have HR : Hid (masterB a = true) := Lib.hid (decide_eq_true ⟨h1, h2⟩)
      clear h1 h2
      go_enter Tryz.func61, Tryz.ntmps61
      go_wp2
      go_ret
      exact ⟨by rw [HR.out]; rfl, rfl⟩
    · have g2 : decide (a ≤ (105 : Int)) = false := decide_eq_false h2
      have HR : Hid (masterB a = false) := Lib.hid (decide_eq_false (fun h => h2 h.2))
      clear h1 h2
      go_enter Tryz.func61, Tryz.ntmps61
      go_wp2
      go_ret
      exact ⟨by rw [HR.out]; rfl, rfl⟩
  · have g1 : decide ((100 : Int) < a) = false := decide_eq_false h1
    have HR : Hid (masterB a = false) := Lib.hid (decide_eq_false (fun h => h1 h.1))
    clear h1
    go_enter Tryz.func61, Tryz.ntmps61
    go_wp2
    go_ret
    exact ⟨by rw [HR.out]; rfl, rfl⟩
def clientB (a : Int) : Bool := decide (200 < a ∧ a ≤ 206)
set_option maxRecDepth 100000 in
theorem LClient_any (w : World) (a : Int) : Calls Tryz.prog 62 #[.int .i64 a] w (YesNo (clientB a) w) := by
  by_cases h1 : 200 < a
  · have g1 : decide ((200 : Int) < a) = true := decide_eq_true h1
    by_cases h2 : a ≤ 206
    · have g2 : decide (a ≤ (206 : Int)) = true := decide_eq_true h2
      have HR : Hid (clientB a = true) := Lib.hid (decide_eq_true ⟨h1, h2⟩)
      clear h1 h2
      go_enter Tryz.func62, Tryz.ntmps62
      go_wp2
      go_ret
      exact ⟨by rw [HR.out]; rfl, rfl⟩
    · have g2 : decide (a ≤ (206 : Int)) = false := decide_eq_false h2
      have HR : Hid (clientB a = false) := Lib.hid (decide_eq_false (fun h => h2 h.2))
      clear h1 h2
      go_enter Tryz.func62, Tryz.ntmps62
      go_wp2
      go_ret
      exact ⟨by rw [HR.out]; rfl, rfl⟩
  · have g1 : decide ((200 : Int) < a) = false := decide_eq_false h1
    have HR : Hid (clientB a = false) := Lib.hid (decide_eq_false (fun h => h1 h.1))
    clear h1
    go_enter Tryz.func62, Tryz.ntmps62
    go_wp2
    go_ret
    exact ⟨by rw [HR.out]; rfl, rfl⟩
def kindB (a : Int) : Bool := decide (1 ≤ a ∧ a ≤ 20)
set_option maxRecDepth 100000 in
theorem LisKind_any (w : World) (a : Int) : Calls Tryz.prog 37 #[.int .i64 a] w (YesNo (kindB a) w) := by
  by_cases h1 : 1 ≤ a
  · have g1 : decide ((1 : Int) ≤ a) = true := decide_eq_true h1
    by_cases h2 : a ≤ 20
    · have g2 : decide (a ≤ (20 : Int)) = true := decide_eq_true h2
      have HR : Hid (kindB a = true) := Lib.hid (decide_eq_true ⟨h1, h2⟩)
      clear h1 h2
      go_enter Tryz.func37, Tryz.ntmps37
      go_wp2
      go_ret
      exact ⟨by rw [HR.out]; rfl, rfl⟩
    · have g2 : decide (a ≤ (20 : Int)) = false := decide_eq_false h2
      have HR : Hid (kindB a = false) := Lib.hid (decide_eq_false (fun h => h2 h.2))
      clear h1 h2
      go_enter Tryz.func37, Tryz.ntmps37
      go_wp2
      go_ret
      exact ⟨by rw [HR.out]; rfl, rfl⟩
  · have g1 : decide ((1 : Int) ≤ a) = false := decide_eq_false h1
    have HR : Hid (kindB a = false) := Lib.hid (decide_eq_false (fun h => h1 h.1))
    clear h1
    go_enter Tryz.func37, Tryz.ntmps37
    go_wp2
    go_ret
    exact ⟨by rw [HR.out]; rfl, rfl⟩
def addrB (a : Int) : Bool := nodeB a || masterB a || clientB a
set_option maxRecDepth 100000 in
theorem LAddress_any (w : World) (a : Int) : Calls Tryz.prog 38 #[.int .i64 a] w (YesNo (addrB a) w) := by
  have HN := Lib.hid (fun w => LNode_any w a)
  have HM := Lib.hid (fun w => LMaster_any w a)
  have HC := Lib.hid (fun w => LClient_any w a)
  obtain ⟨bn, hbn⟩ : ∃ b, b = nodeB a := ⟨_, rfl⟩
  obtain ⟨bm, hbm⟩ : ∃ b, b = masterB a := ⟨_, rfl⟩
  obtain ⟨bc, hbc⟩ : ∃ b, b = clientB a := ⟨_, rfl⟩
  have HR : Hid (addrB a = (bn || bm || bc)) := Lib.hid (by rw [hbn, hbm, hbc]; rfl)
  rw [← hbn] at HN
  rw [← hbm] at HM
  rw [← hbc] at HC
  clear hbn hbm hbc
  go_enter Tryz.func38, Tryz.ntmps38
  go_wp2_with fail
  refine (HN.out _).mono ?_
  rintro e w1 ⟨rfl, rfl⟩
  cases bn with
  | true =>
    go_wp2
    go_ret
    exact ⟨by rw [HR.out]; rfl, rfl⟩
  | false =>
    go_wp2_with fail
    refine (HM.out _).mono ?_
    rintro e w1 ⟨rfl, rfl⟩
    cases bm with
    | true =>
      go_wp2
      go_ret
      exact ⟨by rw [HR.out]; rfl, rfl⟩
    | false =>
      go_wp2_with fail
      refine (HC.out _).mono ?_
      rintro e w1 ⟨rfl, rfl⟩
      go_wp2
      go_ret
      exact ⟨by rw [HR.out]; rfl, rfl⟩
/-- An update, whatever its Seq is. -/
def isUp (x : Up) : Bool := decide ((1 ≤ x.c ∧ x.c ≤ 6) ∧ (x.k = 3 ∨ (x.k = 2 ∧ x.r = 0)) ∧ 1 ≤ x.n ∧ x.d.length ≤ 2048)
set_option maxRecDepth 100000 in
set_option maxHeartbeats 1000000 in
theorem isUpdate_any (w : World) (v : Value) (x : Up) (F : Nat → Prop) (h : UpV w F v x) : Calls Tryz.prog 170 #[v] w (YesNoK (isUp x) w) := by
  obtain ⟨u, rfl, hd⟩ := h
  obtain ⟨va, vc, rfl, _⟩ := hd
  obtain ⟨y0, y1, y2, y3, y4, y5, y6⟩ := x
  simp only
  have hka := (Kept.refl NoB w).alloc (.cells #[.int .u64 y0, .int .i64 y1, .int .u64 y2, .int .i64 y3, .int .u32 y4, .int .u64 y5, .slice va y6.length vc] 84)
  have HKA := Lib.hid hka
  obtain ⟨c0, c1, c2, c3, c4, c5, c6⟩ := cells7 (heap_alloc_new w (.cells #[.int .u64 y0, .int .i64 y1, .int .u64 y2, .int .i64 y3, .int .u32 y4, .int .u64 y5, .slice va y6.length vc] 84))
  clear hka c0 c4
  by_cases hc1 : 1 ≤ y1
  · have g1 : decide ((1 : Int) ≤ y1) = true := decide_eq_true hc1
    by_cases hc2 : y1 ≤ 6
    · have g2 : decide (y1 ≤ (6 : Int)) = true := decide_eq_true hc2
      by_cases h3 : y3 = 3
      · skip
        by_cases hn : 1 ≤ y2
        · have g6 : decide ((1 : Int) ≤ y2) = true := decide_eq_true hn
          by_cases hl : y6.length ≤ 2048
          · skip
            have g3 : (y3 == 3) = true := by simpa using h3
            have g7 : decide ((y6.length : Int) ≤ 2048) = true := decide_eq_true (by omega)
            have HR : Hid (isUp ⟨y0, y1, y2, y3, y4, y5, y6⟩ = true) := Lib.hid (decide_eq_true ⟨by simp only; omega, by simp only; omega, hn, hl⟩)
            try clear hn
            try clear hl
            try clear h5
            try clear h2
            try clear h3
            try clear hc2
            try clear hc1
            go_enter Tryz.func170, Tryz.ntmps170
            go_wp2
            go_ret
            exact ⟨by rw [HR.out]; rfl, HKA.out⟩
          · skip
            have g3 : (y3 == 3) = true := by simpa using h3
            have g7 : decide ((y6.length : Int) ≤ 2048) = false := decide_eq_false (by omega)
            have HR : Hid (isUp ⟨y0, y1, y2, y3, y4, y5, y6⟩ = false) := Lib.hid (decide_eq_false (fun h => hl h.2.2.2))
            try clear hn
            try clear hl
            try clear h5
            try clear h2
            try clear h3
            try clear hc2
            try clear hc1
            go_enter Tryz.func170, Tryz.ntmps170
            go_wp2
            go_ret
            exact ⟨by rw [HR.out]; rfl, HKA.out⟩
        · have g6 : decide ((1 : Int) ≤ y2) = false := decide_eq_false hn
          have g3 : (y3 == 3) = true := by simpa using h3
          have HR : Hid (isUp ⟨y0, y1, y2, y3, y4, y5, y6⟩ = false) := Lib.hid (decide_eq_false (fun h => hn h.2.2.1))
          try clear hn
          try clear hl
          try clear h5
          try clear h2
          try clear h3
          try clear hc2
          try clear hc1
          go_enter Tryz.func170, Tryz.ntmps170
          go_wp2
          go_ret
          exact ⟨by rw [HR.out]; rfl, HKA.out⟩
      · by_cases h2 : y3 = 2
        · by_cases h5 : y5 = 0
          · skip
            by_cases hn : 1 ≤ y2
            · have g6 : decide ((1 : Int) ≤ y2) = true := decide_eq_true hn
              by_cases hl : y6.length ≤ 2048
              · skip
                have g3 : (y3 == 3) = false := by simpa using h3
                have g4 : (y3 == 2) = true := by simpa using h2
                have g5 : (y5 == 0) = true := by simpa using h5
                have g7 : decide ((y6.length : Int) ≤ 2048) = true := decide_eq_true (by omega)
                have HR : Hid (isUp ⟨y0, y1, y2, y3, y4, y5, y6⟩ = true) := Lib.hid (decide_eq_true ⟨by simp only; omega, by simp only; omega, hn, hl⟩)
                try clear hn
                try clear hl
                try clear h5
                try clear h2
                try clear h3
                try clear hc2
                try clear hc1
                go_enter Tryz.func170, Tryz.ntmps170
                go_wp2
                go_ret
                exact ⟨by rw [HR.out]; rfl, HKA.out⟩
              · skip
                have g3 : (y3 == 3) = false := by simpa using h3
                have g4 : (y3 == 2) = true := by simpa using h2
                have g5 : (y5 == 0) = true := by simpa using h5
                have g7 : decide ((y6.length : Int) ≤ 2048) = false := decide_eq_false (by omega)
                have HR : Hid (isUp ⟨y0, y1, y2, y3, y4, y5, y6⟩ = false) := Lib.hid (decide_eq_false (fun h => hl h.2.2.2))
                try clear hn
                try clear hl
                try clear h5
                try clear h2
                try clear h3
                try clear hc2
                try clear hc1
                go_enter Tryz.func170, Tryz.ntmps170
                go_wp2
                go_ret
                exact ⟨by rw [HR.out]; rfl, HKA.out⟩
            · have g6 : decide ((1 : Int) ≤ y2) = false := decide_eq_false hn
              have g3 : (y3 == 3) = false := by simpa using h3
              have g4 : (y3 == 2) = true := by simpa using h2
              have g5 : (y5 == 0) = true := by simpa using h5
              have HR : Hid (isUp ⟨y0, y1, y2, y3, y4, y5, y6⟩ = false) := Lib.hid (decide_eq_false (fun h => hn h.2.2.1))
              try clear hn
              try clear hl
              try clear h5
              try clear h2
              try clear h3
              try clear hc2
              try clear hc1
              go_enter Tryz.func170, Tryz.ntmps170
              go_wp2
              go_ret
              exact ⟨by rw [HR.out]; rfl, HKA.out⟩
          · skip
            have g3 : (y3 == 3) = false := by simpa using h3
            have g4 : (y3 == 2) = true := by simpa using h2
            have g5 : (y5 == 0) = false := by simpa using h5
            have HR : Hid (isUp ⟨y0, y1, y2, y3, y4, y5, y6⟩ = false) := Lib.hid (decide_eq_false (fun h => by have h1 := h.1; have h2 := h.2.1; simp only at h1 h2; omega))
            try clear hn
            try clear hl
            try clear h5
            try clear h2
            try clear h3
            try clear hc2
            try clear hc1
            go_enter Tryz.func170, Tryz.ntmps170
            go_wp2
            go_ret
            exact ⟨by rw [HR.out]; rfl, HKA.out⟩
        · skip
          have g3 : (y3 == 3) = false := by simpa using h3
          have g4 : (y3 == 2) = false := by simpa using h2
          have HR : Hid (isUp ⟨y0, y1, y2, y3, y4, y5, y6⟩ = false) := Lib.hid (decide_eq_false (fun h => by have h1 := h.1; have h2 := h.2.1; simp only at h1 h2; omega))
          try clear hn
          try clear hl
          try clear h5
          try clear h2
          try clear h3
          try clear hc2
          try clear hc1
          go_enter Tryz.func170, Tryz.ntmps170
          go_wp2
          go_ret
          exact ⟨by rw [HR.out]; rfl, HKA.out⟩
    · have g2 : decide (y1 ≤ (6 : Int)) = false := decide_eq_false hc2
      by_cases h3 : y3 = 3
      · skip
        have g3 : (y3 == 3) = true := by simpa using h3
        have HR : Hid (isUp ⟨y0, y1, y2, y3, y4, y5, y6⟩ = false) := Lib.hid (decide_eq_false (fun h => by have h1 := h.1; have h2 := h.2.1; simp only at h1 h2; omega))
        try clear hn
        try clear hl
        try clear h5
        try clear h2
        try clear h3
        try clear hc2
        try clear hc1
        go_enter Tryz.func170, Tryz.ntmps170
        go_wp2
        go_ret
        exact ⟨by rw [HR.out]; rfl, HKA.out⟩
      · by_cases h2 : y3 = 2
        · by_cases h5 : y5 = 0
          · skip
            have g3 : (y3 == 3) = false := by simpa using h3
            have g4 : (y3 == 2) = true := by simpa using h2
            have g5 : (y5 == 0) = true := by simpa using h5
            have HR : Hid (isUp ⟨y0, y1, y2, y3, y4, y5, y6⟩ = false) := Lib.hid (decide_eq_false (fun h => by have h1 := h.1; have h2 := h.2.1; simp only at h1 h2; omega))
            try clear hn
            try clear hl
            try clear h5
            try clear h2
            try clear h3
            try clear hc2
            try clear hc1
            go_enter Tryz.func170, Tryz.ntmps170
            go_wp2
            go_ret
            exact ⟨by rw [HR.out]; rfl, HKA.out⟩
          · skip
            have g3 : (y3 == 3) = false := by simpa using h3
            have g4 : (y3 == 2) = true := by simpa using h2
            have g5 : (y5 == 0) = false := by simpa using h5
            have HR : Hid (isUp ⟨y0, y1, y2, y3, y4, y5, y6⟩ = false) := Lib.hid (decide_eq_false (fun h => by have h1 := h.1; have h2 := h.2.1; simp only at h1 h2; omega))
            try clear hn
            try clear hl
            try clear h5
            try clear h2
            try clear h3
            try clear hc2
            try clear hc1
            go_enter Tryz.func170, Tryz.ntmps170
            go_wp2
            go_ret
            exact ⟨by rw [HR.out]; rfl, HKA.out⟩
        · skip
          have g3 : (y3 == 3) = false := by simpa using h3
          have g4 : (y3 == 2) = false := by simpa using h2
          have HR : Hid (isUp ⟨y0, y1, y2, y3, y4, y5, y6⟩ = false) := Lib.hid (decide_eq_false (fun h => by have h1 := h.1; have h2 := h.2.1; simp only at h1 h2; omega))
          try clear hn
          try clear hl
          try clear h5
          try clear h2
          try clear h3
          try clear hc2
          try clear hc1
          go_enter Tryz.func170, Tryz.ntmps170
          go_wp2
          go_ret
          exact ⟨by rw [HR.out]; rfl, HKA.out⟩
  · have g1 : decide ((1 : Int) ≤ y1) = false := decide_eq_false hc1
    by_cases h3 : y3 = 3
    · skip
      have g3 : (y3 == 3) = true := by simpa using h3
      have HR : Hid (isUp ⟨y0, y1, y2, y3, y4, y5, y6⟩ = false) := Lib.hid (decide_eq_false (fun h => by have h1 := h.1; have h2 := h.2.1; simp only at h1 h2; omega))
      try clear hn
      try clear hl
      try clear h5
      try clear h2
      try clear h3
      try clear hc2
      try clear hc1
      go_enter Tryz.func170, Tryz.ntmps170
      go_wp2
      go_ret
      exact ⟨by rw [HR.out]; rfl, HKA.out⟩
    · by_cases h2 : y3 = 2
      · by_cases h5 : y5 = 0
        · skip
          have g3 : (y3 == 3) = false := by simpa using h3
          have g4 : (y3 == 2) = true := by simpa using h2
          have g5 : (y5 == 0) = true := by simpa using h5
          have HR : Hid (isUp ⟨y0, y1, y2, y3, y4, y5, y6⟩ = false) := Lib.hid (decide_eq_false (fun h => by have h1 := h.1; have h2 := h.2.1; simp only at h1 h2; omega))
          try clear hn
          try clear hl
          try clear h5
          try clear h2
          try clear h3
          try clear hc2
          try clear hc1
          go_enter Tryz.func170, Tryz.ntmps170
          go_wp2
          go_ret
          exact ⟨by rw [HR.out]; rfl, HKA.out⟩
        · skip
          have g3 : (y3 == 3) = false := by simpa using h3
          have g4 : (y3 == 2) = true := by simpa using h2
          have g5 : (y5 == 0) = false := by simpa using h5
          have HR : Hid (isUp ⟨y0, y1, y2, y3, y4, y5, y6⟩ = false) := Lib.hid (decide_eq_false (fun h => by have h1 := h.1; have h2 := h.2.1; simp only at h1 h2; omega))
          try clear hn
          try clear hl
          try clear h5
          try clear h2
          try clear h3
          try clear hc2
          try clear hc1
          go_enter Tryz.func170, Tryz.ntmps170
          go_wp2
          go_ret
          exact ⟨by rw [HR.out]; rfl, HKA.out⟩
      · skip
        have g3 : (y3 == 3) = false := by simpa using h3
        have g4 : (y3 == 2) = false := by simpa using h2
        have HR : Hid (isUp ⟨y0, y1, y2, y3, y4, y5, y6⟩ = false) := Lib.hid (decide_eq_false (fun h => by have h1 := h.1; have h2 := h.2.1; simp only at h1 h2; omega))
        try clear hn
        try clear hl
        try clear h5
        try clear h2
        try clear h3
        try clear hc2
        try clear hc1
        go_enter Tryz.func170, Tryz.ntmps170
        go_wp2
        go_ret
        exact ⟨by rw [HR.out]; rfl, HKA.out⟩
set_option maxRecDepth 100000 in
set_option maxHeartbeats 1000000 in
theorem wrong1_any (w : World) (v : Value) (x : Up) (F : Nat → Prop) (h : UpV w F v x) : Calls Tryz.prog 169 #[v] w (YesNoK (decide (x.q < 1) || !isUp x) w) := by
  have hv := h
  obtain ⟨u, rfl, hd⟩ := h
  obtain ⟨va, vc, rfl, _⟩ := id hd
  obtain ⟨y0, y1, y2, y3, y4, y5, y6⟩ := x
  simp only at hd ⊢
  have hka := (Kept.refl NoB w).alloc (.cells #[.int .u64 y0, .int .i64 y1, .int .u64 y2, .int .i64 y3, .int .u32 y4, .int .u64 y5, .slice va y6.length vc] 84)
  have HKA := Lib.hid hka
  have HU := Lib.hid (isUpdate_any _ _ ⟨y0, y1, y2, y3, y4, y5, y6⟩ F (hv.no hka))
  obtain ⟨c0, c1, c2, c3, c4, c5, c6⟩ := cells7 (heap_alloc_new w (.cells #[.int .u64 y0, .int .i64 y1, .int .u64 y2, .int .i64 y3, .int .u32 y4, .int .u64 y5, .slice va y6.length vc] 84))
  obtain ⟨b, hb⟩ : ∃ b, b = isUp ⟨y0, y1, y2, y3, y4, y5, y6⟩ := ⟨_, rfl⟩
  rw [← hb] at HU ⊢
  clear hka hv hd hb
  by_cases hq : y0 < 1
  · have g1 : decide (y0 < 1) = true := decide_eq_true hq
    clear hq HU
    go_enter Tryz.func169, Tryz.ntmps169
    go_wp2
    go_ret
    exact ⟨by first | rfl | (rw [g1]; rfl), HKA.out⟩
  · have g1 : decide (y0 < 1) = false := decide_eq_false hq
    clear hq
    go_enter Tryz.func169, Tryz.ntmps169
    go_wp2_with fail
    refine HU.out.mono ?_
    rintro e w1 ⟨rfl, hk⟩
    have HK := Lib.hid (HKA.out.trans hk (fun _ _ h => h))
    clear hk
    have hnot : ∀ (x : Bool) (w : World), (Op.unary .not (.bool x)).run Tryz.prog w = .ok (.bool (!x)) w := fun _ _ => rfl
    go_wp2
    go_ret
    exact ⟨by first | rfl | (rw [g1]; rfl) | (cases b <;> rfl), HK.out⟩
end Go.Proofs.YtclfecninhipnaaGreatDoor
namespace Go.Proofs.YtclfecninhipnaaGreatDoor
open Go.RowKit
set_option linter.unusedVariables false
set_option linter.unusedSimpArgs false

/-- A function literal that tells p of an update, in any later world. -/
def TellsU (f : FuncId) (caps : Array Value) (l : List Up) (p : Up → Bool) (F : Nat → Prop) (w : World) : Prop :=
  Enters17 f ∧ ∀ x v w', x ∈ l → UpV w' F v x → Kept NoB w w' → Calls Tryz.prog f (#[v] ++ caps) w' (YesNoK (p x) w')
set_option maxRecDepth 100000 in
set_option maxHeartbeats 1000000 in
theorem IndexU_any (v : Value) (l : List Up) (f : FuncId) (caps : Array Value) (p : Up → Bool) (F : Nat → Prop) (w : World) (h : UsAt w F v l) (hp : TellsU f caps l p F w) :
    Calls Tryz.prog 207 #[v, .func (.func f) #[] caps] w fun e w' => (∃ r : Int, e = .returned (.int .i64 r) ∧ ((r = -1 ∧ l.any p = false) ∨ (0 ≤ r ∧ l.any p = true))) ∧ Kept NoB w w' := by
  obtain ⟨a, cap, rfl⟩ := h.form
  have hl : (l.length : Int) ≤ 9223372036854775807 := by have := h.len; unfold maxLen at this; omega
  have H := Lib.hid h
  have HP := Lib.hid hp.2
  have hent : ∀ (args : Array Value) (w : World), Sem.run Tryz.prog (callFunc f args) w = .ok (.enter f args) w := hp.1
  clear h hp
  go_enter Tryz.func207, Tryz.ntmps207
  go_wp2
  go_loopw [8] (fun i wr => ∃ k : Nat, i = .int .i64 k ∧ k ≤ l.length ∧ (l.take k).any p = false ∧ Kept NoB w wr) (fun i _ => l.length - (RowKit.intOf i).toNat)
  case atStart => exact ⟨0, rfl, Nat.zero_le _, by simp, Kept.refl _ _⟩
  case round =>
    obtain ⟨k, rfl, hk, hno, hkk⟩ := hrel
    have HN := Lib.hid hno
    have HK := Lib.hid hkk
    have hk0 : (0 : Int) ≤ (k : Int) := by omega
    clear hno hkk
    by_cases hlt : k < l.length
    · obtain ⟨b, o, rfl, hFb, hb, u, e0, e1, e2, e3, e4, e5, e6, hdd⟩ := (H.out.no HK.out).at_ hlt
      have HSS := Lib.hid (takeU hlt)
      have HA : Hid (nthU l k ∈ l) := Lib.hid (by rw [nthU_at hlt]; exact List.getElem_mem _)
      obtain ⟨y, hy⟩ : ∃ y, y = nthU l k := ⟨_, rfl⟩
      rw [← hy] at e0 e1 e2 e3 e4 e5 hdd HSS HA
      have hk1 : (k : Int) < (l.length : Int) := by omega
      have HC := Lib.hid (HP.out y _ wr HA.out ⟨u, rfl, hdd⟩ HK.out)
      clear hy hdd hFb hb
      cases hpy : p y with
      | true =>
        rw [hpy] at HC
        have HPY : Hid (l.any p = true) := Lib.hid (List.any_eq_true.2 ⟨y, HA.out, hpy⟩)
        clear hpy
        go_wp2_with fail
        refine HC.out.mono ?_
        rintro e w2 ⟨rfl, hk2⟩
        have HK2 := Lib.hid (HK.out.trans hk2 (fun _ _ h => h))
        clear hk2
        go_wp2
        go_ret
        exact ⟨⟨_, rfl, .inr ⟨by omega, HPY.out⟩⟩, HK2.out⟩
      | false =>
        rw [hpy] at HC
        have HPY : Hid ((l.take (k + 1)).any p = false) := Lib.hid (by rw [HSS.out, List.any_append, HN.out]; simp [hpy])
        clear hpy
        go_wp2_with fail
        refine HC.out.mono ?_
        rintro e w2 ⟨rfl, hk2⟩
        have HK2 := Lib.hid (HK.out.trans hk2 (fun _ _ h => h))
        clear hk2
        go_wp2
        exact ⟨⟨k + 1, by go_num, by omega, HPY.out, HK2.out⟩, by simp [RowKit.intOf]; omega⟩
    · obtain rfl : k = l.length := by omega
      go_wp2
      go_ret
      exact ⟨⟨_, rfl, .inl ⟨rfl, by have := HN.out; rwa [List.take_length] at this⟩⟩, HK.out⟩
set_option maxRecDepth 100000 in
theorem ContainsU_any (v : Value) (l : List Up) (f : FuncId) (caps : Array Value) (p : Up → Bool) (F : Nat → Prop) (w : World) (h : UsAt w F v l) (hp : TellsU f caps l p F w) :
    Calls Tryz.prog 171 #[v, .func (.func f) #[] caps] w (YesNoK (l.any p) w) := by
  have HI := Lib.hid (IndexU_any v l f caps p F w h hp)
  obtain ⟨a, cap, rfl⟩ := h.form
  clear h hp
  obtain ⟨d, hd⟩ : ∃ d, d = l.any p := ⟨_, rfl⟩
  rw [← hd] at HI ⊢
  clear hd
  go_enter Tryz.func171, Tryz.ntmps171
  go_wp2_with fail
  refine HI.out.mono ?_
  rintro e w1 ⟨⟨r, rfl, hr⟩, hk⟩
  have HK := Lib.hid hk
  clear hk
  rcases hr with ⟨rfl, rfl⟩ | ⟨hr, rfl⟩
  · go_wp2
    go_ret
    exact ⟨rfl, HK.out⟩
  · go_wp2
    go_ret
    exact ⟨rfl, HK.out⟩
theorem ent_wrong : Enters17 169 := fun args w => by kernel_rfl
/-- Updates of a chain. -/
def areUs (l : List Up) : Bool := decide (l.length ≤ 4) && !(l.any (fun x => decide (x.q < 1) || !isUp x))
set_option maxRecDepth 100000 in
theorem areUpdates_any (w : World) (v : Value) (l : List Up) (F : Nat → Prop) (h : UsAt w F v l) : Calls Tryz.prog 116 #[v] w (YesNoK (areUs l) w) := by
  have HC := Lib.hid (ContainsU_any v l 169 #[] (fun x => decide (x.q < 1) || !isUp x) F w h ⟨ent_wrong, fun x v w' _ hv _ => wrong1_any w' v x F hv⟩)
  obtain ⟨a, cap, rfl⟩ := h.form
  obtain ⟨d, hd⟩ : ∃ d, d = l.any (fun x => decide (x.q < 1) || !isUp x) := ⟨_, rfl⟩
  have HR : Hid (areUs l = (decide (l.length ≤ 4) && !d)) := Lib.hid (by unfold areUs; rw [hd])
  rw [← hd] at HC
  clear h hd
  by_cases hl : l.length ≤ 4
  · have g1 : decide ((l.length : Int) ≤ 4) = true := decide_eq_true (by omega)
    have HR2 : Hid (areUs l = !d) := Lib.hid (by rw [HR.out, decide_eq_true hl]; rfl)
    clear hl HR
    go_enter Tryz.func116, Tryz.ntmps116
    go_wp2_with fail
    refine HC.out.mono ?_
    rintro e w1 ⟨rfl, hk⟩
    have HK := Lib.hid hk
    clear hk
    cases d
    all_goals
      go_wp2
      go_ret
      exact ⟨by rw [HR2.out]; rfl, HK.out⟩
  · have g1 : decide ((l.length : Int) ≤ 4) = false := decide_eq_false (by omega)
    have HR2 : Hid (areUs l = false) := Lib.hid (by rw [HR.out, decide_eq_false hl]; rfl)
    clear hl HR HC
    go_enter Tryz.func116, Tryz.ntmps116
    go_wp2
    go_ret
    exact ⟨by rw [HR2.out]; rfl, Kept.refl _ _⟩
/-- What a client asks for: one update that has no Seq. -/
def areReq (l : List Up) : Bool := decide (l.length = 1) && (decide ((nthU l 0).q = 0) && isUp (nthU l 0))
set_option maxRecDepth 100000 in
set_option maxHeartbeats 1000000 in
theorem areRequest_any (w : World) (v : Value) (l : List Up) (F : Nat → Prop) (h : UsAt w F v l) : Calls Tryz.prog 120 #[v] w (YesNoK (areReq l) w) := by
  by_cases hl : l.length = 1
  · obtain ⟨a, cap, rfl⟩ := h.form
    obtain ⟨b, o, rfl, hFb, hb, u, e0, e1, e2, e3, e4, e5, e6, hdd⟩ := h.at_ (j := 0) (by omega)
    obtain ⟨y, hy⟩ : ∃ y, y = nthU l 0 := ⟨_, rfl⟩
    have HR : Hid (areReq l = (decide (y.q = 0) && isUp y)) := Lib.hid (by unfold areReq; rw [decide_eq_true hl, hy]; rfl)
    rw [← hy] at e0 e1 e2 e3 e4 e5 hdd
    simp only [Nat.zero_mul, Nat.add_zero] at e0 e1 e2 e3 e4 e5 e6
    have HU := Lib.hid (isUpdate_any w _ y F ⟨u, rfl, hdd⟩)
    obtain ⟨n, hn⟩ : ∃ n, n = l.length := ⟨_, rfl⟩
    rw [← hn] at hl ⊢
    clear h hy hdd hFb hb hn
    subst hl
    obtain ⟨y0, y1, y2, y3, y4, y5, y6⟩ := y
    simp only at e0 e1 e2 e3 e4 e5 HR HU
    obtain ⟨d, hd⟩ : ∃ d, d = isUp ⟨y0, y1, y2, y3, y4, y5, y6⟩ := ⟨_, rfl⟩
    rw [← hd] at HU HR
    clear hd
    by_cases hq : y0 = 0
    · have g1 : (y0 == 0) = true := by simpa using hq
      have HR2 : Hid (areReq l = d) := Lib.hid (by rw [HR.out, decide_eq_true hq]; rfl)
      clear hq HR
      go_enter Tryz.func120, Tryz.ntmps120
      go_wp2_with fail
      refine HU.out.mono ?_
      rintro e w1 ⟨rfl, hk⟩
      have HK := Lib.hid hk
      clear hk
      go_wp2
      go_ret
      exact ⟨by rw [HR2.out]; rfl, HK.out⟩
    · have g1 : (y0 == 0) = false := by simpa using hq
      have HR2 : Hid (areReq l = false) := Lib.hid (by rw [HR.out, decide_eq_false hq]; rfl)
      clear hq HR HU
      go_enter Tryz.func120, Tryz.ntmps120
      go_wp2
      go_ret
      exact ⟨by rw [HR2.out]; rfl, Kept.refl _ _⟩
  · obtain ⟨a, cap, rfl⟩ := h.form
    have g1 : ((l.length : Int) == 1) = false := by simp; omega
    have HR2 : Hid (areReq l = false) := Lib.hid (by unfold areReq; rw [decide_eq_false hl]; rfl)
    clear h hl
    go_enter Tryz.func120, Tryz.ntmps120
    go_wp2
    go_ret
    exact ⟨by rw [HR2.out]; rfl, Kept.refl _ _⟩
/-- A function that leads to a field of a letter. -/
def LeadsTo (f : FuncId) (o : Nat) : Prop := ∀ (w : World) (g : Nat), Calls Tryz.prog f #[.pointer (some ⟨g, 0, none⟩)] w fun e w' => e = .returned (.pointer (some ⟨g, o, none⟩)) ∧ w = w'
set_option maxRecDepth 100000 in
theorem to_partAt_1 : LeadsTo 83 5 := by
  intro w g
  go_enter Tryz.func83, Tryz.ntmps83
  go_wp2
  go_ret
  exact ⟨rfl, rfl⟩
theorem ent_partAt_1 : Enters17 83 := fun args w => by kernel_rfl
set_option maxRecDepth 100000 in
theorem to_partAt_2 : LeadsTo 86 3 := by
  intro w g
  go_enter Tryz.func86, Tryz.ntmps86
  go_wp2
  go_ret
  exact ⟨rfl, rfl⟩
theorem ent_partAt_2 : Enters17 86 := fun args w => by kernel_rfl
set_option maxRecDepth 100000 in
theorem to_partAt_3 : LeadsTo 88 4 := by
  intro w g
  go_enter Tryz.func88, Tryz.ntmps88
  go_wp2
  go_ret
  exact ⟨rfl, rfl⟩
theorem ent_partAt_3 : Enters17 88 := fun args w => by kernel_rfl
set_option maxRecDepth 100000 in
theorem to_partAt_4 : LeadsTo 90 7 := by
  intro w g
  go_enter Tryz.func90, Tryz.ntmps90
  go_wp2
  go_ret
  exact ⟨rfl, rfl⟩
theorem ent_partAt_4 : Enters17 90 := fun args w => by kernel_rfl
set_option maxRecDepth 100000 in
theorem to_partAt_5 : LeadsTo 91 8 := by
  intro w g
  go_enter Tryz.func91, Tryz.ntmps91
  go_wp2
  go_ret
  exact ⟨rfl, rfl⟩
theorem ent_partAt_5 : Enters17 91 := fun args w => by kernel_rfl
set_option maxRecDepth 100000 in
theorem to_partAt_6 : LeadsTo 92 10 := by
  intro w g
  go_enter Tryz.func92, Tryz.ntmps92
  go_wp2
  go_ret
  exact ⟨rfl, rfl⟩
theorem ent_partAt_6 : Enters17 92 := fun args w => by kernel_rfl
set_option maxRecDepth 100000 in
theorem to_partAt_7 : LeadsTo 93 6 := by
  intro w g
  go_enter Tryz.func93, Tryz.ntmps93
  go_wp2
  go_ret
  exact ⟨rfl, rfl⟩
theorem ent_partAt_7 : Enters17 93 := fun args w => by kernel_rfl
set_option maxRecDepth 100000 in
theorem to_partAt_8 : LeadsTo 96 11 := by
  intro w g
  go_enter Tryz.func96, Tryz.ntmps96
  go_wp2
  go_ret
  exact ⟨rfl, rfl⟩
theorem ent_partAt_8 : Enters17 96 := fun args w => by kernel_rfl
set_option maxRecDepth 100000 in
theorem to_partAt_9 : LeadsTo 99 12 := by
  intro w g
  go_enter Tryz.func99, Tryz.ntmps99
  go_wp2
  go_ret
  exact ⟨rfl, rfl⟩
theorem ent_partAt_9 : Enters17 99 := fun args w => by kernel_rfl
set_option maxRecDepth 100000 in
theorem to_partAt_10 : LeadsTo 100 9 := by
  intro w g
  go_enter Tryz.func100, Tryz.ntmps100
  go_wp2
  go_ret
  exact ⟨rfl, rfl⟩
theorem ent_partAt_10 : Enters17 100 := fun args w => by kernel_rfl
set_option maxRecDepth 100000 in
theorem to_partAt_11 : LeadsTo 105 13 := by
  intro w g
  go_enter Tryz.func105, Tryz.ntmps105
  go_wp2
  go_ret
  exact ⟨rfl, rfl⟩
theorem ent_partAt_11 : Enters17 105 := fun args w => by kernel_rfl
set_option maxRecDepth 100000 in
theorem to_partAt_12 : LeadsTo 109 17 := by
  intro w g
  go_enter Tryz.func109, Tryz.ntmps109
  go_wp2
  go_ret
  exact ⟨rfl, rfl⟩
theorem ent_partAt_12 : Enters17 109 := fun args w => by kernel_rfl
set_option maxRecDepth 100000 in
theorem to_partAt_13 : LeadsTo 114 22 := by
  intro w g
  go_enter Tryz.func114, Tryz.ntmps114
  go_wp2
  go_ret
  exact ⟨rfl, rfl⟩
theorem ent_partAt_13 : Enters17 114 := fun args w => by kernel_rfl
set_option maxRecDepth 100000 in
theorem to_partAt_14 : LeadsTo 119 23 := by
  intro w g
  go_enter Tryz.func119, Tryz.ntmps119
  go_wp2
  go_ret
  exact ⟨rfl, rfl⟩
theorem ent_partAt_14 : Enters17 119 := fun args w => by kernel_rfl
set_option maxRecDepth 100000 in
theorem to_partAt_15 : LeadsTo 121 23 := by
  intro w g
  go_enter Tryz.func121, Tryz.ntmps121
  go_wp2
  go_ret
  exact ⟨rfl, rfl⟩
theorem ent_partAt_15 : Enters17 121 := fun args w => by kernel_rfl
set_option maxRecDepth 100000 in
theorem to_data_3 : LeadsTo 179 24 := by
  intro w g
  go_enter Tryz.func179, Tryz.ntmps179
  go_wp2
  go_ret
  exact ⟨rfl, rfl⟩
theorem ent_data_3 : Enters17 179 := fun args w => by kernel_rfl
theorem ent_isPositive : Enters17 87 := fun args w => by kernel_rfl
theorem ent_any_u64 : Enters17 89 := fun args w => by kernel_rfl
theorem ent_areUpdates : Enters17 116 := fun args w => by kernel_rfl
theorem ent_areRequest : Enters17 120 := fun args w => by kernel_rfl
theorem ent_upto_int : Enters17 140 := fun args w => by kernel_rfl
set_option maxRecDepth 100000 in
theorem isPositive_any (w : World) (n : Int) : Calls Tryz.prog 87 #[.int .u64 n] w (YesNo (decide (1 ≤ n)) w) := by
  go_enter Tryz.func87, Tryz.ntmps87
  go_wp2
  go_ret
  exact ⟨rfl, rfl⟩
set_option maxRecDepth 100000 in
theorem anyU64_any (w : World) (n : Int) : Calls Tryz.prog 89 #[.int .u64 n] w (YesNo true w) := by
  go_enter Tryz.func89, Tryz.ntmps89
  go_wp2
  go_ret
  exact ⟨rfl, rfl⟩
set_option maxRecDepth 100000 in
theorem uptoInt_any (w : World) (n m : Int) (b : Nat) (hc : w.cell? ⟨b, 0, none⟩ = some (.int .i64 m)) : Calls Tryz.prog 140 #[.int .i64 n, .pointer (some ⟨b, 0, none⟩)] w (YesNo (decide (0 ≤ n) && decide (n ≤ m)) w) := by
  obtain ⟨b1, h1⟩ : ∃ b1, b1 = decide (0 ≤ n) := ⟨_, rfl⟩
  obtain ⟨b2, h2⟩ : ∃ b2, b2 = decide (n ≤ m) := ⟨_, rfl⟩
  have g1 := h1.symm
  have g2 := h2.symm
  clear h1 h2
  rw [g1, g2]
  cases b1
  · go_enter Tryz.func140, Tryz.ntmps140
    go_wp2
    go_ret
    exact ⟨rfl, rfl⟩
  · go_enter Tryz.func140, Tryz.ntmps140
    go_wp2
    go_ret
    exact ⟨rfl, rfl⟩
set_option maxRecDepth 100000 in
theorem upTo_any (w : World) (m : Int) : Calls Tryz.prog 85 #[.int .i64 m] w fun e w' => e = .returned (.func (.func 140) #[] #[.pointer (some ⟨w.heap.size, 0, none⟩)]) ∧ w' = w.alloc (.cells #[.int .i64 m] 3) := by
  have hmf : ∀ (fn : Fn) (first cap : Array Value) (w : World), (Instr.makeFunc fn first cap).run Tryz.prog w = .ok (.func fn first cap) w := fun _ _ _ _ => rfl
  go_enter Tryz.func85, Tryz.ntmps85
  go_wp2
  go_ret
  exact ⟨rfl, rfl⟩
end Go.Proofs.YtclfecninhipnaaGreatDoor
namespace Go.Proofs.YtclfecninhipnaaGreatDoor
open Go.RowKit
set_option linter.unusedVariables false
set_option linter.unusedSimpArgs false

/-- A block of one value. -/
def OneAt (t : TypeId) (b : Nat) (v : Value) (w : World) : Prop := w.heap[b]? = some (.cells #[v] t (0, 0))
theorem OneAt.kept {t : TypeId} {b : Nat} {v : Value} {S : Nat → Prop} {a c : World} (h : OneAt t b v a) (hk : Kept S a c) (hs : ¬ S b) : OneAt t b v c := hk.heap hs h
theorem OneAt.no {t : TypeId} {b : Nat} {v : Value} {a c : World} (h : OneAt t b v a) (hk : Kept NoB a c) : OneAt t b v c := hk.heap (fun h => h) h
theorem OneAt.cell {t : TypeId} {b : Nat} {v : Value} {w : World} (h : OneAt t b v w) : w.cell? ⟨b, 0, none⟩ = some v := cell_of_row _ _ 0 _ _ _ h
theorem OneAt.new (w : World) (t : TypeId) (v : Value) : OneAt t w.heap.size v (w.alloc (.cells #[v] t (0, 0))) := heap_alloc_new w _
theorem OneAt.alloc {t : TypeId} {b : Nat} {v : Value} {w : World} (h : OneAt t b v w) (o : Obj) : OneAt t b v (w.alloc o) := h.no ((Kept.refl NoB w).alloc o)
/-- A pointer to a block's first cell. -/
abbrev pb (b : Nat) : Value := .pointer (some ⟨b, 0, none⟩)
/-- A part as a value: its four functions, over the blocks that hold what they were made of. -/
def PartAg (f1 f2 f3 f4 : FuncId) (br bp bg ba : Nat) : Value := .agg #[.func (.func f1) #[] #[pb br, pb ba], .func (.func f2) #[] #[pb bp, pb ba], .func (.func f3) #[] #[pb bg, pb ba], .func (.func f4) #[] #[pb ba]]
theorem PartAg_one (f1 f2 f3 f4 : FuncId) (br bp bg ba : Nat) : ∀ u ∈ [Value.func (.func f1) #[] #[pb br, pb ba], .func (.func f2) #[] #[pb bp, pb ba], .func (.func f3) #[] #[pb bg, pb ba], .func (.func f4) #[] #[pb ba]], u.oneCell' = true := by
  intro u hu
  simp only [List.mem_cons, List.not_mem_nil, or_false] at hu
  rcases hu with rfl | rfl | rfl | rfl <;> rfl
/-- What field tells. -/
def FieldE (f1 f2 f3 f4 : FuncId) (t1 t2 t3 t4 : TypeId) (v1 v2 v3 v4 : Value) (w : World) (e : Ending) (w' : World) : Prop :=
  ∃ s, w.heap.size ≤ s ∧ e = .returned (PartAg f1 f2 f3 f4 s (s + 1) (s + 2) (s + 3)) ∧ OneAt t1 s v1 w' ∧ OneAt t2 (s + 1) v2 w' ∧ OneAt t3 (s + 2) v3 w' ∧ OneAt t4 (s + 3) v4 w' ∧ Kept NoB w w'
set_option maxRecDepth 100000 in
set_option maxHeartbeats 1000000 in
theorem field_u64 (w : World) (v1 v2 v3 v4 : Value) (h1 : v1.oneCell' = true) (h2 : v2.oneCell' = true) (h3 : v3.oneCell' = true) (h4 : v4.oneCell' = true) : Calls Tryz.prog 135 #[v1, v2, v3, v4] w (FieldE 187 188 189 190 148 195 199 150 v1 v2 v3 v4 w) := by
  have hmf : ∀ (fn : Fn) (first cap : Array Value) (w : World), (Instr.makeFunc fn first cap).run Tryz.prog w = .ok (.func fn first cap) w := fun _ _ _ _ => rfl
  have o1 := OneAt.new w 148 v1
  have o2 := OneAt.new (w.alloc (.cells #[v1] 148 (0, 0))) 195 v2
  have o3 := OneAt.new ((w.alloc (.cells #[v1] 148 (0, 0))).alloc (.cells #[v2] 195 (0, 0))) 199 v3
  have o4 := OneAt.new (((w.alloc (.cells #[v1] 148 (0, 0))).alloc (.cells #[v2] 195 (0, 0))).alloc (.cells #[v3] 199 (0, 0))) 150 v4
  have HK := Lib.hid (((((Kept.refl NoB w).alloc (.cells #[v1] 148 (0, 0))).alloc (.cells #[v2] 195 (0, 0))).alloc (.cells #[v3] 199 (0, 0))).alloc (.cells #[v4] 150 (0, 0)))
  have e2 : (w.alloc (.cells #[v1] 148 (0, 0))).heap.size = w.heap.size + 1 := by simp
  have e3 : ((w.alloc (.cells #[v1] 148 (0, 0))).alloc (.cells #[v2] 195 (0, 0))).heap.size = w.heap.size + 2 := by simp
  have e4 : (((w.alloc (.cells #[v1] 148 (0, 0))).alloc (.cells #[v2] 195 (0, 0))).alloc (.cells #[v3] 199 (0, 0))).heap.size = w.heap.size + 3 := by simp
  rw [e2] at o2
  rw [e3] at o3
  rw [e4] at o4
  have HO := Lib.hid (And.intro (((o1.alloc (.cells #[v2] 195 (0, 0))).alloc (.cells #[v3] 199 (0, 0))).alloc (.cells #[v4] 150 (0, 0))) (And.intro ((o2.alloc (.cells #[v3] 199 (0, 0))).alloc (.cells #[v4] 150 (0, 0))) (And.intro (o3.alloc (.cells #[v4] 150 (0, 0))) o4)))
  clear o1 o2 o3 o4 e2 e3 e4
  go_enter Tryz.func135, Tryz.ntmps135
  go_wp2
  exact bodyPost_ret (v := PartAg 187 188 189 190 w.heap.size (w.heap.size + 1) (w.heap.size + 2) (w.heap.size + 3)) (by simp [results, Tryz.results135, go_sem, PartAg]) rfl ⟨w.heap.size, Nat.le_refl _, rfl, HO.out.1.alloc _, HO.out.2.1.alloc _, HO.out.2.2.1.alloc _, HO.out.2.2.2.alloc _, HK.out.alloc _⟩
set_option maxRecDepth 100000 in
set_option maxHeartbeats 1000000 in
theorem field_int (w : World) (v1 v2 v3 v4 : Value) (h1 : v1.oneCell' = true) (h2 : v2.oneCell' = true) (h3 : v3.oneCell' = true) (h4 : v4.oneCell' = true) : Calls Tryz.prog 139 #[v1, v2, v3, v4] w (FieldE 192 193 194 195 104 203 204 154 v1 v2 v3 v4 w) := by
  have hmf : ∀ (fn : Fn) (first cap : Array Value) (w : World), (Instr.makeFunc fn first cap).run Tryz.prog w = .ok (.func fn first cap) w := fun _ _ _ _ => rfl
  have o1 := OneAt.new w 104 v1
  have o2 := OneAt.new (w.alloc (.cells #[v1] 104 (0, 0))) 203 v2
  have o3 := OneAt.new ((w.alloc (.cells #[v1] 104 (0, 0))).alloc (.cells #[v2] 203 (0, 0))) 204 v3
  have o4 := OneAt.new (((w.alloc (.cells #[v1] 104 (0, 0))).alloc (.cells #[v2] 203 (0, 0))).alloc (.cells #[v3] 204 (0, 0))) 154 v4
  have HK := Lib.hid (((((Kept.refl NoB w).alloc (.cells #[v1] 104 (0, 0))).alloc (.cells #[v2] 203 (0, 0))).alloc (.cells #[v3] 204 (0, 0))).alloc (.cells #[v4] 154 (0, 0)))
  have e2 : (w.alloc (.cells #[v1] 104 (0, 0))).heap.size = w.heap.size + 1 := by simp
  have e3 : ((w.alloc (.cells #[v1] 104 (0, 0))).alloc (.cells #[v2] 203 (0, 0))).heap.size = w.heap.size + 2 := by simp
  have e4 : (((w.alloc (.cells #[v1] 104 (0, 0))).alloc (.cells #[v2] 203 (0, 0))).alloc (.cells #[v3] 204 (0, 0))).heap.size = w.heap.size + 3 := by simp
  rw [e2] at o2
  rw [e3] at o3
  rw [e4] at o4
  have HO := Lib.hid (And.intro (((o1.alloc (.cells #[v2] 203 (0, 0))).alloc (.cells #[v3] 204 (0, 0))).alloc (.cells #[v4] 154 (0, 0))) (And.intro ((o2.alloc (.cells #[v3] 204 (0, 0))).alloc (.cells #[v4] 154 (0, 0))) (And.intro (o3.alloc (.cells #[v4] 154 (0, 0))) o4)))
  clear o1 o2 o3 o4 e2 e3 e4
  go_enter Tryz.func139, Tryz.ntmps139
  go_wp2
  exact bodyPost_ret (v := PartAg 192 193 194 195 w.heap.size (w.heap.size + 1) (w.heap.size + 2) (w.heap.size + 3)) (by simp [results, Tryz.results139, go_sem, PartAg]) rfl ⟨w.heap.size, Nat.le_refl _, rfl, HO.out.1.alloc _, HO.out.2.1.alloc _, HO.out.2.2.1.alloc _, HO.out.2.2.2.alloc _, HK.out.alloc _⟩
set_option maxRecDepth 100000 in
set_option maxHeartbeats 1000000 in
theorem field_ups (w : World) (v1 v2 v3 v4 : Value) (h1 : v1.oneCell' = true) (h2 : v2.oneCell' = true) (h3 : v3.oneCell' = true) (h4 : v4.oneCell' = true) : Calls Tryz.prog 115 #[v1, v2, v3, v4] w (FieldE 165 166 167 168 181 182 183 185 v1 v2 v3 v4 w) := by
  have hmf : ∀ (fn : Fn) (first cap : Array Value) (w : World), (Instr.makeFunc fn first cap).run Tryz.prog w = .ok (.func fn first cap) w := fun _ _ _ _ => rfl
  have o1 := OneAt.new w 181 v1
  have o2 := OneAt.new (w.alloc (.cells #[v1] 181 (0, 0))) 182 v2
  have o3 := OneAt.new ((w.alloc (.cells #[v1] 181 (0, 0))).alloc (.cells #[v2] 182 (0, 0))) 183 v3
  have o4 := OneAt.new (((w.alloc (.cells #[v1] 181 (0, 0))).alloc (.cells #[v2] 182 (0, 0))).alloc (.cells #[v3] 183 (0, 0))) 185 v4
  have HK := Lib.hid (((((Kept.refl NoB w).alloc (.cells #[v1] 181 (0, 0))).alloc (.cells #[v2] 182 (0, 0))).alloc (.cells #[v3] 183 (0, 0))).alloc (.cells #[v4] 185 (0, 0)))
  have e2 : (w.alloc (.cells #[v1] 181 (0, 0))).heap.size = w.heap.size + 1 := by simp
  have e3 : ((w.alloc (.cells #[v1] 181 (0, 0))).alloc (.cells #[v2] 182 (0, 0))).heap.size = w.heap.size + 2 := by simp
  have e4 : (((w.alloc (.cells #[v1] 181 (0, 0))).alloc (.cells #[v2] 182 (0, 0))).alloc (.cells #[v3] 183 (0, 0))).heap.size = w.heap.size + 3 := by simp
  rw [e2] at o2
  rw [e3] at o3
  rw [e4] at o4
  have HO := Lib.hid (And.intro (((o1.alloc (.cells #[v2] 182 (0, 0))).alloc (.cells #[v3] 183 (0, 0))).alloc (.cells #[v4] 185 (0, 0))) (And.intro ((o2.alloc (.cells #[v3] 183 (0, 0))).alloc (.cells #[v4] 185 (0, 0))) (And.intro (o3.alloc (.cells #[v4] 185 (0, 0))) o4)))
  clear o1 o2 o3 o4 e2 e3 e4
  go_enter Tryz.func115, Tryz.ntmps115
  go_wp2
  exact bodyPost_ret (v := PartAg 165 166 167 168 w.heap.size (w.heap.size + 1) (w.heap.size + 2) (w.heap.size + 3)) (by simp [results, Tryz.results115, go_sem, PartAg]) rfl ⟨w.heap.size, Nat.le_refl _, rfl, HO.out.1.alloc _, HO.out.2.1.alloc _, HO.out.2.2.1.alloc _, HO.out.2.2.2.alloc _, HK.out.alloc _⟩
end Go.Proofs.YtclfecninhipnaaGreatDoor
namespace Go.Proofs.YtclfecninhipnaaGreatDoor
open Go.RowKit
set_option linter.unusedVariables false
set_option linter.unusedSimpArgs false

/-- Four cells stored one by one. -/
def four10 (w : World) (b o : Nat) (x0 x1 x2 x3 : Value) : World := (((w.setCell ⟨b, o, none⟩ x0).setCell ⟨b, o + 1, none⟩ x1).setCell ⟨b, o + 2, none⟩ x2).setCell ⟨b, o + 3, none⟩ x3
theorem four10_at {w : World} {b : Nat} {a0 a1 a2 a3 : Value} {t : TypeId} (h : w.heap[b]? = some (.cells #[a0, a1, a2, a3] t (0, 0))) (x0 x1 x2 x3 : Value) : (four10 w b 0 x0 x1 x2 x3).heap[b]? = some (.cells #[x0, x1, x2, x3] t (0, 0)) := by
  unfold four10
  have h0 : (w.setCell ⟨b, 0, none⟩ x0).heap[b]? = some (.cells #[x0, a1, a2, a3] t (0, 0)) := blkU_set h 0 x0
  have h1 : ((w.setCell ⟨b, 0, none⟩ x0).setCell ⟨b, 0 + 1, none⟩ x1).heap[b]? = some (.cells #[x0, x1, a2, a3] t (0, 0)) := blkU_set h0 1 x1
  have h2 : (((w.setCell ⟨b, 0, none⟩ x0).setCell ⟨b, 0 + 1, none⟩ x1).setCell ⟨b, 0 + 2, none⟩ x2).heap[b]? = some (.cells #[x0, x1, x2, a3] t (0, 0)) := blkU_set h1 2 x2
  have h3 : ((((w.setCell ⟨b, 0, none⟩ x0).setCell ⟨b, 0 + 1, none⟩ x1).setCell ⟨b, 0 + 2, none⟩ x2).setCell ⟨b, 0 + 3, none⟩ x3).heap[b]? = some (.cells #[x0, x1, x2, x3] t (0, 0)) := blkU_set h2 3 x3
  exact h3
theorem Kept.four10 {S : Nat → Prop} {a w : World} (h : Kept S a w) {b : Nat} (hb : S b ∨ a.heap.size ≤ b) (o : Nat) (x0 x1 x2 x3 : Value) : Kept S a (Go.Proofs.YtclfecninhipnaaGreatDoor.four10 w b o x0 x1 x2 x3) :=
  (((h.setCell (p := ⟨b, o, none⟩) hb _).setCell (p := ⟨b, o + 1, none⟩) hb _).setCell (p := ⟨b, o + 2, none⟩) hb _).setCell (p := ⟨b, o + 3, none⟩) hb _
theorem cells4p {w : World} {b : Nat} {x y z u : Value} {t : TypeId} (h : w.heap[b]? = some (.cells #[x, y, z, u] t (0, 0))) :
    w.cell? ⟨b, 0, none⟩ = some x ∧ w.cell? ⟨b, 1, none⟩ = some y ∧ w.cell? ⟨b, 2, none⟩ = some z ∧ w.cell? ⟨b, 3, none⟩ = some u :=
  ⟨cell_of_row _ _ 0 _ _ _ h, cell_of_row _ _ 1 _ _ _ h, cell_of_row _ _ 2 _ _ _ h, cell_of_row _ _ 3 _ _ _ h⟩
/-- What number tells. -/
def NumberE (f1 f2 f3 f4 g1 g2 : FuncId) (t1 t2 t3 t4 : TypeId) (wd : Int) (v1 v4 : Value) (w : World) (e : Ending) (w' : World) : Prop :=
  ∃ s bw, w.heap.size ≤ s ∧ w.heap.size ≤ bw ∧ e = .returned (PartAg f1 f2 f3 f4 s (s + 1) (s + 2) (s + 3)) ∧ OneAt t1 s v1 w' ∧ OneAt t2 (s + 1) (.func (.func g1) #[] #[pb bw]) w' ∧ OneAt t3 (s + 2) (.func (.func g2) #[] #[pb bw]) w' ∧ OneAt t4 (s + 3) v4 w' ∧ OneAt 3 bw (.int .i64 wd) w' ∧ Kept NoB w w'
set_option maxRecDepth 100000 in
set_option maxHeartbeats 1000000 in
theorem number_u64 (w : World) (wd : Int) (v1 v4 : Value) (h1 : v1.oneCell' = true) (h4 : v4.oneCell' = true) : Calls Tryz.prog 81 #[.int .i64 wd, v1, v4] w (NumberE 187 188 189 190 130 132 148 195 199 150 wd v1 v4 w) := by
  have hmf : ∀ (fn : Fn) (first cap : Array Value) (w : World), (Instr.makeFunc fn first cap).run Tryz.prog w = .ok (.func fn first cap) w := fun _ _ _ _ => rfl
  obtain ⟨W, hW⟩ : ∃ W, W = (w.alloc (.cells #[.int .i64 wd] 3 (0, 0))).alloc (.cells #[.nilFunc, .nilFunc, .nilFunc, .nilFunc] 112 (0, 0)) := ⟨_, rfl⟩
  have hsz : W.heap.size = w.heap.size + 2 := by rw [hW]; simp
  have o1 : OneAt 3 w.heap.size (.int .i64 wd) W := by rw [hW]; exact (OneAt.new w _ _).alloc _
  have o2 : W.heap[w.heap.size + 1]? = some (.cells #[.nilFunc, .nilFunc, .nilFunc, .nilFunc] 112 (0, 0)) := by
    have := heap_alloc_new (w.alloc (.cells #[.int .i64 wd] 3 (0, 0))) (.cells #[.nilFunc, .nilFunc, .nilFunc, .nilFunc] 112 (0, 0))
    rw [show (w.alloc (.cells #[.int .i64 wd] 3 (0, 0))).heap.size = w.heap.size + 1 by simp] at this
    rw [hW]; exact this
  have HKW : Hid (Kept NoB w W) := Lib.hid (by rw [hW]; exact ((Kept.refl NoB w).alloc _).alloc _)
  have HO1 := Lib.hid o1
  have HO2 := Lib.hid o2
  have HSZ := Lib.hid hsz
  have HW := Lib.hid hW
  have HF := Lib.hid (field_u64 W v1 (.func (.func 130) #[] #[pb w.heap.size]) (.func (.func 132) #[] #[pb w.heap.size]) v4 h1 rfl rfl h4)
  clear hW hsz o1 o2
  go_enter Tryz.func81, Tryz.ntmps81
  go_wp2_with fail
  rw [← HW.out]
  go_wp2_with fail
  refine HF.out.mono ?_
  rintro e w1 ⟨s, hs, rfl, a1, a2, a3, a4, hk⟩
  have HA := Lib.hid (And.intro a1 (And.intro a2 (And.intro a3 a4)))
  have HB := Lib.hid (HO1.out.no hk)
  have hr := hk.heap (fun h => h) HO2.out
  have HR := Lib.hid hr
  obtain ⟨r0, r1, r2, r3⟩ := cells4p hr
  have z := blkU_frozen hr
  have HK1 := Lib.hid (HKW.out.trans hk (fun _ _ h => h))
  have HS : Hid (w.heap.size + 2 ≤ s) := Lib.hid (by have := HSZ.out; omega)
  unfold PartAg
  clear a1 a2 a3 a4 hk hr hs
  go_wp2
  have hF := four10_at HR.out (.func (.func 187) #[] #[pb s, pb (s + 3)]) (.func (.func 188) #[] #[pb (s + 1), pb (s + 3)]) (.func (.func 189) #[] #[pb (s + 2), pb (s + 3)]) (.func (.func 190) #[] #[pb (s + 3)])
  have hK := HK1.out.four10 (b := w.heap.size + 1) (.inr (by omega)) 0 (.func (.func 187) #[] #[pb s, pb (s + 3)]) (.func (.func 188) #[] #[pb (s + 1), pb (s + 3)]) (.func (.func 189) #[] #[pb (s + 2), pb (s + 3)]) (.func (.func 190) #[] #[pb (s + 3)])
  have hO : ∀ (t : TypeId) (b : Nat) (v : Value), OneAt t b v w1 → b ≠ w.heap.size + 1 → OneAt t b v (four10 w1 (w.heap.size + 1) 0 (.func (.func 187) #[] #[pb s, pb (s + 3)]) (.func (.func 188) #[] #[pb (s + 1), pb (s + 3)]) (.func (.func 189) #[] #[pb (s + 2), pb (s + 3)]) (.func (.func 190) #[] #[pb (s + 3)])) := fun t b v h hb => h.kept ((Kept.refl (fun k => k = w.heap.size + 1) w1).four10 (b := w.heap.size + 1) (.inl rfl) 0 (.func (.func 187) #[] #[pb s, pb (s + 3)]) (.func (.func 188) #[] #[pb (s + 1), pb (s + 3)]) (.func (.func 189) #[] #[pb (s + 2), pb (s + 3)]) (.func (.func 190) #[] #[pb (s + 3)])) hb
  clear r0 r1 r2 r3 z
  obtain ⟨r0, r1, r2, r3⟩ := cells4p hF
  clear hF
  unfold four10 at r0 r1 r2 r3 hK hO
  simp only [Nat.zero_add] at r0 r1 r2 r3 hK hO
  generalize hW : World.setCell _ _ _ = W3 at r0 r1 r2 r3 hK hO ⊢
  have hs := HS.out
  exact bodyPost_ret (v := PartAg 187 188 189 190 s (s + 1) (s + 2) (s + 3)) (by simp [results, Tryz.results81, go_sem, PartAg, r0, r1, r2, r3]) rfl ⟨s, w.heap.size, by omega, Nat.le_refl _, rfl, hO _ _ _ HA.out.1 (by omega), hO _ _ _ HA.out.2.1 (by omega), hO _ _ _ HA.out.2.2.1 (by omega), hO _ _ _ HA.out.2.2.2 (by omega), hO _ _ _ HB.out (by omega), hK⟩
set_option maxRecDepth 100000 in
set_option maxHeartbeats 1000000 in
theorem number_int (w : World) (wd : Int) (v1 v4 : Value) (h1 : v1.oneCell' = true) (h4 : v4.oneCell' = true) : Calls Tryz.prog 84 #[.int .i64 wd, v1, v4] w (NumberE 192 193 194 195 137 138 104 203 204 154 wd v1 v4 w) := by
  have hmf : ∀ (fn : Fn) (first cap : Array Value) (w : World), (Instr.makeFunc fn first cap).run Tryz.prog w = .ok (.func fn first cap) w := fun _ _ _ _ => rfl
  obtain ⟨W, hW⟩ : ∃ W, W = (w.alloc (.cells #[.int .i64 wd] 3 (0, 0))).alloc (.cells #[.nilFunc, .nilFunc, .nilFunc, .nilFunc] 112 (0, 0)) := ⟨_, rfl⟩
  have hsz : W.heap.size = w.heap.size + 2 := by rw [hW]; simp
  have o1 : OneAt 3 w.heap.size (.int .i64 wd) W := by rw [hW]; exact (OneAt.new w _ _).alloc _
  have o2 : W.heap[w.heap.size + 1]? = some (.cells #[.nilFunc, .nilFunc, .nilFunc, .nilFunc] 112 (0, 0)) := by
    have := heap_alloc_new (w.alloc (.cells #[.int .i64 wd] 3 (0, 0))) (.cells #[.nilFunc, .nilFunc, .nilFunc, .nilFunc] 112 (0, 0))
    rw [show (w.alloc (.cells #[.int .i64 wd] 3 (0, 0))).heap.size = w.heap.size + 1 by simp] at this
    rw [hW]; exact this
  have HKW : Hid (Kept NoB w W) := Lib.hid (by rw [hW]; exact ((Kept.refl NoB w).alloc _).alloc _)
  have HO1 := Lib.hid o1
  have HO2 := Lib.hid o2
  have HSZ := Lib.hid hsz
  have HW := Lib.hid hW
  have HF := Lib.hid (field_int W v1 (.func (.func 137) #[] #[pb w.heap.size]) (.func (.func 138) #[] #[pb w.heap.size]) v4 h1 rfl rfl h4)
  clear hW hsz o1 o2
  go_enter Tryz.func84, Tryz.ntmps84
  go_wp2_with fail
  rw [← HW.out]
  go_wp2_with fail
  refine HF.out.mono ?_
  rintro e w1 ⟨s, hs, rfl, a1, a2, a3, a4, hk⟩
  have HA := Lib.hid (And.intro a1 (And.intro a2 (And.intro a3 a4)))
  have HB := Lib.hid (HO1.out.no hk)
  have hr := hk.heap (fun h => h) HO2.out
  have HR := Lib.hid hr
  obtain ⟨r0, r1, r2, r3⟩ := cells4p hr
  have z := blkU_frozen hr
  have HK1 := Lib.hid (HKW.out.trans hk (fun _ _ h => h))
  have HS : Hid (w.heap.size + 2 ≤ s) := Lib.hid (by have := HSZ.out; omega)
  unfold PartAg
  clear a1 a2 a3 a4 hk hr hs
  go_wp2
  have hF := four10_at HR.out (.func (.func 192) #[] #[pb s, pb (s + 3)]) (.func (.func 193) #[] #[pb (s + 1), pb (s + 3)]) (.func (.func 194) #[] #[pb (s + 2), pb (s + 3)]) (.func (.func 195) #[] #[pb (s + 3)])
  have hK := HK1.out.four10 (b := w.heap.size + 1) (.inr (by omega)) 0 (.func (.func 192) #[] #[pb s, pb (s + 3)]) (.func (.func 193) #[] #[pb (s + 1), pb (s + 3)]) (.func (.func 194) #[] #[pb (s + 2), pb (s + 3)]) (.func (.func 195) #[] #[pb (s + 3)])
  have hO : ∀ (t : TypeId) (b : Nat) (v : Value), OneAt t b v w1 → b ≠ w.heap.size + 1 → OneAt t b v (four10 w1 (w.heap.size + 1) 0 (.func (.func 192) #[] #[pb s, pb (s + 3)]) (.func (.func 193) #[] #[pb (s + 1), pb (s + 3)]) (.func (.func 194) #[] #[pb (s + 2), pb (s + 3)]) (.func (.func 195) #[] #[pb (s + 3)])) := fun t b v h hb => h.kept ((Kept.refl (fun k => k = w.heap.size + 1) w1).four10 (b := w.heap.size + 1) (.inl rfl) 0 (.func (.func 192) #[] #[pb s, pb (s + 3)]) (.func (.func 193) #[] #[pb (s + 1), pb (s + 3)]) (.func (.func 194) #[] #[pb (s + 2), pb (s + 3)]) (.func (.func 195) #[] #[pb (s + 3)])) hb
  clear r0 r1 r2 r3 z
  obtain ⟨r0, r1, r2, r3⟩ := cells4p hF
  clear hF
  unfold four10 at r0 r1 r2 r3 hK hO
  simp only [Nat.zero_add] at r0 r1 r2 r3 hK hO
  generalize hW : World.setCell _ _ _ = W3 at r0 r1 r2 r3 hK hO ⊢
  have hs := HS.out
  exact bodyPost_ret (v := PartAg 192 193 194 195 s (s + 1) (s + 2) (s + 3)) (by simp [results, Tryz.results84, go_sem, PartAg, r0, r1, r2, r3]) rfl ⟨s, w.heap.size, by omega, Nat.le_refl _, rfl, hO _ _ _ HA.out.1 (by omega), hO _ _ _ HA.out.2.1 (by omega), hO _ _ _ HA.out.2.2.1 (by omega), hO _ _ _ HA.out.2.2.2 (by omega), hO _ _ _ HB.out (by omega), hK⟩
end Go.Proofs.YtclfecninhipnaaGreatDoor
namespace Go.Proofs.YtclfecninhipnaaGreatDoor
open Go.RowKit
set_option linter.unusedVariables false
set_option linter.unusedSimpArgs false

/-- A part that is a number, in blocks from B on. -/
def NumPart (f1 f2 f3 f4 g1 g2 : FuncId) (t1 t2 t3 t4 : TypeId) (wd : Int) (v1 v4 : Value) (B : Nat) (w : World) (pv : Value) : Prop :=
  ∃ s bw, B ≤ s ∧ B ≤ bw ∧ pv = PartAg f1 f2 f3 f4 s (s + 1) (s + 2) (s + 3) ∧ OneAt t1 s v1 w ∧ OneAt t2 (s + 1) (.func (.func g1) #[] #[pb bw]) w ∧ OneAt t3 (s + 2) (.func (.func g2) #[] #[pb bw]) w ∧ OneAt t4 (s + 3) v4 w ∧ OneAt 3 bw (.int .i64 wd) w
theorem NumPart.kept {S : Nat → Prop} {f1 f2 f3 f4 g1 g2 : FuncId} {t1 t2 t3 t4 : TypeId} {wd : Int} {v1 v4 pv : Value} {B : Nat} {w w' : World} (h : NumPart f1 f2 f3 f4 g1 g2 t1 t2 t3 t4 wd v1 v4 B w pv) (hk : Kept S w w') (hs : ∀ k, B ≤ k → ¬ S k) : NumPart f1 f2 f3 f4 g1 g2 t1 t2 t3 t4 wd v1 v4 B w' pv := by
  obtain ⟨s, bw, b1, b2, e, a1, a2, a3, a4, a5⟩ := h
  exact ⟨s, bw, b1, b2, e, a1.kept hk (hs _ (by omega)), a2.kept hk (hs _ (by omega)), a3.kept hk (hs _ (by omega)), a4.kept hk (hs _ (by omega)), a5.kept hk (hs _ (by omega))⟩
/-- A part that is a field, in blocks from B on. -/
def FldPart (f1 f2 f3 f4 : FuncId) (t1 t2 t3 t4 : TypeId) (v1 v2 v3 v4 : Value) (B : Nat) (w : World) (pv : Value) : Prop :=
  ∃ s, B ≤ s ∧ pv = PartAg f1 f2 f3 f4 s (s + 1) (s + 2) (s + 3) ∧ OneAt t1 s v1 w ∧ OneAt t2 (s + 1) v2 w ∧ OneAt t3 (s + 2) v3 w ∧ OneAt t4 (s + 3) v4 w
theorem FldPart.kept {S : Nat → Prop} {f1 f2 f3 f4 : FuncId} {t1 t2 t3 t4 : TypeId} {v1 v2 v3 v4 pv : Value} {B : Nat} {w w' : World} (h : FldPart f1 f2 f3 f4 t1 t2 t3 t4 v1 v2 v3 v4 B w pv) (hk : Kept S w w') (hs : ∀ k, B ≤ k → ¬ S k) : FldPart f1 f2 f3 f4 t1 t2 t3 t4 v1 v2 v3 v4 B w' pv := by
  obtain ⟨s, b1, e, a1, a2, a3, a4⟩ := h
  exact ⟨s, b1, e, a1.kept hk (hs _ (by omega)), a2.kept hk (hs _ (by omega)), a3.kept hk (hs _ (by omega)), a4.kept hk (hs _ (by omega))⟩
def Part1 (B : Nat) (w : World) (pv : Value) : Prop := ∃ bm, B ≤ bm ∧ OneAt 3 bm (.int .i64 3) w ∧ NumPart 192 193 194 195 137 138 104 203 204 154 1 (.func (.func 140) #[] #[pb bm]) (.func (.func 86) #[] #[]) B w pv
theorem Part1.kept {S : Nat → Prop} {B : Nat} {w w' : World} {pv : Value} (h : Part1 B w pv) (hk : Kept S w w') (hs : ∀ k, B ≤ k → ¬ S k) : Part1 B w' pv := by
  obtain ⟨bm, hb, h1, h2⟩ := h
  exact ⟨bm, hb, h1.kept hk (hs _ hb), h2.kept hk hs⟩
set_option maxRecDepth 100000 in
set_option maxHeartbeats 1000000 in
theorem partAt_1 (w : World) (B : Nat) (hB : B ≤ w.heap.size) : Calls Tryz.prog 63 #[.int .u32 2] w fun e w' => ∃ pv, e = .returned pv ∧ Part1 B w' pv ∧ Kept NoB w w' := by
  obtain ⟨W, hW⟩ : ∃ W, W = w.alloc (.cells #[.nilFunc, .nilFunc, .nilFunc, .nilFunc] 112 (0, 0)) := ⟨_, rfl⟩
  have hsz : W.heap.size = w.heap.size + 1 := by rw [hW]; simp
  have o2 : W.heap[w.heap.size]? = some (.cells #[.nilFunc, .nilFunc, .nilFunc, .nilFunc] 112 (0, 0)) := by rw [hW]; exact heap_alloc_new w _
  have HKW : Hid (Kept NoB w W) := Lib.hid (by rw [hW]; exact (Kept.refl NoB w).alloc _)
  have HO2 := Lib.hid o2
  have HSZ := Lib.hid hsz
  have HW := Lib.hid hW
  have HU := Lib.hid (upTo_any W 3)
  obtain ⟨W2, hW2⟩ : ∃ W2, W2 = W.alloc (.cells #[.int .i64 3] 3 (0, 0)) := ⟨_, rfl⟩
  have hk2 : Kept NoB W W2 := by rw [hW2]; exact (Kept.refl NoB W).alloc _
  have hm : OneAt 3 W.heap.size (.int .i64 3) W2 := by rw [hW2]; exact OneAt.new W _ _
  have HW2 := Lib.hid hW2
  have HM := Lib.hid hm
  have HK2 := Lib.hid hk2
  have HN := Lib.hid (number_int W2 1 (.func (.func 140) #[] #[pb W.heap.size]) (.func (.func 86) #[] #[]) rfl rfl)
  clear hW hsz o2 hW2 hk2 hm
  go_enter Tryz.func63, Tryz.ntmps63
  go_wp2_with fail
  rw [← HW.out]
  go_wp2_with fail
  refine HU.out.mono ?_
  rintro e w1 ⟨rfl, rfl⟩
  rw [← HW2.out]
  go_wp2_with fail
  refine HN.out.mono ?_
  rintro e w1 ⟨s, bw, hs, hbw, rfl, a1, a2, a3, a4, a5, hk⟩
  have HB5 := Lib.hid a5
  have HBM := Lib.hid (HM.out.no hk)
  have HS : Hid (w.heap.size + 1 ≤ s ∧ w.heap.size + 1 ≤ bw) := Lib.hid (by have := HSZ.out; have := HK2.out.size; omega)
  replace hk := HK2.out.trans hk (fun _ _ h => h)
  clear hs hbw a5
  have HA := Lib.hid (And.intro a1 (And.intro a2 (And.intro a3 a4)))
  have hk1 := HKW.out.trans hk (fun _ _ h => h)
  have hr := hk.heap (fun h => h) HO2.out
  have HR := Lib.hid hr
  obtain ⟨r0, r1, r2, r3⟩ := cells4p hr
  have z := blkU_frozen hr
  have HK1 := Lib.hid hk1
  unfold PartAg
  clear a1 a2 a3 a4 hk hk1 hr
  go_wp2
  have hF := four10_at HR.out (.func (.func 192) #[] #[pb s, pb (s + 3)]) (.func (.func 193) #[] #[pb (s + 1), pb (s + 3)]) (.func (.func 194) #[] #[pb (s + 2), pb (s + 3)]) (.func (.func 195) #[] #[pb (s + 3)])
  have hK := HK1.out.four10 (b := w.heap.size) (.inr (Nat.le_refl _)) 0 (.func (.func 192) #[] #[pb s, pb (s + 3)]) (.func (.func 193) #[] #[pb (s + 1), pb (s + 3)]) (.func (.func 194) #[] #[pb (s + 2), pb (s + 3)]) (.func (.func 195) #[] #[pb (s + 3)])
  have hO : ∀ (t : TypeId) (b : Nat) (v : Value), OneAt t b v w1 → b ≠ w.heap.size → OneAt t b v (four10 w1 w.heap.size 0 (.func (.func 192) #[] #[pb s, pb (s + 3)]) (.func (.func 193) #[] #[pb (s + 1), pb (s + 3)]) (.func (.func 194) #[] #[pb (s + 2), pb (s + 3)]) (.func (.func 195) #[] #[pb (s + 3)])) := fun t b v h hb => h.kept ((Kept.refl (fun k => k = w.heap.size) w1).four10 (b := w.heap.size) (.inl rfl) 0 (.func (.func 192) #[] #[pb s, pb (s + 3)]) (.func (.func 193) #[] #[pb (s + 1), pb (s + 3)]) (.func (.func 194) #[] #[pb (s + 2), pb (s + 3)]) (.func (.func 195) #[] #[pb (s + 3)])) hb
  clear r0 r1 r2 r3 z
  obtain ⟨r0, r1, r2, r3⟩ := cells4p hF
  clear hF
  unfold four10 at r0 r1 r2 r3 hK hO
  simp only [Nat.zero_add] at r0 r1 r2 r3 hK hO
  generalize hW : World.setCell _ _ _ = W3 at r0 r1 r2 r3 hK hO ⊢

  have hs := HS.out
  have hw := HSZ.out
  exact bodyPost_ret (v := PartAg 192 193 194 195 s (s + 1) (s + 2) (s + 3)) (by simp [results, Tryz.results63, go_sem, PartAg, r0, r1, r2, r3]) rfl ⟨_, rfl, ⟨W.heap.size, by omega, hO _ _ _ HBM.out (by omega), s, bw, by omega, by omega, rfl, hO _ _ _ HA.out.1 (by omega), hO _ _ _ HA.out.2.1 (by omega), hO _ _ _ HA.out.2.2.1 (by omega), hO _ _ _ HA.out.2.2.2 (by omega), hO _ _ _ HB5.out (by omega)⟩, hK⟩
def Part2 (B : Nat) (w : World) (pv : Value) : Prop := NumPart 187 188 189 190 130 132 148 195 199 150 8 (.func (.func 87) #[] #[]) (.func (.func 88) #[] #[]) B w pv
theorem Part2.kept {S : Nat → Prop} {B : Nat} {w w' : World} {pv : Value} (h : Part2 B w pv) (hk : Kept S w w') (hs : ∀ k, B ≤ k → ¬ S k) : Part2 B w' pv := NumPart.kept h hk hs
set_option maxRecDepth 100000 in
set_option maxHeartbeats 1000000 in
theorem partAt_2 (w : World) (B : Nat) (hB : B ≤ w.heap.size) : Calls Tryz.prog 63 #[.int .u32 4] w fun e w' => ∃ pv, e = .returned pv ∧ Part2 B w' pv ∧ Kept NoB w w' := by
  obtain ⟨W, hW⟩ : ∃ W, W = w.alloc (.cells #[.nilFunc, .nilFunc, .nilFunc, .nilFunc] 112 (0, 0)) := ⟨_, rfl⟩
  have hsz : W.heap.size = w.heap.size + 1 := by rw [hW]; simp
  have o2 : W.heap[w.heap.size]? = some (.cells #[.nilFunc, .nilFunc, .nilFunc, .nilFunc] 112 (0, 0)) := by rw [hW]; exact heap_alloc_new w _
  have HKW : Hid (Kept NoB w W) := Lib.hid (by rw [hW]; exact (Kept.refl NoB w).alloc _)
  have HO2 := Lib.hid o2
  have HSZ := Lib.hid hsz
  have HW := Lib.hid hW
  have HN := Lib.hid (number_u64 W 8 (.func (.func 87) #[] #[]) (.func (.func 88) #[] #[]) rfl rfl)
  clear hW hsz o2
  go_enter Tryz.func63, Tryz.ntmps63
  go_wp2_with fail
  rw [← HW.out]
  go_wp2_with fail
  refine HN.out.mono ?_
  rintro e w1 ⟨s, bw, hs, hbw, rfl, a1, a2, a3, a4, a5, hk⟩
  have HB5 := Lib.hid a5
  have HS : Hid (w.heap.size + 1 ≤ s ∧ w.heap.size + 1 ≤ bw) := Lib.hid (by have := HSZ.out; omega)
  clear hs hbw a5
  have HA := Lib.hid (And.intro a1 (And.intro a2 (And.intro a3 a4)))
  have hk1 := HKW.out.trans hk (fun _ _ h => h)
  have hr := hk.heap (fun h => h) HO2.out
  have HR := Lib.hid hr
  obtain ⟨r0, r1, r2, r3⟩ := cells4p hr
  have z := blkU_frozen hr
  have HK1 := Lib.hid hk1
  unfold PartAg
  clear a1 a2 a3 a4 hk hk1 hr
  go_wp2
  have hF := four10_at HR.out (.func (.func 187) #[] #[pb s, pb (s + 3)]) (.func (.func 188) #[] #[pb (s + 1), pb (s + 3)]) (.func (.func 189) #[] #[pb (s + 2), pb (s + 3)]) (.func (.func 190) #[] #[pb (s + 3)])
  have hK := HK1.out.four10 (b := w.heap.size) (.inr (Nat.le_refl _)) 0 (.func (.func 187) #[] #[pb s, pb (s + 3)]) (.func (.func 188) #[] #[pb (s + 1), pb (s + 3)]) (.func (.func 189) #[] #[pb (s + 2), pb (s + 3)]) (.func (.func 190) #[] #[pb (s + 3)])
  have hO : ∀ (t : TypeId) (b : Nat) (v : Value), OneAt t b v w1 → b ≠ w.heap.size → OneAt t b v (four10 w1 w.heap.size 0 (.func (.func 187) #[] #[pb s, pb (s + 3)]) (.func (.func 188) #[] #[pb (s + 1), pb (s + 3)]) (.func (.func 189) #[] #[pb (s + 2), pb (s + 3)]) (.func (.func 190) #[] #[pb (s + 3)])) := fun t b v h hb => h.kept ((Kept.refl (fun k => k = w.heap.size) w1).four10 (b := w.heap.size) (.inl rfl) 0 (.func (.func 187) #[] #[pb s, pb (s + 3)]) (.func (.func 188) #[] #[pb (s + 1), pb (s + 3)]) (.func (.func 189) #[] #[pb (s + 2), pb (s + 3)]) (.func (.func 190) #[] #[pb (s + 3)])) hb
  clear r0 r1 r2 r3 z
  obtain ⟨r0, r1, r2, r3⟩ := cells4p hF
  clear hF
  unfold four10 at r0 r1 r2 r3 hK hO
  simp only [Nat.zero_add] at r0 r1 r2 r3 hK hO
  generalize hW : World.setCell _ _ _ = W3 at r0 r1 r2 r3 hK hO ⊢

  have hs := HS.out
  exact bodyPost_ret (v := PartAg 187 188 189 190 s (s + 1) (s + 2) (s + 3)) (by simp [results, Tryz.results63, go_sem, PartAg, r0, r1, r2, r3]) rfl ⟨_, rfl, ⟨s, bw, by omega, by omega, rfl, hO _ _ _ HA.out.1 (by omega), hO _ _ _ HA.out.2.1 (by omega), hO _ _ _ HA.out.2.2.1 (by omega), hO _ _ _ HA.out.2.2.2 (by omega), hO _ _ _ HB5.out (by omega)⟩, hK⟩
def Part3 (B : Nat) (w : World) (pv : Value) : Prop := NumPart 187 188 189 190 130 132 148 195 199 150 8 (.func (.func 89) #[] #[]) (.func (.func 90) #[] #[]) B w pv
theorem Part3.kept {S : Nat → Prop} {B : Nat} {w w' : World} {pv : Value} (h : Part3 B w pv) (hk : Kept S w w') (hs : ∀ k, B ≤ k → ¬ S k) : Part3 B w' pv := NumPart.kept h hk hs
set_option maxRecDepth 100000 in
set_option maxHeartbeats 1000000 in
theorem partAt_3 (w : World) (B : Nat) (hB : B ≤ w.heap.size) : Calls Tryz.prog 63 #[.int .u32 8] w fun e w' => ∃ pv, e = .returned pv ∧ Part3 B w' pv ∧ Kept NoB w w' := by
  obtain ⟨W, hW⟩ : ∃ W, W = w.alloc (.cells #[.nilFunc, .nilFunc, .nilFunc, .nilFunc] 112 (0, 0)) := ⟨_, rfl⟩
  have hsz : W.heap.size = w.heap.size + 1 := by rw [hW]; simp
  have o2 : W.heap[w.heap.size]? = some (.cells #[.nilFunc, .nilFunc, .nilFunc, .nilFunc] 112 (0, 0)) := by rw [hW]; exact heap_alloc_new w _
  have HKW : Hid (Kept NoB w W) := Lib.hid (by rw [hW]; exact (Kept.refl NoB w).alloc _)
  have HO2 := Lib.hid o2
  have HSZ := Lib.hid hsz
  have HW := Lib.hid hW
  have HN := Lib.hid (number_u64 W 8 (.func (.func 89) #[] #[]) (.func (.func 90) #[] #[]) rfl rfl)
  clear hW hsz o2
  go_enter Tryz.func63, Tryz.ntmps63
  go_wp2_with fail
  rw [← HW.out]
  go_wp2_with fail
  refine HN.out.mono ?_
  rintro e w1 ⟨s, bw, hs, hbw, rfl, a1, a2, a3, a4, a5, hk⟩
  have HB5 := Lib.hid a5
  have HS : Hid (w.heap.size + 1 ≤ s ∧ w.heap.size + 1 ≤ bw) := Lib.hid (by have := HSZ.out; omega)
  clear hs hbw a5
  have HA := Lib.hid (And.intro a1 (And.intro a2 (And.intro a3 a4)))
  have hk1 := HKW.out.trans hk (fun _ _ h => h)
  have hr := hk.heap (fun h => h) HO2.out
  have HR := Lib.hid hr
  obtain ⟨r0, r1, r2, r3⟩ := cells4p hr
  have z := blkU_frozen hr
  have HK1 := Lib.hid hk1
  unfold PartAg
  clear a1 a2 a3 a4 hk hk1 hr
  go_wp2
  have hF := four10_at HR.out (.func (.func 187) #[] #[pb s, pb (s + 3)]) (.func (.func 188) #[] #[pb (s + 1), pb (s + 3)]) (.func (.func 189) #[] #[pb (s + 2), pb (s + 3)]) (.func (.func 190) #[] #[pb (s + 3)])
  have hK := HK1.out.four10 (b := w.heap.size) (.inr (Nat.le_refl _)) 0 (.func (.func 187) #[] #[pb s, pb (s + 3)]) (.func (.func 188) #[] #[pb (s + 1), pb (s + 3)]) (.func (.func 189) #[] #[pb (s + 2), pb (s + 3)]) (.func (.func 190) #[] #[pb (s + 3)])
  have hO : ∀ (t : TypeId) (b : Nat) (v : Value), OneAt t b v w1 → b ≠ w.heap.size → OneAt t b v (four10 w1 w.heap.size 0 (.func (.func 187) #[] #[pb s, pb (s + 3)]) (.func (.func 188) #[] #[pb (s + 1), pb (s + 3)]) (.func (.func 189) #[] #[pb (s + 2), pb (s + 3)]) (.func (.func 190) #[] #[pb (s + 3)])) := fun t b v h hb => h.kept ((Kept.refl (fun k => k = w.heap.size) w1).four10 (b := w.heap.size) (.inl rfl) 0 (.func (.func 187) #[] #[pb s, pb (s + 3)]) (.func (.func 188) #[] #[pb (s + 1), pb (s + 3)]) (.func (.func 189) #[] #[pb (s + 2), pb (s + 3)]) (.func (.func 190) #[] #[pb (s + 3)])) hb
  clear r0 r1 r2 r3 z
  obtain ⟨r0, r1, r2, r3⟩ := cells4p hF
  clear hF
  unfold four10 at r0 r1 r2 r3 hK hO
  simp only [Nat.zero_add] at r0 r1 r2 r3 hK hO
  generalize hW : World.setCell _ _ _ = W3 at r0 r1 r2 r3 hK hO ⊢

  have hs := HS.out
  exact bodyPost_ret (v := PartAg 187 188 189 190 s (s + 1) (s + 2) (s + 3)) (by simp [results, Tryz.results63, go_sem, PartAg, r0, r1, r2, r3]) rfl ⟨_, rfl, ⟨s, bw, by omega, by omega, rfl, hO _ _ _ HA.out.1 (by omega), hO _ _ _ HA.out.2.1 (by omega), hO _ _ _ HA.out.2.2.1 (by omega), hO _ _ _ HA.out.2.2.2 (by omega), hO _ _ _ HB5.out (by omega)⟩, hK⟩
def Part4 (B : Nat) (w : World) (pv : Value) : Prop := NumPart 187 188 189 190 130 132 148 195 199 150 8 (.func (.func 89) #[] #[]) (.func (.func 91) #[] #[]) B w pv
theorem Part4.kept {S : Nat → Prop} {B : Nat} {w w' : World} {pv : Value} (h : Part4 B w pv) (hk : Kept S w w') (hs : ∀ k, B ≤ k → ¬ S k) : Part4 B w' pv := NumPart.kept h hk hs
set_option maxRecDepth 100000 in
set_option maxHeartbeats 1000000 in
theorem partAt_4 (w : World) (B : Nat) (hB : B ≤ w.heap.size) : Calls Tryz.prog 63 #[.int .u32 16] w fun e w' => ∃ pv, e = .returned pv ∧ Part4 B w' pv ∧ Kept NoB w w' := by
  obtain ⟨W, hW⟩ : ∃ W, W = w.alloc (.cells #[.nilFunc, .nilFunc, .nilFunc, .nilFunc] 112 (0, 0)) := ⟨_, rfl⟩
  have hsz : W.heap.size = w.heap.size + 1 := by rw [hW]; simp
  have o2 : W.heap[w.heap.size]? = some (.cells #[.nilFunc, .nilFunc, .nilFunc, .nilFunc] 112 (0, 0)) := by rw [hW]; exact heap_alloc_new w _
  have HKW : Hid (Kept NoB w W) := Lib.hid (by rw [hW]; exact (Kept.refl NoB w).alloc _)
  have HO2 := Lib.hid o2
  have HSZ := Lib.hid hsz
  have HW := Lib.hid hW
  have HN := Lib.hid (number_u64 W 8 (.func (.func 89) #[] #[]) (.func (.func 91) #[] #[]) rfl rfl)
  clear hW hsz o2
  go_enter Tryz.func63, Tryz.ntmps63
  go_wp2_with fail
  rw [← HW.out]
  go_wp2_with fail
  refine HN.out.mono ?_
  rintro e w1 ⟨s, bw, hs, hbw, rfl, a1, a2, a3, a4, a5, hk⟩
  have HB5 := Lib.hid a5
  have HS : Hid (w.heap.size + 1 ≤ s ∧ w.heap.size + 1 ≤ bw) := Lib.hid (by have := HSZ.out; omega)
  clear hs hbw a5
  have HA := Lib.hid (And.intro a1 (And.intro a2 (And.intro a3 a4)))
  have hk1 := HKW.out.trans hk (fun _ _ h => h)
  have hr := hk.heap (fun h => h) HO2.out
  have HR := Lib.hid hr
  obtain ⟨r0, r1, r2, r3⟩ := cells4p hr
  have z := blkU_frozen hr
  have HK1 := Lib.hid hk1
  unfold PartAg
  clear a1 a2 a3 a4 hk hk1 hr
  go_wp2
  have hF := four10_at HR.out (.func (.func 187) #[] #[pb s, pb (s + 3)]) (.func (.func 188) #[] #[pb (s + 1), pb (s + 3)]) (.func (.func 189) #[] #[pb (s + 2), pb (s + 3)]) (.func (.func 190) #[] #[pb (s + 3)])
  have hK := HK1.out.four10 (b := w.heap.size) (.inr (Nat.le_refl _)) 0 (.func (.func 187) #[] #[pb s, pb (s + 3)]) (.func (.func 188) #[] #[pb (s + 1), pb (s + 3)]) (.func (.func 189) #[] #[pb (s + 2), pb (s + 3)]) (.func (.func 190) #[] #[pb (s + 3)])
  have hO : ∀ (t : TypeId) (b : Nat) (v : Value), OneAt t b v w1 → b ≠ w.heap.size → OneAt t b v (four10 w1 w.heap.size 0 (.func (.func 187) #[] #[pb s, pb (s + 3)]) (.func (.func 188) #[] #[pb (s + 1), pb (s + 3)]) (.func (.func 189) #[] #[pb (s + 2), pb (s + 3)]) (.func (.func 190) #[] #[pb (s + 3)])) := fun t b v h hb => h.kept ((Kept.refl (fun k => k = w.heap.size) w1).four10 (b := w.heap.size) (.inl rfl) 0 (.func (.func 187) #[] #[pb s, pb (s + 3)]) (.func (.func 188) #[] #[pb (s + 1), pb (s + 3)]) (.func (.func 189) #[] #[pb (s + 2), pb (s + 3)]) (.func (.func 190) #[] #[pb (s + 3)])) hb
  clear r0 r1 r2 r3 z
  obtain ⟨r0, r1, r2, r3⟩ := cells4p hF
  clear hF
  unfold four10 at r0 r1 r2 r3 hK hO
  simp only [Nat.zero_add] at r0 r1 r2 r3 hK hO
  generalize hW : World.setCell _ _ _ = W3 at r0 r1 r2 r3 hK hO ⊢

  have hs := HS.out
  exact bodyPost_ret (v := PartAg 187 188 189 190 s (s + 1) (s + 2) (s + 3)) (by simp [results, Tryz.results63, go_sem, PartAg, r0, r1, r2, r3]) rfl ⟨_, rfl, ⟨s, bw, by omega, by omega, rfl, hO _ _ _ HA.out.1 (by omega), hO _ _ _ HA.out.2.1 (by omega), hO _ _ _ HA.out.2.2.1 (by omega), hO _ _ _ HA.out.2.2.2 (by omega), hO _ _ _ HB5.out (by omega)⟩, hK⟩
def Part14 (B : Nat) (w : World) (pv : Value) : Prop := FldPart 165 166 167 168 181 182 183 185 (.func (.func 116) #[] #[]) (.func (.func 117) #[] #[]) (.func (.func 118) #[] #[]) (.func (.func 119) #[] #[]) B w pv
theorem Part14.kept {S : Nat → Prop} {B : Nat} {w w' : World} {pv : Value} (h : Part14 B w pv) (hk : Kept S w w') (hs : ∀ k, B ≤ k → ¬ S k) : Part14 B w' pv := FldPart.kept h hk hs
set_option maxRecDepth 100000 in
set_option maxHeartbeats 1000000 in
theorem partAt_14 (w : World) (B : Nat) (hB : B ≤ w.heap.size) : Calls Tryz.prog 63 #[.int .u32 16384] w fun e w' => ∃ pv, e = .returned pv ∧ Part14 B w' pv ∧ Kept NoB w w' := by
  obtain ⟨W, hW⟩ : ∃ W, W = w.alloc (.cells #[.nilFunc, .nilFunc, .nilFunc, .nilFunc] 112 (0, 0)) := ⟨_, rfl⟩
  have hsz : W.heap.size = w.heap.size + 1 := by rw [hW]; simp
  have o2 : W.heap[w.heap.size]? = some (.cells #[.nilFunc, .nilFunc, .nilFunc, .nilFunc] 112 (0, 0)) := by rw [hW]; exact heap_alloc_new w _
  have HKW : Hid (Kept NoB w W) := Lib.hid (by rw [hW]; exact (Kept.refl NoB w).alloc _)
  have HO2 := Lib.hid o2
  have HSZ := Lib.hid hsz
  have HW := Lib.hid hW
  have HN := Lib.hid (field_ups W (.func (.func 116) #[] #[]) (.func (.func 117) #[] #[]) (.func (.func 118) #[] #[]) (.func (.func 119) #[] #[]) rfl rfl rfl rfl)
  clear hW hsz o2
  go_enter Tryz.func63, Tryz.ntmps63
  go_wp2_with fail
  rw [← HW.out]
  go_wp2_with fail
  refine HN.out.mono ?_
  rintro e w1 ⟨s, hs, rfl, a1, a2, a3, a4, hk⟩
  have HS : Hid (w.heap.size + 1 ≤ s) := Lib.hid (by have := HSZ.out; omega)
  clear hs
  have HA := Lib.hid (And.intro a1 (And.intro a2 (And.intro a3 a4)))
  have hk1 := HKW.out.trans hk (fun _ _ h => h)
  have hr := hk.heap (fun h => h) HO2.out
  have HR := Lib.hid hr
  obtain ⟨r0, r1, r2, r3⟩ := cells4p hr
  have z := blkU_frozen hr
  have HK1 := Lib.hid hk1
  unfold PartAg
  clear a1 a2 a3 a4 hk hk1 hr
  go_wp2
  have hF := four10_at HR.out (.func (.func 165) #[] #[pb s, pb (s + 3)]) (.func (.func 166) #[] #[pb (s + 1), pb (s + 3)]) (.func (.func 167) #[] #[pb (s + 2), pb (s + 3)]) (.func (.func 168) #[] #[pb (s + 3)])
  have hK := HK1.out.four10 (b := w.heap.size) (.inr (Nat.le_refl _)) 0 (.func (.func 165) #[] #[pb s, pb (s + 3)]) (.func (.func 166) #[] #[pb (s + 1), pb (s + 3)]) (.func (.func 167) #[] #[pb (s + 2), pb (s + 3)]) (.func (.func 168) #[] #[pb (s + 3)])
  have hO : ∀ (t : TypeId) (b : Nat) (v : Value), OneAt t b v w1 → b ≠ w.heap.size → OneAt t b v (four10 w1 w.heap.size 0 (.func (.func 165) #[] #[pb s, pb (s + 3)]) (.func (.func 166) #[] #[pb (s + 1), pb (s + 3)]) (.func (.func 167) #[] #[pb (s + 2), pb (s + 3)]) (.func (.func 168) #[] #[pb (s + 3)])) := fun t b v h hb => h.kept ((Kept.refl (fun k => k = w.heap.size) w1).four10 (b := w.heap.size) (.inl rfl) 0 (.func (.func 165) #[] #[pb s, pb (s + 3)]) (.func (.func 166) #[] #[pb (s + 1), pb (s + 3)]) (.func (.func 167) #[] #[pb (s + 2), pb (s + 3)]) (.func (.func 168) #[] #[pb (s + 3)])) hb
  clear r0 r1 r2 r3 z
  obtain ⟨r0, r1, r2, r3⟩ := cells4p hF
  clear hF
  unfold four10 at r0 r1 r2 r3 hK hO
  simp only [Nat.zero_add] at r0 r1 r2 r3 hK hO
  generalize hW : World.setCell _ _ _ = W3 at r0 r1 r2 r3 hK hO ⊢

  have hs := HS.out
  exact bodyPost_ret (v := PartAg 165 166 167 168 s (s + 1) (s + 2) (s + 3)) (by simp [results, Tryz.results63, go_sem, PartAg, r0, r1, r2, r3]) rfl ⟨_, rfl, ⟨s, by omega, rfl, hO _ _ _ HA.out.1 (by omega), hO _ _ _ HA.out.2.1 (by omega), hO _ _ _ HA.out.2.2.1 (by omega), hO _ _ _ HA.out.2.2.2 (by omega)⟩, hK⟩
def Part15 (B : Nat) (w : World) (pv : Value) : Prop := FldPart 165 166 167 168 181 182 183 185 (.func (.func 120) #[] #[]) (.func (.func 117) #[] #[]) (.func (.func 118) #[] #[]) (.func (.func 121) #[] #[]) B w pv
theorem Part15.kept {S : Nat → Prop} {B : Nat} {w w' : World} {pv : Value} (h : Part15 B w pv) (hk : Kept S w w') (hs : ∀ k, B ≤ k → ¬ S k) : Part15 B w' pv := FldPart.kept h hk hs
set_option maxRecDepth 100000 in
set_option maxHeartbeats 1000000 in
theorem partAt_15 (w : World) (B : Nat) (hB : B ≤ w.heap.size) : Calls Tryz.prog 63 #[.int .u32 32768] w fun e w' => ∃ pv, e = .returned pv ∧ Part15 B w' pv ∧ Kept NoB w w' := by
  obtain ⟨W, hW⟩ : ∃ W, W = w.alloc (.cells #[.nilFunc, .nilFunc, .nilFunc, .nilFunc] 112 (0, 0)) := ⟨_, rfl⟩
  have hsz : W.heap.size = w.heap.size + 1 := by rw [hW]; simp
  have o2 : W.heap[w.heap.size]? = some (.cells #[.nilFunc, .nilFunc, .nilFunc, .nilFunc] 112 (0, 0)) := by rw [hW]; exact heap_alloc_new w _
  have HKW : Hid (Kept NoB w W) := Lib.hid (by rw [hW]; exact (Kept.refl NoB w).alloc _)
  have HO2 := Lib.hid o2
  have HSZ := Lib.hid hsz
  have HW := Lib.hid hW
  have HN := Lib.hid (field_ups W (.func (.func 120) #[] #[]) (.func (.func 117) #[] #[]) (.func (.func 118) #[] #[]) (.func (.func 121) #[] #[]) rfl rfl rfl rfl)
  clear hW hsz o2
  go_enter Tryz.func63, Tryz.ntmps63
  go_wp2_with fail
  rw [← HW.out]
  go_wp2_with fail
  refine HN.out.mono ?_
  rintro e w1 ⟨s, hs, rfl, a1, a2, a3, a4, hk⟩
  have HS : Hid (w.heap.size + 1 ≤ s) := Lib.hid (by have := HSZ.out; omega)
  clear hs
  have HA := Lib.hid (And.intro a1 (And.intro a2 (And.intro a3 a4)))
  have hk1 := HKW.out.trans hk (fun _ _ h => h)
  have hr := hk.heap (fun h => h) HO2.out
  have HR := Lib.hid hr
  obtain ⟨r0, r1, r2, r3⟩ := cells4p hr
  have z := blkU_frozen hr
  have HK1 := Lib.hid hk1
  unfold PartAg
  clear a1 a2 a3 a4 hk hk1 hr
  go_wp2
  have hF := four10_at HR.out (.func (.func 165) #[] #[pb s, pb (s + 3)]) (.func (.func 166) #[] #[pb (s + 1), pb (s + 3)]) (.func (.func 167) #[] #[pb (s + 2), pb (s + 3)]) (.func (.func 168) #[] #[pb (s + 3)])
  have hK := HK1.out.four10 (b := w.heap.size) (.inr (Nat.le_refl _)) 0 (.func (.func 165) #[] #[pb s, pb (s + 3)]) (.func (.func 166) #[] #[pb (s + 1), pb (s + 3)]) (.func (.func 167) #[] #[pb (s + 2), pb (s + 3)]) (.func (.func 168) #[] #[pb (s + 3)])
  have hO : ∀ (t : TypeId) (b : Nat) (v : Value), OneAt t b v w1 → b ≠ w.heap.size → OneAt t b v (four10 w1 w.heap.size 0 (.func (.func 165) #[] #[pb s, pb (s + 3)]) (.func (.func 166) #[] #[pb (s + 1), pb (s + 3)]) (.func (.func 167) #[] #[pb (s + 2), pb (s + 3)]) (.func (.func 168) #[] #[pb (s + 3)])) := fun t b v h hb => h.kept ((Kept.refl (fun k => k = w.heap.size) w1).four10 (b := w.heap.size) (.inl rfl) 0 (.func (.func 165) #[] #[pb s, pb (s + 3)]) (.func (.func 166) #[] #[pb (s + 1), pb (s + 3)]) (.func (.func 167) #[] #[pb (s + 2), pb (s + 3)]) (.func (.func 168) #[] #[pb (s + 3)])) hb
  clear r0 r1 r2 r3 z
  obtain ⟨r0, r1, r2, r3⟩ := cells4p hF
  clear hF
  unfold four10 at r0 r1 r2 r3 hK hO
  simp only [Nat.zero_add] at r0 r1 r2 r3 hK hO
  generalize hW : World.setCell _ _ _ = W3 at r0 r1 r2 r3 hK hO ⊢

  have hs := HS.out
  exact bodyPost_ret (v := PartAg 165 166 167 168 s (s + 1) (s + 2) (s + 3)) (by simp [results, Tryz.results63, go_sem, PartAg, r0, r1, r2, r3]) rfl ⟨_, rfl, ⟨s, by omega, rfl, hO _ _ _ HA.out.1 (by omega), hO _ _ _ HA.out.2.1 (by omega), hO _ _ _ HA.out.2.2.1 (by omega), hO _ _ _ HA.out.2.2.2 (by omega)⟩, hK⟩
end Go.Proofs.YtclfecninhipnaaGreatDoor
namespace Go.Proofs.YtclfecninhipnaaGreatDoor
open Go.RowKit
set_option linter.unusedVariables false
set_option linter.unusedSimpArgs false

theorem info_part : (Tryz.prog.info? 112).map (fun i => (i.zero, i.size, i.bytes)) = some (some (.agg #[.nilFunc, .nilFunc, .nilFunc, .nilFunc]), 4, 32) := by kernel_rfl
/-- Four values. -/
structure Q4 where
  a : Value
  b : Value
  c : Value
  d : Value
def q40 : Q4 := ⟨undef, undef, undef, undef⟩
def q4l (x : Q4) : List Value := [x.a, x.b, x.c, x.d]
def q4v (x : Q4) : Value := .agg #[x.a, x.b, x.c, x.d]
def q4s (ps : List Q4) : List Value := ps.flatMap q4l
theorem q4s_app (a b : List Q4) : q4s (a ++ b) = q4s a ++ q4s b := by simp [q4s]
theorem q4s_len (a : List Q4) : (q4s a).length = a.length * 4 := by
  induction a with
  | nil => rfl
  | cons p a ih =>
    have : q4s (p :: a) = q4l p ++ q4s a := rfl
    rw [this, List.length_append, ih, List.length_cons]
    simp only [q4l, List.length_cons, List.length_nil]
    omega
theorem q4s_at (a : List Q4) (j i : Nat) (hj : j < a.length) (hi : i < 4) : (q4s a)[j * 4 + i]? = (q4l a[j])[i]? := by
  induction a generalizing j with
  | nil => exact absurd hj (by simp)
  | cons p a ih =>
    have e : q4s (p :: a) = q4l p ++ q4s a := rfl
    have hl : (q4l p).length = 4 := rfl
    rw [e]
    cases j with
    | zero =>
      rw [Nat.zero_mul, Nat.zero_add, List.getElem?_append_left (by rw [hl]; exact hi)]
      rfl
    | succ j =>
      rw [List.getElem?_append_right (by rw [hl]; omega), hl, List.getElem_cons_succ, show (j + 1) * 4 + i - 4 = j * 4 + i by omega]
      exact ih j (by simpa using hj)
/-- A row of parts of the call's own. -/
def POw (B : Nat) (w : World) (v : Value) (ps : List Q4) : Prop := w.ownsRow B 112 4 v ps.length (q4s ps)
theorem POw.nil (B : Nat) (w : World) : POw B w (.slice none 0 0) [] := World.ownsRow_nil _ _ _ _
theorem POw.form {B : Nat} {w : World} {v : Value} {l : List Q4} (h : POw B w v l) : ∃ a c, v = .slice a l.length c := by
  rcases h.2 with ⟨rfl, h0⟩ | ⟨r, cap, cur, rfl, _⟩
  · exact ⟨none, 0, by rw [h0]⟩
  · exact ⟨_, _, rfl⟩
theorem POw.kept {S : Nat → Prop} {B : Nat} {w w' : World} {v : Value} {l : List Q4} (h : POw B w v l) (hk : Kept S w w') (hs : ∀ k, B ≤ k → ¬ S k) : POw B w' v l := by
  refine ⟨h.1, ?_⟩
  rcases h.2 with hn | ⟨r, cap, cur, rfl, hb, hr, rest⟩
  · exact .inl hn
  · exact .inr ⟨r, cap, cur, rfl, hb, hk.heap (hs r hb) hr, rest⟩
theorem POw.base {B : Nat} {w : World} {v : Value} {l : List Q4} (h : POw B w v l) (k : Nat) (hk : v.ownBlock = some k) : B ≤ k ∧ k < w.heap.size := by
  rcases h.2 with ⟨rfl, _⟩ | ⟨r, cap, cur, rfl, hb, hr, _⟩
  · cases hk
  · injection hk with hk
    subst hk
    exact ⟨hb, heap_lt hr⟩
theorem POw.at_ {B : Nat} {w : World} {a : Option Addr} {n c : Nat} {l : List Q4} (h : POw B w (.slice a n c) l) {j : Nat} (hj : j < l.length) :
    ∃ r, a = some ⟨r, 0, none⟩ ∧ B ≤ r ∧ w.cell? ⟨r, j * 4, none⟩ = some l[j].a ∧ w.cell? ⟨r, j * 4 + 1, none⟩ = some l[j].b ∧ w.cell? ⟨r, j * 4 + 2, none⟩ = some l[j].c ∧ w.cell? ⟨r, j * 4 + 3, none⟩ = some l[j].d := by
  rcases h.2 with ⟨hv, h0⟩ | ⟨r, cap, cur, hv, hb, hr, _⟩
  · omega
  · injection hv with hv hn hc
    subst hv hn hc
    have hx : ∀ i, i < 4 → ∀ u, (q4l l[j])[i]? = some u → w.cell? ⟨r, 0 + (j * 4 + i), none⟩ = some u := fun i hi u hu => by
      have := h.cells (g := r) rfl (j * 4 + i) u (by rw [q4s_at l j i hj hi]; exact hu)
      rw [addr_add17] at this
      exact this
    simp only [Nat.zero_add] at hx
    exact ⟨r, rfl, hb, hx 0 (by omega) _ rfl, hx 1 (by omega) _ rfl, hx 2 (by omega) _ rfl, hx 3 (by omega) _ rfl⟩
section
variable {Pr : Program} (t : TypeId) (i0 : TypeInfo) (ht : Pr.underlying t = some (.slice 112)) (hi : Pr.info? 112 = some i0) (hz0 : i0.zero = some (.agg #[.nilFunc, .nilFunc, .nilFunc, .nilFunc])) (hz1 : i0.size = 4) (hz2 : i0.bytes = 32)
include ht hi hz0 hz1 hz2
theorem run_append_p1 (w : World) (base : Nat) (ty : TypeId) (v : Value) (ps : List Q4) (hown : POw base w v ps) (b : Nat) (x : Q4) (t' : TypeId) (hb : w.heap[b]? = some (.cells #[x.a, x.b, x.c, x.d] t' (0, 0))) (hu : ∀ u ∈ q4l x, u.oneCell' = true) (hl : ps.length ≤ 1000) (hbase : base ≤ w.heap.size) :
    ∃ a' c' w', (Builtin.append_ #[t, t] ty #[v, .slice (some ⟨b, 0, none⟩) 1 1]).run Pr w = .ok (.slice a' (ps.length + 1) c') w' ∧ POw base w' (.slice a' (ps.length + 1) c') (ps ++ [x]) ∧ w.grownBy w' v.ownBlock ∧ ((Value.slice a' (ps.length + 1) c').ownBlock = v.ownBlock ∨ (Value.slice a' (ps.length + 1) c').ownBlock = some w.heap.size) := by
  obtain ⟨v', w', hrun, h2, h3, _, h5⟩ := run_append_own_at (P := Pr) w base t ty 112 i0 _ 4 32 ht hi hz0 hz1 hz2 rfl (by decide) v ps.length _ hown ⟨b, 0, none⟩ 1 1 (q4s [x]) (by simp [q4s, q4l]) (World.news_of_block hb) (by
    intro u hx
    simp only [q4s, List.flatMap_cons, List.flatMap_nil, List.append_nil] at hx
    exact hu u hx) (by unfold maxLen; omega) (by omega) hbase
  have h2' : POw base w' v' (ps ++ [x]) := by
    unfold POw
    rw [q4s_app, List.length_append]
    exact h2
  obtain ⟨a', c', ee⟩ := h2'.form
  rw [List.length_append] at ee
  have ee : v' = .slice a' (ps.length + 1) c' := ee
  subst ee
  exact ⟨a', c', w', hrun, h2', h3, h5⟩
theorem wpList_append_p1 (w : World) {ops : Array Oper} {rest : List Oper} {o : Oper} {a : Act} {Q : Exit → Act → World → Prop} (hgd : o.guard = none) (s x : Operand)
    (ho : o.op = .call { callee := .builtin .append, args := #[s, x], argTypes := #[t, t] })
    (base : Nat) (v : Value) (ps : List Q4) (hs : a.eval s = v) (hown : POw base w v ps) (b : Nat) (c : Q4) (t' : TypeId) (hx : a.eval x = .slice (some ⟨b, 0, none⟩) 1 1) (hb : w.heap[b]? = some (.cells #[c.a, c.b, c.c, c.d] t' (0, 0))) (hu : ∀ u ∈ q4l c, u.oneCell' = true) (hl : ps.length ≤ 1000) (hbase : base ≤ w.heap.size) (N : Nat) (hN : ps.length + 1 = N)
    (h : ∀ a' c' w', POw base w' (.slice a' N c') (ps ++ [c]) → w.grownBy w' v.ownBlock → ((Value.slice a' N c').ownBlock = v.ownBlock ∨ (Value.slice a' N c').ownBlock = some w.heap.size) → wpList Pr ops Q rest (a.put o.dst (.slice a' N c')) w') : wpList Pr ops Q (o :: rest) a w :=
  wpList_plain hgd fun K hK => by
    subst hN
    obtain ⟨a', c', w', hrun, h2, h3, h4⟩ := run_append_p1 t i0 ht hi hz0 hz1 hz2 w base o.type v ps hown b c t' hb hu hl hbase
    unfold Oper.wp execOp
    simp only [ho, resolve, invoke, builtin, Sem.run_bind, Sem.run_pure, Result.andThen_ok, List.map_toArray, List.map_cons, List.map_nil, hs, hx, hrun]
    exact hK _ _ (h a' c' w' h2 h3 h4)
end
def kpTab : List Int := [0, 33, 8225, 2081, 33, 2080, 33, 32, 1, 2048, 2, 4096, 16414, 222, 65646, 326, 1350, 32774, 1600, 326, 132416]
/-- The table of the kinds' parts. -/
def Tab10 (w : World) : Prop := Lib.TabIs Tryz.prog w "catenary/letter.kindParts" .u32 kpTab
theorem gKp : Tryz.prog.globalNamed "catenary/letter.kindParts" = some 0 := by kernel_rfl
theorem Tab10.cell {w : World} (h : Tab10 w) (i : Nat) (hi : i < 21) : w.cell? ⟨0, i, none⟩ = some (.int .u32 (kpTab.getD i 0)) := Lib.TabIs.cell h gKp i hi
theorem Tab10.kept {S : Nat → Prop} {w w' : World} (h : Tab10 w) (hk : Kept S w w') (hs : ¬ S 0) : Tab10 w' := by
  unfold Tab10 Lib.TabIs World.var? at *
  rw [gKp] at h ⊢
  simp only [Option.bind_some] at h ⊢
  cases hg : w.heap[0]? with
  | none => rw [hg] at h; cases h
  | some o => rw [hk.heap hs hg]; rw [hg] at h; exact h
/-- The part of a number. -/
def PartIs (i : Nat) : Nat → World → Value → Prop :=
  match i with
  | 1 => Part1
  | 2 => Part2
  | 3 => Part3
  | 4 => Part4
  | 14 => Part14
  | 15 => Part15
  | _ => fun _ _ _ => False
theorem PartIs.kept {i : Nat} {S : Nat → Prop} {B : Nat} {w w' : World} {pv : Value} (h : PartIs i B w pv) (hk : Kept S w w') (hs : ∀ k, B ≤ k → ¬ S k) : PartIs i B w' pv := by
  unfold PartIs at h ⊢
  split at h
  · exact Part1.kept h hk hs
  · exact Part2.kept h hk hs
  · exact Part3.kept h hk hs
  · exact Part4.kept h hk hs
  · exact Part14.kept h hk hs
  · exact Part15.kept h hk hs
  · exact h
/-- Each is the part of its number. -/
def PartsAre (ns : List Nat) (B : Nat) (w : World) (ps : List Q4) : Prop := ps.length = ns.length ∧ ∀ j, j < ns.length → PartIs (ns.getD j 0) B w (q4v (ps.getD j q40))
theorem PartsAre.kept {ns : List Nat} {S : Nat → Prop} {B : Nat} {w w' : World} {ps : List Q4} (h : PartsAre ns B w ps) (hk : Kept S w w') (hs : ∀ k, B ≤ k → ¬ S k) : PartsAre ns B w' ps := ⟨h.1, fun j hj => (h.2 j hj).kept hk hs⟩
theorem PartsAre.snoc {ns : List Nat} {B : Nat} {w : World} {ps : List Q4} (h : PartsAre ns B w ps) {i : Nat} {x : Q4} (hx : PartIs i B w (q4v x)) : PartsAre (ns ++ [i]) B w (ps ++ [x]) := by
  refine ⟨by rw [List.length_append, List.length_append, h.1]; rfl, fun j hj => ?_⟩
  rw [List.length_append] at hj
  by_cases e : j < ns.length
  · rw [List.getD_eq_getElem?_getD, List.getD_eq_getElem?_getD, List.getElem?_append_left e, List.getElem?_append_left (by rw [h.1]; exact e)]
    have := h.2 j e
    rw [List.getD_eq_getElem?_getD, List.getD_eq_getElem?_getD] at this
    exact this
  · have hj' : j = ns.length := by simp only [List.length_cons, List.length_nil] at hj; omega
    subst hj'
    have hl := h.1
    simp only [List.getD_eq_getElem?_getD]
    rw [List.getElem?_append_right (Nat.le_refl _), List.getElem?_append_right (by omega)]
    simp [hl]
    exact hx
theorem Part1.q4 {B : Nat} {w : World} {pv : Value} (h : Part1 B w pv) : ∃ x : Q4, pv = .agg #[x.a, x.b, x.c, x.d] ∧ ∀ u ∈ q4l x, u.oneCell' = true := by
  obtain ⟨bm, _, _, s, bw, _, _, rfl, _⟩ := h
  exact ⟨⟨_, _, _, _⟩, rfl, PartAg_one _ _ _ _ _ _ _ _⟩
theorem Part2.q4 {B : Nat} {w : World} {pv : Value} (h : Part2 B w pv) : ∃ x : Q4, pv = .agg #[x.a, x.b, x.c, x.d] ∧ ∀ u ∈ q4l x, u.oneCell' = true := by
  obtain ⟨s, bw, _, _, rfl, _⟩ := h
  exact ⟨⟨_, _, _, _⟩, rfl, PartAg_one _ _ _ _ _ _ _ _⟩
theorem Part3.q4 {B : Nat} {w : World} {pv : Value} (h : Part3 B w pv) : ∃ x : Q4, pv = .agg #[x.a, x.b, x.c, x.d] ∧ ∀ u ∈ q4l x, u.oneCell' = true := by
  obtain ⟨s, bw, _, _, rfl, _⟩ := h
  exact ⟨⟨_, _, _, _⟩, rfl, PartAg_one _ _ _ _ _ _ _ _⟩
theorem Part4.q4 {B : Nat} {w : World} {pv : Value} (h : Part4 B w pv) : ∃ x : Q4, pv = .agg #[x.a, x.b, x.c, x.d] ∧ ∀ u ∈ q4l x, u.oneCell' = true := by
  obtain ⟨s, bw, _, _, rfl, _⟩ := h
  exact ⟨⟨_, _, _, _⟩, rfl, PartAg_one _ _ _ _ _ _ _ _⟩
theorem Part14.q4 {B : Nat} {w : World} {pv : Value} (h : Part14 B w pv) : ∃ x : Q4, pv = .agg #[x.a, x.b, x.c, x.d] ∧ ∀ u ∈ q4l x, u.oneCell' = true := by
  obtain ⟨s, _, rfl, _⟩ := h
  exact ⟨⟨_, _, _, _⟩, rfl, PartAg_one _ _ _ _ _ _ _ _⟩
theorem Part15.q4 {B : Nat} {w : World} {pv : Value} (h : Part15 B w pv) : ∃ x : Q4, pv = .agg #[x.a, x.b, x.c, x.d] ∧ ∀ u ∈ q4l x, u.oneCell' = true := by
  obtain ⟨s, _, rfl, _⟩ := h
  exact ⟨⟨_, _, _, _⟩, rfl, PartAg_one _ _ _ _ _ _ _ _⟩
/-- A block of one value of another type is not the row. -/
theorem OneAt.grow {B : Nat} {w w' : World} {v u : Value} {ps : List Q4} {t : TypeId} {b : Nat} (h : OneAt t b u w) (hrow : POw B w v ps) (hk : Kept (fun i => some i = v.ownBlock) w w') (ht : 112 ≠ t) : OneAt t b u w' := h.kept hk (fun he => own_ne hrow h ht he)
theorem PartIs.grow {i : Nat} {B C : Nat} {w w' : World} {v pv : Value} {ps : List Q4} (h : PartIs i B w pv) (hrow : POw C w v ps) (hk : Kept (fun i => some i = v.ownBlock) w w') : PartIs i B w' pv := by
  unfold PartIs at h ⊢
  split at h
  · obtain ⟨bm, hb, h1, s, bw, b1, b2, e, a1, a2, a3, a4, a5⟩ := h
    exact ⟨bm, hb, h1.grow hrow hk (by decide), s, bw, b1, b2, e, a1.grow hrow hk (by decide), a2.grow hrow hk (by decide), a3.grow hrow hk (by decide), a4.grow hrow hk (by decide), a5.grow hrow hk (by decide)⟩
  · obtain ⟨s, bw, b1, b2, e, a1, a2, a3, a4, a5⟩ := h
    exact ⟨s, bw, b1, b2, e, a1.grow hrow hk (by decide), a2.grow hrow hk (by decide), a3.grow hrow hk (by decide), a4.grow hrow hk (by decide), a5.grow hrow hk (by decide)⟩
  · obtain ⟨s, bw, b1, b2, e, a1, a2, a3, a4, a5⟩ := h
    exact ⟨s, bw, b1, b2, e, a1.grow hrow hk (by decide), a2.grow hrow hk (by decide), a3.grow hrow hk (by decide), a4.grow hrow hk (by decide), a5.grow hrow hk (by decide)⟩
  · obtain ⟨s, bw, b1, b2, e, a1, a2, a3, a4, a5⟩ := h
    exact ⟨s, bw, b1, b2, e, a1.grow hrow hk (by decide), a2.grow hrow hk (by decide), a3.grow hrow hk (by decide), a4.grow hrow hk (by decide), a5.grow hrow hk (by decide)⟩
  · obtain ⟨s, b1, e, a1, a2, a3, a4⟩ := h
    exact ⟨s, b1, e, a1.grow hrow hk (by decide), a2.grow hrow hk (by decide), a3.grow hrow hk (by decide), a4.grow hrow hk (by decide)⟩
  · obtain ⟨s, b1, e, a1, a2, a3, a4⟩ := h
    exact ⟨s, b1, e, a1.grow hrow hk (by decide), a2.grow hrow hk (by decide), a3.grow hrow hk (by decide), a4.grow hrow hk (by decide)⟩
  · exact h
theorem PartsAre.grow {ns : List Nat} {B C : Nat} {w w' : World} {v : Value} {qs ps : List Q4} (h : PartsAre ns B w qs) (hrow : POw C w v ps) (hk : Kept (fun i => some i = v.ownBlock) w w') : PartsAre ns B w' qs := ⟨h.1, fun j hj => (h.2 j hj).grow hrow hk⟩
/-- The numbers below i. -/
def nbelow (ns : List Nat) (i : Nat) : List Nat := ns.filter (fun j => decide (j < i))
def bitN (i : Nat) : Int := ((2 ^ i : Nat) : Int)
/-- What partsOf tells. -/
def PartsE (w : World) (ns : List Nat) (e : Ending) (w' : World) : Prop :=
  ∃ a c ps, e = .returned (.slice a ns.length c) ∧ POw w.heap.size w' (.slice a ns.length c) ps ∧ PartsAre ns w.heap.size w' ps ∧ Kept NoB w w'
def PrtRel (w : World) (ns : List Nat) (ov bv : Value) (wr : World) : Prop :=
  ∃ i ps, i ≤ 18 ∧ bv = .int .u32 (bitN i) ∧ POw w.heap.size wr ov ps ∧ PartsAre (nbelow ns i) w.heap.size wr ps ∧ Kept NoB w wr
set_option maxRecDepth 100000 in
set_option maxHeartbeats 4000000 in
theorem partsOf_12 (w : World) (ht : Tab10 w) : Calls Tryz.prog 39 #[.int .i64 12] w (PartsE w [1, 2, 3, 4, 14]) := by
  obtain ⟨i0, hi0, hz0, hz1, hz2⟩ := info_parts info_part
  have HT := Lib.hid ht
  clear ht
  go_enter Tryz.func39, Tryz.ntmps39
  go_wp2
  go_loopw [3, 4] (PrtRel w [1, 2, 3, 4, 14]) (fun _ b _ => 262144 - (RowKit.intOf b).toNat)
  case atStart => exact ⟨0, [], by omega, rfl, POw.nil _ _, ⟨rfl, fun j hj => absurd hj (by simp [nbelow])⟩, Kept.refl _ _⟩
  case round =>
    obtain ⟨i, ps, hi, rfl, hown, hps, hK⟩ := hrel
    have hcell := (HT.out.kept hK (fun h => h)).cell 12 (by omega)
    rw [show kpTab.getD 12 0 = 16414 from rfl] at hcell
    have HO := Lib.hid hown
    have HP := Lib.hid hps
    have HK := Lib.hid hK
    have hpl : ps.length ≤ 18 := by
      rw [hps.1]
      have := List.length_filter_le (fun j => decide (j < i)) [1, 2, 3, 4, 14]
      unfold nbelow
      simp only [List.length_cons, List.length_nil] at this
      omega
    obtain ⟨oa, oc, rfl⟩ := hown.form
    clear hown hps hK
    have hcase : i = 0 ∨ i = 1 ∨ i = 2 ∨ i = 3 ∨ i = 4 ∨ i = 5 ∨ i = 6 ∨ i = 7 ∨ i = 8 ∨ i = 9 ∨ i = 10 ∨ i = 11 ∨ i = 12 ∨ i = 13 ∨ i = 14 ∨ i = 15 ∨ i = 16 ∨ i = 17 ∨ i = 18 := by omega
    clear hi
    rcases hcase with rfl | rfl | rfl | rfl | rfl | rfl | rfl | rfl | rfl | rfl | rfl | rfl | rfl | rfl | rfl | rfl | rfl | rfl | rfl
    · have hbit : bitN 0 = 1 := rfl
      have hnext : bitN (0 + 1) = 2 := rfl
      have hand : bits .and .u32 (16414 : Int) (1 : Int) = 0 := by decide
      rw [hbit] at *
      clear hbit
      go_wp2
      exact ⟨⟨1, ps, by omega, rfl, HO.out, HP.out, HK.out⟩, by simp [RowKit.intOf]⟩
    · have hbit : bitN 1 = 2 := rfl
      have hnext : bitN (1 + 1) = 4 := rfl
      have hand : bits .and .u32 (16414 : Int) (2 : Int) = 2 := by decide
      rw [hbit] at *
      clear hbit
      go_wp2_with fail
      refine (partAt_1 _ w.heap.size HK.out.size).mono ?_
      rintro e w2 ⟨pv, rfl, hp2, hk2⟩
      obtain ⟨⟨xa, xb, xc, xd⟩, rfl, hone⟩ := Part1.q4 hp2
      simp only
      have hka := hk2.alloc (.cells #[xa, xb, xc, xd] 112 (0, 0))
      have HO2 := Lib.hid (HO.out.kept hka (fun _ _ h => h))
      have HP2 := Lib.hid (HP.out.kept hka (fun _ _ h => h))
      have HX2 : Hid (PartIs 1 w.heap.size _ (q4v ⟨xa, xb, xc, xd⟩)) := Lib.hid (Part1.kept hp2 ((Kept.refl NoB w2).alloc (.cells #[xa, xb, xc, xd] 112 (0, 0))) (fun _ _ h => h))
      have HK2 := Lib.hid (HK.out.trans hka (fun _ _ h => h))
      have HB2 := Lib.hid (heap_alloc_new w2 (.cells #[xa, xb, xc, xd] 112 (0, 0)))
      have HONE := Lib.hid hone
      clear hka hp2 hk2 hone
      go_wp2_with (at_builtin; refine wpList_append_p1 105 i0 Tryz.underlying105 hi0 hz0 hz1 hz2 _ rfl _ _ rfl w.heap.size (.slice oa ps.length oc) ps rfl HO2.out w2.heap.size ⟨xa, xb, xc, xd⟩ _ rfl HB2.out HONE.out (by omega) HK2.out.size (ps.length + 1) rfl ?_; intro a' c' w' hown' hgrow' hat')
      have hk4 : Kept NoB w w' := HK2.out.grown hgrow' (fun i hi => .inr (HO2.out.base i hi).1)
      have hk5 : Kept (fun i => some i = (Value.slice oa ps.length oc).ownBlock) (w2.alloc (.cells #[xa, xb, xc, xd] 112 (0, 0))) w' := (Kept.refl _ _).grown hgrow' (fun i hi => .inl hi.symm)
      refine ⟨⟨2, ps ++ [⟨xa, xb, xc, xd⟩], by omega, rfl, hown', ?_, hk4⟩, by simp [RowKit.intOf]⟩
      exact PartsAre.snoc (ns := nbelow [1, 2, 3, 4, 14] 1) (HP2.out.grow HO2.out hk5) (HX2.out.grow HO2.out hk5)
    · have hbit : bitN 2 = 4 := rfl
      have hnext : bitN (2 + 1) = 8 := rfl
      have hand : bits .and .u32 (16414 : Int) (4 : Int) = 4 := by decide
      rw [hbit] at *
      clear hbit
      go_wp2_with fail
      refine (partAt_2 _ w.heap.size HK.out.size).mono ?_
      rintro e w2 ⟨pv, rfl, hp2, hk2⟩
      obtain ⟨⟨xa, xb, xc, xd⟩, rfl, hone⟩ := Part2.q4 hp2
      simp only
      have hka := hk2.alloc (.cells #[xa, xb, xc, xd] 112 (0, 0))
      have HO2 := Lib.hid (HO.out.kept hka (fun _ _ h => h))
      have HP2 := Lib.hid (HP.out.kept hka (fun _ _ h => h))
      have HX2 : Hid (PartIs 2 w.heap.size _ (q4v ⟨xa, xb, xc, xd⟩)) := Lib.hid (Part2.kept hp2 ((Kept.refl NoB w2).alloc (.cells #[xa, xb, xc, xd] 112 (0, 0))) (fun _ _ h => h))
      have HK2 := Lib.hid (HK.out.trans hka (fun _ _ h => h))
      have HB2 := Lib.hid (heap_alloc_new w2 (.cells #[xa, xb, xc, xd] 112 (0, 0)))
      have HONE := Lib.hid hone
      clear hka hp2 hk2 hone
      go_wp2_with (at_builtin; refine wpList_append_p1 105 i0 Tryz.underlying105 hi0 hz0 hz1 hz2 _ rfl _ _ rfl w.heap.size (.slice oa ps.length oc) ps rfl HO2.out w2.heap.size ⟨xa, xb, xc, xd⟩ _ rfl HB2.out HONE.out (by omega) HK2.out.size (ps.length + 1) rfl ?_; intro a' c' w' hown' hgrow' hat')
      have hk4 : Kept NoB w w' := HK2.out.grown hgrow' (fun i hi => .inr (HO2.out.base i hi).1)
      have hk5 : Kept (fun i => some i = (Value.slice oa ps.length oc).ownBlock) (w2.alloc (.cells #[xa, xb, xc, xd] 112 (0, 0))) w' := (Kept.refl _ _).grown hgrow' (fun i hi => .inl hi.symm)
      refine ⟨⟨3, ps ++ [⟨xa, xb, xc, xd⟩], by omega, rfl, hown', ?_, hk4⟩, by simp [RowKit.intOf]⟩
      exact PartsAre.snoc (ns := nbelow [1, 2, 3, 4, 14] 2) (HP2.out.grow HO2.out hk5) (HX2.out.grow HO2.out hk5)
    · have hbit : bitN 3 = 8 := rfl
      have hnext : bitN (3 + 1) = 16 := rfl
      have hand : bits .and .u32 (16414 : Int) (8 : Int) = 8 := by decide
      rw [hbit] at *
      clear hbit
      go_wp2_with fail
      refine (partAt_3 _ w.heap.size HK.out.size).mono ?_
      rintro e w2 ⟨pv, rfl, hp2, hk2⟩
      obtain ⟨⟨xa, xb, xc, xd⟩, rfl, hone⟩ := Part3.q4 hp2
      simp only
      have hka := hk2.alloc (.cells #[xa, xb, xc, xd] 112 (0, 0))
      have HO2 := Lib.hid (HO.out.kept hka (fun _ _ h => h))
      have HP2 := Lib.hid (HP.out.kept hka (fun _ _ h => h))
      have HX2 : Hid (PartIs 3 w.heap.size _ (q4v ⟨xa, xb, xc, xd⟩)) := Lib.hid (Part3.kept hp2 ((Kept.refl NoB w2).alloc (.cells #[xa, xb, xc, xd] 112 (0, 0))) (fun _ _ h => h))
      have HK2 := Lib.hid (HK.out.trans hka (fun _ _ h => h))
      have HB2 := Lib.hid (heap_alloc_new w2 (.cells #[xa, xb, xc, xd] 112 (0, 0)))
      have HONE := Lib.hid hone
      clear hka hp2 hk2 hone
      go_wp2_with (at_builtin; refine wpList_append_p1 105 i0 Tryz.underlying105 hi0 hz0 hz1 hz2 _ rfl _ _ rfl w.heap.size (.slice oa ps.length oc) ps rfl HO2.out w2.heap.size ⟨xa, xb, xc, xd⟩ _ rfl HB2.out HONE.out (by omega) HK2.out.size (ps.length + 1) rfl ?_; intro a' c' w' hown' hgrow' hat')
      have hk4 : Kept NoB w w' := HK2.out.grown hgrow' (fun i hi => .inr (HO2.out.base i hi).1)
      have hk5 : Kept (fun i => some i = (Value.slice oa ps.length oc).ownBlock) (w2.alloc (.cells #[xa, xb, xc, xd] 112 (0, 0))) w' := (Kept.refl _ _).grown hgrow' (fun i hi => .inl hi.symm)
      refine ⟨⟨4, ps ++ [⟨xa, xb, xc, xd⟩], by omega, rfl, hown', ?_, hk4⟩, by simp [RowKit.intOf]⟩
      exact PartsAre.snoc (ns := nbelow [1, 2, 3, 4, 14] 3) (HP2.out.grow HO2.out hk5) (HX2.out.grow HO2.out hk5)
    · have hbit : bitN 4 = 16 := rfl
      have hnext : bitN (4 + 1) = 32 := rfl
      have hand : bits .and .u32 (16414 : Int) (16 : Int) = 16 := by decide
      rw [hbit] at *
      clear hbit
      go_wp2_with fail
      refine (partAt_4 _ w.heap.size HK.out.size).mono ?_
      rintro e w2 ⟨pv, rfl, hp2, hk2⟩
      obtain ⟨⟨xa, xb, xc, xd⟩, rfl, hone⟩ := Part4.q4 hp2
      simp only
      have hka := hk2.alloc (.cells #[xa, xb, xc, xd] 112 (0, 0))
      have HO2 := Lib.hid (HO.out.kept hka (fun _ _ h => h))
      have HP2 := Lib.hid (HP.out.kept hka (fun _ _ h => h))
      have HX2 : Hid (PartIs 4 w.heap.size _ (q4v ⟨xa, xb, xc, xd⟩)) := Lib.hid (Part4.kept hp2 ((Kept.refl NoB w2).alloc (.cells #[xa, xb, xc, xd] 112 (0, 0))) (fun _ _ h => h))
      have HK2 := Lib.hid (HK.out.trans hka (fun _ _ h => h))
      have HB2 := Lib.hid (heap_alloc_new w2 (.cells #[xa, xb, xc, xd] 112 (0, 0)))
      have HONE := Lib.hid hone
      clear hka hp2 hk2 hone
      go_wp2_with (at_builtin; refine wpList_append_p1 105 i0 Tryz.underlying105 hi0 hz0 hz1 hz2 _ rfl _ _ rfl w.heap.size (.slice oa ps.length oc) ps rfl HO2.out w2.heap.size ⟨xa, xb, xc, xd⟩ _ rfl HB2.out HONE.out (by omega) HK2.out.size (ps.length + 1) rfl ?_; intro a' c' w' hown' hgrow' hat')
      have hk4 : Kept NoB w w' := HK2.out.grown hgrow' (fun i hi => .inr (HO2.out.base i hi).1)
      have hk5 : Kept (fun i => some i = (Value.slice oa ps.length oc).ownBlock) (w2.alloc (.cells #[xa, xb, xc, xd] 112 (0, 0))) w' := (Kept.refl _ _).grown hgrow' (fun i hi => .inl hi.symm)
      refine ⟨⟨5, ps ++ [⟨xa, xb, xc, xd⟩], by omega, rfl, hown', ?_, hk4⟩, by simp [RowKit.intOf]⟩
      exact PartsAre.snoc (ns := nbelow [1, 2, 3, 4, 14] 4) (HP2.out.grow HO2.out hk5) (HX2.out.grow HO2.out hk5)
    · have hbit : bitN 5 = 32 := rfl
      have hnext : bitN (5 + 1) = 64 := rfl
      have hand : bits .and .u32 (16414 : Int) (32 : Int) = 0 := by decide
      rw [hbit] at *
      clear hbit
      go_wp2
      exact ⟨⟨6, ps, by omega, rfl, HO.out, HP.out, HK.out⟩, by simp [RowKit.intOf]⟩
    · have hbit : bitN 6 = 64 := rfl
      have hnext : bitN (6 + 1) = 128 := rfl
      have hand : bits .and .u32 (16414 : Int) (64 : Int) = 0 := by decide
      rw [hbit] at *
      clear hbit
      go_wp2
      exact ⟨⟨7, ps, by omega, rfl, HO.out, HP.out, HK.out⟩, by simp [RowKit.intOf]⟩
    · have hbit : bitN 7 = 128 := rfl
      have hnext : bitN (7 + 1) = 256 := rfl
      have hand : bits .and .u32 (16414 : Int) (128 : Int) = 0 := by decide
      rw [hbit] at *
      clear hbit
      go_wp2
      exact ⟨⟨8, ps, by omega, rfl, HO.out, HP.out, HK.out⟩, by simp [RowKit.intOf]⟩
    · have hbit : bitN 8 = 256 := rfl
      have hnext : bitN (8 + 1) = 512 := rfl
      have hand : bits .and .u32 (16414 : Int) (256 : Int) = 0 := by decide
      rw [hbit] at *
      clear hbit
      go_wp2
      exact ⟨⟨9, ps, by omega, rfl, HO.out, HP.out, HK.out⟩, by simp [RowKit.intOf]⟩
    · have hbit : bitN 9 = 512 := rfl
      have hnext : bitN (9 + 1) = 1024 := rfl
      have hand : bits .and .u32 (16414 : Int) (512 : Int) = 0 := by decide
      rw [hbit] at *
      clear hbit
      go_wp2
      exact ⟨⟨10, ps, by omega, rfl, HO.out, HP.out, HK.out⟩, by simp [RowKit.intOf]⟩
    · have hbit : bitN 10 = 1024 := rfl
      have hnext : bitN (10 + 1) = 2048 := rfl
      have hand : bits .and .u32 (16414 : Int) (1024 : Int) = 0 := by decide
      rw [hbit] at *
      clear hbit
      go_wp2
      exact ⟨⟨11, ps, by omega, rfl, HO.out, HP.out, HK.out⟩, by simp [RowKit.intOf]⟩
    · have hbit : bitN 11 = 2048 := rfl
      have hnext : bitN (11 + 1) = 4096 := rfl
      have hand : bits .and .u32 (16414 : Int) (2048 : Int) = 0 := by decide
      rw [hbit] at *
      clear hbit
      go_wp2
      exact ⟨⟨12, ps, by omega, rfl, HO.out, HP.out, HK.out⟩, by simp [RowKit.intOf]⟩
    · have hbit : bitN 12 = 4096 := rfl
      have hnext : bitN (12 + 1) = 8192 := rfl
      have hand : bits .and .u32 (16414 : Int) (4096 : Int) = 0 := by decide
      rw [hbit] at *
      clear hbit
      go_wp2
      exact ⟨⟨13, ps, by omega, rfl, HO.out, HP.out, HK.out⟩, by simp [RowKit.intOf]⟩
    · have hbit : bitN 13 = 8192 := rfl
      have hnext : bitN (13 + 1) = 16384 := rfl
      have hand : bits .and .u32 (16414 : Int) (8192 : Int) = 0 := by decide
      rw [hbit] at *
      clear hbit
      go_wp2
      exact ⟨⟨14, ps, by omega, rfl, HO.out, HP.out, HK.out⟩, by simp [RowKit.intOf]⟩
    · have hbit : bitN 14 = 16384 := rfl
      have hnext : bitN (14 + 1) = 32768 := rfl
      have hand : bits .and .u32 (16414 : Int) (16384 : Int) = 16384 := by decide
      rw [hbit] at *
      clear hbit
      go_wp2_with fail
      refine (partAt_14 _ w.heap.size HK.out.size).mono ?_
      rintro e w2 ⟨pv, rfl, hp2, hk2⟩
      obtain ⟨⟨xa, xb, xc, xd⟩, rfl, hone⟩ := Part14.q4 hp2
      simp only
      have hka := hk2.alloc (.cells #[xa, xb, xc, xd] 112 (0, 0))
      have HO2 := Lib.hid (HO.out.kept hka (fun _ _ h => h))
      have HP2 := Lib.hid (HP.out.kept hka (fun _ _ h => h))
      have HX2 : Hid (PartIs 14 w.heap.size _ (q4v ⟨xa, xb, xc, xd⟩)) := Lib.hid (Part14.kept hp2 ((Kept.refl NoB w2).alloc (.cells #[xa, xb, xc, xd] 112 (0, 0))) (fun _ _ h => h))
      have HK2 := Lib.hid (HK.out.trans hka (fun _ _ h => h))
      have HB2 := Lib.hid (heap_alloc_new w2 (.cells #[xa, xb, xc, xd] 112 (0, 0)))
      have HONE := Lib.hid hone
      clear hka hp2 hk2 hone
      go_wp2_with (at_builtin; refine wpList_append_p1 105 i0 Tryz.underlying105 hi0 hz0 hz1 hz2 _ rfl _ _ rfl w.heap.size (.slice oa ps.length oc) ps rfl HO2.out w2.heap.size ⟨xa, xb, xc, xd⟩ _ rfl HB2.out HONE.out (by omega) HK2.out.size (ps.length + 1) rfl ?_; intro a' c' w' hown' hgrow' hat')
      have hk4 : Kept NoB w w' := HK2.out.grown hgrow' (fun i hi => .inr (HO2.out.base i hi).1)
      have hk5 : Kept (fun i => some i = (Value.slice oa ps.length oc).ownBlock) (w2.alloc (.cells #[xa, xb, xc, xd] 112 (0, 0))) w' := (Kept.refl _ _).grown hgrow' (fun i hi => .inl hi.symm)
      refine ⟨⟨15, ps ++ [⟨xa, xb, xc, xd⟩], by omega, rfl, hown', ?_, hk4⟩, by simp [RowKit.intOf]⟩
      exact PartsAre.snoc (ns := nbelow [1, 2, 3, 4, 14] 14) (HP2.out.grow HO2.out hk5) (HX2.out.grow HO2.out hk5)
    · have hbit : bitN 15 = 32768 := rfl
      have hnext : bitN (15 + 1) = 65536 := rfl
      have hand : bits .and .u32 (16414 : Int) (32768 : Int) = 0 := by decide
      rw [hbit] at *
      clear hbit
      go_wp2
      exact ⟨⟨16, ps, by omega, rfl, HO.out, HP.out, HK.out⟩, by simp [RowKit.intOf]⟩
    · have hbit : bitN 16 = 65536 := rfl
      have hnext : bitN (16 + 1) = 131072 := rfl
      have hand : bits .and .u32 (16414 : Int) (65536 : Int) = 0 := by decide
      rw [hbit] at *
      clear hbit
      go_wp2
      exact ⟨⟨17, ps, by omega, rfl, HO.out, HP.out, HK.out⟩, by simp [RowKit.intOf]⟩
    · have hbit : bitN 17 = 131072 := rfl
      have hnext : bitN (17 + 1) = 262144 := rfl
      have hand : bits .and .u32 (16414 : Int) (131072 : Int) = 0 := by decide
      rw [hbit] at *
      clear hbit
      go_wp2
      exact ⟨⟨18, ps, by omega, rfl, HO.out, HP.out, HK.out⟩, by simp [RowKit.intOf]⟩
    · have hbit : bitN 18 = 262144 := rfl
      rw [hbit] at *
      clear hbit
      go_wp2
      go_ret
      have hl : ps.length = 5 := HP.out.1
      exact ⟨oa, oc, ps, by rw [hl]; rfl, by have := HO.out; rwa [hl] at this, HP.out, HK.out⟩
set_option maxRecDepth 100000 in
set_option maxHeartbeats 4000000 in
theorem partsOf_17 (w : World) (ht : Tab10 w) : Calls Tryz.prog 39 #[.int .i64 17] w (PartsE w [1, 2, 15]) := by
  obtain ⟨i0, hi0, hz0, hz1, hz2⟩ := info_parts info_part
  have HT := Lib.hid ht
  clear ht
  go_enter Tryz.func39, Tryz.ntmps39
  go_wp2
  go_loopw [3, 4] (PrtRel w [1, 2, 15]) (fun _ b _ => 262144 - (RowKit.intOf b).toNat)
  case atStart => exact ⟨0, [], by omega, rfl, POw.nil _ _, ⟨rfl, fun j hj => absurd hj (by simp [nbelow])⟩, Kept.refl _ _⟩
  case round =>
    obtain ⟨i, ps, hi, rfl, hown, hps, hK⟩ := hrel
    have hcell := (HT.out.kept hK (fun h => h)).cell 17 (by omega)
    rw [show kpTab.getD 17 0 = 32774 from rfl] at hcell
    have HO := Lib.hid hown
    have HP := Lib.hid hps
    have HK := Lib.hid hK
    have hpl : ps.length ≤ 18 := by
      rw [hps.1]
      have := List.length_filter_le (fun j => decide (j < i)) [1, 2, 15]
      unfold nbelow
      simp only [List.length_cons, List.length_nil] at this
      omega
    obtain ⟨oa, oc, rfl⟩ := hown.form
    clear hown hps hK
    have hcase : i = 0 ∨ i = 1 ∨ i = 2 ∨ i = 3 ∨ i = 4 ∨ i = 5 ∨ i = 6 ∨ i = 7 ∨ i = 8 ∨ i = 9 ∨ i = 10 ∨ i = 11 ∨ i = 12 ∨ i = 13 ∨ i = 14 ∨ i = 15 ∨ i = 16 ∨ i = 17 ∨ i = 18 := by omega
    clear hi
    rcases hcase with rfl | rfl | rfl | rfl | rfl | rfl | rfl | rfl | rfl | rfl | rfl | rfl | rfl | rfl | rfl | rfl | rfl | rfl | rfl
    · have hbit : bitN 0 = 1 := rfl
      have hnext : bitN (0 + 1) = 2 := rfl
      have hand : bits .and .u32 (32774 : Int) (1 : Int) = 0 := by decide
      rw [hbit] at *
      clear hbit
      go_wp2
      exact ⟨⟨1, ps, by omega, rfl, HO.out, HP.out, HK.out⟩, by simp [RowKit.intOf]⟩
    · have hbit : bitN 1 = 2 := rfl
      have hnext : bitN (1 + 1) = 4 := rfl
      have hand : bits .and .u32 (32774 : Int) (2 : Int) = 2 := by decide
      rw [hbit] at *
      clear hbit
      go_wp2_with fail
      refine (partAt_1 _ w.heap.size HK.out.size).mono ?_
      rintro e w2 ⟨pv, rfl, hp2, hk2⟩
      obtain ⟨⟨xa, xb, xc, xd⟩, rfl, hone⟩ := Part1.q4 hp2
      simp only
      have hka := hk2.alloc (.cells #[xa, xb, xc, xd] 112 (0, 0))
      have HO2 := Lib.hid (HO.out.kept hka (fun _ _ h => h))
      have HP2 := Lib.hid (HP.out.kept hka (fun _ _ h => h))
      have HX2 : Hid (PartIs 1 w.heap.size _ (q4v ⟨xa, xb, xc, xd⟩)) := Lib.hid (Part1.kept hp2 ((Kept.refl NoB w2).alloc (.cells #[xa, xb, xc, xd] 112 (0, 0))) (fun _ _ h => h))
      have HK2 := Lib.hid (HK.out.trans hka (fun _ _ h => h))
      have HB2 := Lib.hid (heap_alloc_new w2 (.cells #[xa, xb, xc, xd] 112 (0, 0)))
      have HONE := Lib.hid hone
      clear hka hp2 hk2 hone
      go_wp2_with (at_builtin; refine wpList_append_p1 105 i0 Tryz.underlying105 hi0 hz0 hz1 hz2 _ rfl _ _ rfl w.heap.size (.slice oa ps.length oc) ps rfl HO2.out w2.heap.size ⟨xa, xb, xc, xd⟩ _ rfl HB2.out HONE.out (by omega) HK2.out.size (ps.length + 1) rfl ?_; intro a' c' w' hown' hgrow' hat')
      have hk4 : Kept NoB w w' := HK2.out.grown hgrow' (fun i hi => .inr (HO2.out.base i hi).1)
      have hk5 : Kept (fun i => some i = (Value.slice oa ps.length oc).ownBlock) (w2.alloc (.cells #[xa, xb, xc, xd] 112 (0, 0))) w' := (Kept.refl _ _).grown hgrow' (fun i hi => .inl hi.symm)
      refine ⟨⟨2, ps ++ [⟨xa, xb, xc, xd⟩], by omega, rfl, hown', ?_, hk4⟩, by simp [RowKit.intOf]⟩
      exact PartsAre.snoc (ns := nbelow [1, 2, 15] 1) (HP2.out.grow HO2.out hk5) (HX2.out.grow HO2.out hk5)
    · have hbit : bitN 2 = 4 := rfl
      have hnext : bitN (2 + 1) = 8 := rfl
      have hand : bits .and .u32 (32774 : Int) (4 : Int) = 4 := by decide
      rw [hbit] at *
      clear hbit
      go_wp2_with fail
      refine (partAt_2 _ w.heap.size HK.out.size).mono ?_
      rintro e w2 ⟨pv, rfl, hp2, hk2⟩
      obtain ⟨⟨xa, xb, xc, xd⟩, rfl, hone⟩ := Part2.q4 hp2
      simp only
      have hka := hk2.alloc (.cells #[xa, xb, xc, xd] 112 (0, 0))
      have HO2 := Lib.hid (HO.out.kept hka (fun _ _ h => h))
      have HP2 := Lib.hid (HP.out.kept hka (fun _ _ h => h))
      have HX2 : Hid (PartIs 2 w.heap.size _ (q4v ⟨xa, xb, xc, xd⟩)) := Lib.hid (Part2.kept hp2 ((Kept.refl NoB w2).alloc (.cells #[xa, xb, xc, xd] 112 (0, 0))) (fun _ _ h => h))
      have HK2 := Lib.hid (HK.out.trans hka (fun _ _ h => h))
      have HB2 := Lib.hid (heap_alloc_new w2 (.cells #[xa, xb, xc, xd] 112 (0, 0)))
      have HONE := Lib.hid hone
      clear hka hp2 hk2 hone
      go_wp2_with (at_builtin; refine wpList_append_p1 105 i0 Tryz.underlying105 hi0 hz0 hz1 hz2 _ rfl _ _ rfl w.heap.size (.slice oa ps.length oc) ps rfl HO2.out w2.heap.size ⟨xa, xb, xc, xd⟩ _ rfl HB2.out HONE.out (by omega) HK2.out.size (ps.length + 1) rfl ?_; intro a' c' w' hown' hgrow' hat')
      have hk4 : Kept NoB w w' := HK2.out.grown hgrow' (fun i hi => .inr (HO2.out.base i hi).1)
      have hk5 : Kept (fun i => some i = (Value.slice oa ps.length oc).ownBlock) (w2.alloc (.cells #[xa, xb, xc, xd] 112 (0, 0))) w' := (Kept.refl _ _).grown hgrow' (fun i hi => .inl hi.symm)
      refine ⟨⟨3, ps ++ [⟨xa, xb, xc, xd⟩], by omega, rfl, hown', ?_, hk4⟩, by simp [RowKit.intOf]⟩
      exact PartsAre.snoc (ns := nbelow [1, 2, 15] 2) (HP2.out.grow HO2.out hk5) (HX2.out.grow HO2.out hk5)
    · have hbit : bitN 3 = 8 := rfl
      have hnext : bitN (3 + 1) = 16 := rfl
      have hand : bits .and .u32 (32774 : Int) (8 : Int) = 0 := by decide
      rw [hbit] at *
      clear hbit
      go_wp2
      exact ⟨⟨4, ps, by omega, rfl, HO.out, HP.out, HK.out⟩, by simp [RowKit.intOf]⟩
    · have hbit : bitN 4 = 16 := rfl
      have hnext : bitN (4 + 1) = 32 := rfl
      have hand : bits .and .u32 (32774 : Int) (16 : Int) = 0 := by decide
      rw [hbit] at *
      clear hbit
      go_wp2
      exact ⟨⟨5, ps, by omega, rfl, HO.out, HP.out, HK.out⟩, by simp [RowKit.intOf]⟩
    · have hbit : bitN 5 = 32 := rfl
      have hnext : bitN (5 + 1) = 64 := rfl
      have hand : bits .and .u32 (32774 : Int) (32 : Int) = 0 := by decide
      rw [hbit] at *
      clear hbit
      go_wp2
      exact ⟨⟨6, ps, by omega, rfl, HO.out, HP.out, HK.out⟩, by simp [RowKit.intOf]⟩
    · have hbit : bitN 6 = 64 := rfl
      have hnext : bitN (6 + 1) = 128 := rfl
      have hand : bits .and .u32 (32774 : Int) (64 : Int) = 0 := by decide
      rw [hbit] at *
      clear hbit
      go_wp2
      exact ⟨⟨7, ps, by omega, rfl, HO.out, HP.out, HK.out⟩, by simp [RowKit.intOf]⟩
    · have hbit : bitN 7 = 128 := rfl
      have hnext : bitN (7 + 1) = 256 := rfl
      have hand : bits .and .u32 (32774 : Int) (128 : Int) = 0 := by decide
      rw [hbit] at *
      clear hbit
      go_wp2
      exact ⟨⟨8, ps, by omega, rfl, HO.out, HP.out, HK.out⟩, by simp [RowKit.intOf]⟩
    · have hbit : bitN 8 = 256 := rfl
      have hnext : bitN (8 + 1) = 512 := rfl
      have hand : bits .and .u32 (32774 : Int) (256 : Int) = 0 := by decide
      rw [hbit] at *
      clear hbit
      go_wp2
      exact ⟨⟨9, ps, by omega, rfl, HO.out, HP.out, HK.out⟩, by simp [RowKit.intOf]⟩
    · have hbit : bitN 9 = 512 := rfl
      have hnext : bitN (9 + 1) = 1024 := rfl
      have hand : bits .and .u32 (32774 : Int) (512 : Int) = 0 := by decide
      rw [hbit] at *
      clear hbit
      go_wp2
      exact ⟨⟨10, ps, by omega, rfl, HO.out, HP.out, HK.out⟩, by simp [RowKit.intOf]⟩
    · have hbit : bitN 10 = 1024 := rfl
      have hnext : bitN (10 + 1) = 2048 := rfl
      have hand : bits .and .u32 (32774 : Int) (1024 : Int) = 0 := by decide
      rw [hbit] at *
      clear hbit
      go_wp2
      exact ⟨⟨11, ps, by omega, rfl, HO.out, HP.out, HK.out⟩, by simp [RowKit.intOf]⟩
    · have hbit : bitN 11 = 2048 := rfl
      have hnext : bitN (11 + 1) = 4096 := rfl
      have hand : bits .and .u32 (32774 : Int) (2048 : Int) = 0 := by decide
      rw [hbit] at *
      clear hbit
      go_wp2
      exact ⟨⟨12, ps, by omega, rfl, HO.out, HP.out, HK.out⟩, by simp [RowKit.intOf]⟩
    · have hbit : bitN 12 = 4096 := rfl
      have hnext : bitN (12 + 1) = 8192 := rfl
      have hand : bits .and .u32 (32774 : Int) (4096 : Int) = 0 := by decide
      rw [hbit] at *
      clear hbit
      go_wp2
      exact ⟨⟨13, ps, by omega, rfl, HO.out, HP.out, HK.out⟩, by simp [RowKit.intOf]⟩
    · have hbit : bitN 13 = 8192 := rfl
      have hnext : bitN (13 + 1) = 16384 := rfl
      have hand : bits .and .u32 (32774 : Int) (8192 : Int) = 0 := by decide
      rw [hbit] at *
      clear hbit
      go_wp2
      exact ⟨⟨14, ps, by omega, rfl, HO.out, HP.out, HK.out⟩, by simp [RowKit.intOf]⟩
    · have hbit : bitN 14 = 16384 := rfl
      have hnext : bitN (14 + 1) = 32768 := rfl
      have hand : bits .and .u32 (32774 : Int) (16384 : Int) = 0 := by decide
      rw [hbit] at *
      clear hbit
      go_wp2
      exact ⟨⟨15, ps, by omega, rfl, HO.out, HP.out, HK.out⟩, by simp [RowKit.intOf]⟩
    · have hbit : bitN 15 = 32768 := rfl
      have hnext : bitN (15 + 1) = 65536 := rfl
      have hand : bits .and .u32 (32774 : Int) (32768 : Int) = 32768 := by decide
      rw [hbit] at *
      clear hbit
      go_wp2_with fail
      refine (partAt_15 _ w.heap.size HK.out.size).mono ?_
      rintro e w2 ⟨pv, rfl, hp2, hk2⟩
      obtain ⟨⟨xa, xb, xc, xd⟩, rfl, hone⟩ := Part15.q4 hp2
      simp only
      have hka := hk2.alloc (.cells #[xa, xb, xc, xd] 112 (0, 0))
      have HO2 := Lib.hid (HO.out.kept hka (fun _ _ h => h))
      have HP2 := Lib.hid (HP.out.kept hka (fun _ _ h => h))
      have HX2 : Hid (PartIs 15 w.heap.size _ (q4v ⟨xa, xb, xc, xd⟩)) := Lib.hid (Part15.kept hp2 ((Kept.refl NoB w2).alloc (.cells #[xa, xb, xc, xd] 112 (0, 0))) (fun _ _ h => h))
      have HK2 := Lib.hid (HK.out.trans hka (fun _ _ h => h))
      have HB2 := Lib.hid (heap_alloc_new w2 (.cells #[xa, xb, xc, xd] 112 (0, 0)))
      have HONE := Lib.hid hone
      clear hka hp2 hk2 hone
      go_wp2_with (at_builtin; refine wpList_append_p1 105 i0 Tryz.underlying105 hi0 hz0 hz1 hz2 _ rfl _ _ rfl w.heap.size (.slice oa ps.length oc) ps rfl HO2.out w2.heap.size ⟨xa, xb, xc, xd⟩ _ rfl HB2.out HONE.out (by omega) HK2.out.size (ps.length + 1) rfl ?_; intro a' c' w' hown' hgrow' hat')
      have hk4 : Kept NoB w w' := HK2.out.grown hgrow' (fun i hi => .inr (HO2.out.base i hi).1)
      have hk5 : Kept (fun i => some i = (Value.slice oa ps.length oc).ownBlock) (w2.alloc (.cells #[xa, xb, xc, xd] 112 (0, 0))) w' := (Kept.refl _ _).grown hgrow' (fun i hi => .inl hi.symm)
      refine ⟨⟨16, ps ++ [⟨xa, xb, xc, xd⟩], by omega, rfl, hown', ?_, hk4⟩, by simp [RowKit.intOf]⟩
      exact PartsAre.snoc (ns := nbelow [1, 2, 15] 15) (HP2.out.grow HO2.out hk5) (HX2.out.grow HO2.out hk5)
    · have hbit : bitN 16 = 65536 := rfl
      have hnext : bitN (16 + 1) = 131072 := rfl
      have hand : bits .and .u32 (32774 : Int) (65536 : Int) = 0 := by decide
      rw [hbit] at *
      clear hbit
      go_wp2
      exact ⟨⟨17, ps, by omega, rfl, HO.out, HP.out, HK.out⟩, by simp [RowKit.intOf]⟩
    · have hbit : bitN 17 = 131072 := rfl
      have hnext : bitN (17 + 1) = 262144 := rfl
      have hand : bits .and .u32 (32774 : Int) (131072 : Int) = 0 := by decide
      rw [hbit] at *
      clear hbit
      go_wp2
      exact ⟨⟨18, ps, by omega, rfl, HO.out, HP.out, HK.out⟩, by simp [RowKit.intOf]⟩
    · have hbit : bitN 18 = 262144 := rfl
      rw [hbit] at *
      clear hbit
      go_wp2
      go_ret
      have hl : ps.length = 3 := HP.out.1
      exact ⟨oa, oc, ps, by rw [hl]; rfl, by have := HO.out; rwa [hl] at this, HP.out, HK.out⟩
end Go.Proofs.YtclfecninhipnaaGreatDoor
namespace Go.Proofs.YtclfecninhipnaaGreatDoor
open Go.RowKit
set_option linter.unusedVariables false
set_option linter.unusedSimpArgs false

set_option maxRecDepth 100000 in
set_option maxHeartbeats 1000000 in
theorem right_1 (w : World) (g s : Nat) (bm : Nat) (x : Int) (hm : OneAt 3 bm (.int .i64 3) w) (h1 : OneAt 104 s (.func (.func 140) #[] #[pb bm]) w) (h4 : OneAt 154 (s + 3) (.func (.func 86) #[] #[]) w) (hc : w.cell? ⟨g, 3, none⟩ = some (.int .i64 x)) : Calls Tryz.prog 192 #[pb g, pb s, pb (s + 3)] w (YesNoK (decide (0 ≤ x) && decide (x ≤ 3)) w) := by
  have HCK := Lib.hid (fun w' (hk : Kept NoB w w') => uptoInt_any w' x 3 bm (hm.no hk).cell)
  have HTEN : Hid (∀ w', Kept NoB w w' → w'.cell? ⟨s, 0, none⟩ = some (.func (.func 140) #[] #[pb bm]) ∧ w'.cell? ⟨s + 3, 0, none⟩ = some (.func (.func 86) #[] #[]) ∧ w'.cell? ⟨g, 3, none⟩ = some (.int .i64 x)) := Lib.hid (fun w' hk => ⟨(h1.no hk).cell, (h4.no hk).cell, hk.cell (p := ⟨g, 3, none⟩) (fun h => h) hc⟩)
  have HTO := Lib.hid (fun w' => to_partAt_2 w' g)
  have hent1 : ∀ (args : Array Value) (w : World), Sem.run Tryz.prog (callFunc 140 args) w = .ok (.enter 140 args) w := ent_upto_int
  have hent2 : ∀ (args : Array Value) (w : World), Sem.run Tryz.prog (callFunc 86 args) w = .ok (.enter 86 args) w := ent_partAt_2
  clear h1 h4 hc hm
  go_enter Tryz.func192, Tryz.ntmps192
  go_wp2_with fail
  have HKe := Lib.hid (Kept.refl NoB w).drew
  have HT := Lib.hid (HTEN.out _ HKe.out)
  go_region_held3 (fun w' => w'.cell? ⟨s, 0, none⟩ = some (.func (.func 140) #[] #[pb bm]) ∧ w'.cell? ⟨s + 3, 0, none⟩ = some (.func (.func 86) #[] #[]) ∧ w'.cell? ⟨g, 3, none⟩ = some (.int .i64 x)) (with_reducible exact HT.out)
    (first
      | (go_at_call 86; (with_reducible refine (HTO.out _).mono ?_); rintro e w1 ⟨rfl, rfl⟩)
      | (go_at_call 140; (with_reducible refine (HCK.out _ HKe.out).mono ?_); rintro e w1 ⟨rfl, rfl⟩))
  go_wp2
  go_ret
  exact ⟨rfl, HKe.out⟩
set_option maxRecDepth 100000 in
theorem drop_1 (w : World) (g ba : Nat) (cs : Array Value) (h4 : OneAt 154 ba (.func (.func 86) #[] #[]) w) (hc : w.heap[g]? = some (.cells cs 48 (0, 0))) (hl : cs.size = 25) : Calls Tryz.prog 195 #[pb g, pb ba] w fun e w' => e = .returned (.tuple #[]) ∧ w' = w.setCell ⟨g, 3, none⟩ (.int .i64 0) := by
  have HTO := Lib.hid (fun w' => to_partAt_2 w' g)
  have hent2 : ∀ (args : Array Value) (w : World), Sem.run Tryz.prog (callFunc 86 args) w = .ok (.enter 86 args) w := ent_partAt_2
  have c4 := h4.cell
  have cg : w.cell? ⟨g, 3, none⟩ = some (cs[3]'(by omega)) := by rw [cell_of_row _ _ _ _ _ _ hc]; exact Array.getElem?_eq_getElem (by omega)
  have zg := blkU_frozen hc 3
  clear h4 hc
  go_enter Tryz.func195, Tryz.ntmps195
  go_wp2_with fail
  refine (HTO.out _).mono ?_
  rintro e w1 ⟨rfl, rfl⟩
  go_wp2
  go_end0
  exact ⟨rfl, rfl⟩
set_option maxRecDepth 100000 in
set_option maxHeartbeats 1000000 in
theorem right_2 (w : World) (g s : Nat) (x : Int) (h1 : OneAt 148 s (.func (.func 87) #[] #[]) w) (h4 : OneAt 150 (s + 3) (.func (.func 88) #[] #[]) w) (hc : w.cell? ⟨g, 4, none⟩ = some (.int .u64 x)) : Calls Tryz.prog 187 #[pb g, pb s, pb (s + 3)] w (YesNoK (decide (1 ≤ x)) w) := by
  have HCK := Lib.hid (fun w' (hk : Kept NoB w w') => isPositive_any w' x)
  have HTEN : Hid (∀ w', Kept NoB w w' → w'.cell? ⟨s, 0, none⟩ = some (.func (.func 87) #[] #[]) ∧ w'.cell? ⟨s + 3, 0, none⟩ = some (.func (.func 88) #[] #[]) ∧ w'.cell? ⟨g, 4, none⟩ = some (.int .u64 x)) := Lib.hid (fun w' hk => ⟨(h1.no hk).cell, (h4.no hk).cell, hk.cell (p := ⟨g, 4, none⟩) (fun h => h) hc⟩)
  have HTO := Lib.hid (fun w' => to_partAt_3 w' g)
  have hent1 : ∀ (args : Array Value) (w : World), Sem.run Tryz.prog (callFunc 87 args) w = .ok (.enter 87 args) w := ent_isPositive
  have hent2 : ∀ (args : Array Value) (w : World), Sem.run Tryz.prog (callFunc 88 args) w = .ok (.enter 88 args) w := ent_partAt_3
  clear h1 h4 hc
  go_enter Tryz.func187, Tryz.ntmps187
  go_wp2_with fail
  have HKe := Lib.hid (Kept.refl NoB w).drew
  have HT := Lib.hid (HTEN.out _ HKe.out)
  go_region_held3 (fun w' => w'.cell? ⟨s, 0, none⟩ = some (.func (.func 87) #[] #[]) ∧ w'.cell? ⟨s + 3, 0, none⟩ = some (.func (.func 88) #[] #[]) ∧ w'.cell? ⟨g, 4, none⟩ = some (.int .u64 x)) (with_reducible exact HT.out)
    (first
      | (go_at_call 88; (with_reducible refine (HTO.out _).mono ?_); rintro e w1 ⟨rfl, rfl⟩)
      | (go_at_call 87; (with_reducible refine (HCK.out _ HKe.out).mono ?_); rintro e w1 ⟨rfl, rfl⟩))
  go_wp2
  go_ret
  exact ⟨rfl, HKe.out⟩
set_option maxRecDepth 100000 in
theorem drop_2 (w : World) (g ba : Nat) (cs : Array Value) (h4 : OneAt 150 ba (.func (.func 88) #[] #[]) w) (hc : w.heap[g]? = some (.cells cs 48 (0, 0))) (hl : cs.size = 25) : Calls Tryz.prog 190 #[pb g, pb ba] w fun e w' => e = .returned (.tuple #[]) ∧ w' = w.setCell ⟨g, 4, none⟩ (.int .u64 0) := by
  have HTO := Lib.hid (fun w' => to_partAt_3 w' g)
  have hent2 : ∀ (args : Array Value) (w : World), Sem.run Tryz.prog (callFunc 88 args) w = .ok (.enter 88 args) w := ent_partAt_3
  have c4 := h4.cell
  have cg : w.cell? ⟨g, 4, none⟩ = some (cs[4]'(by omega)) := by rw [cell_of_row _ _ _ _ _ _ hc]; exact Array.getElem?_eq_getElem (by omega)
  have zg := blkU_frozen hc 4
  clear h4 hc
  go_enter Tryz.func190, Tryz.ntmps190
  go_wp2_with fail
  refine (HTO.out _).mono ?_
  rintro e w1 ⟨rfl, rfl⟩
  go_wp2
  go_end0
  exact ⟨rfl, rfl⟩
set_option maxRecDepth 100000 in
set_option maxHeartbeats 1000000 in
theorem right_3 (w : World) (g s : Nat) (x : Int) (h1 : OneAt 148 s (.func (.func 89) #[] #[]) w) (h4 : OneAt 150 (s + 3) (.func (.func 90) #[] #[]) w) (hc : w.cell? ⟨g, 7, none⟩ = some (.int .u64 x)) : Calls Tryz.prog 187 #[pb g, pb s, pb (s + 3)] w (YesNoK (true) w) := by
  have HCK := Lib.hid (fun w' (hk : Kept NoB w w') => anyU64_any w' x)
  have HTEN : Hid (∀ w', Kept NoB w w' → w'.cell? ⟨s, 0, none⟩ = some (.func (.func 89) #[] #[]) ∧ w'.cell? ⟨s + 3, 0, none⟩ = some (.func (.func 90) #[] #[]) ∧ w'.cell? ⟨g, 7, none⟩ = some (.int .u64 x)) := Lib.hid (fun w' hk => ⟨(h1.no hk).cell, (h4.no hk).cell, hk.cell (p := ⟨g, 7, none⟩) (fun h => h) hc⟩)
  have HTO := Lib.hid (fun w' => to_partAt_4 w' g)
  have hent1 : ∀ (args : Array Value) (w : World), Sem.run Tryz.prog (callFunc 89 args) w = .ok (.enter 89 args) w := ent_any_u64
  have hent2 : ∀ (args : Array Value) (w : World), Sem.run Tryz.prog (callFunc 90 args) w = .ok (.enter 90 args) w := ent_partAt_4
  clear h1 h4 hc
  go_enter Tryz.func187, Tryz.ntmps187
  go_wp2_with fail
  have HKe := Lib.hid (Kept.refl NoB w).drew
  have HT := Lib.hid (HTEN.out _ HKe.out)
  go_region_held3 (fun w' => w'.cell? ⟨s, 0, none⟩ = some (.func (.func 89) #[] #[]) ∧ w'.cell? ⟨s + 3, 0, none⟩ = some (.func (.func 90) #[] #[]) ∧ w'.cell? ⟨g, 7, none⟩ = some (.int .u64 x)) (with_reducible exact HT.out)
    (first
      | (go_at_call 90; (with_reducible refine (HTO.out _).mono ?_); rintro e w1 ⟨rfl, rfl⟩)
      | (go_at_call 89; (with_reducible refine (HCK.out _ HKe.out).mono ?_); rintro e w1 ⟨rfl, rfl⟩))
  go_wp2
  go_ret
  exact ⟨rfl, HKe.out⟩
set_option maxRecDepth 100000 in
theorem drop_3 (w : World) (g ba : Nat) (cs : Array Value) (h4 : OneAt 150 ba (.func (.func 90) #[] #[]) w) (hc : w.heap[g]? = some (.cells cs 48 (0, 0))) (hl : cs.size = 25) : Calls Tryz.prog 190 #[pb g, pb ba] w fun e w' => e = .returned (.tuple #[]) ∧ w' = w.setCell ⟨g, 7, none⟩ (.int .u64 0) := by
  have HTO := Lib.hid (fun w' => to_partAt_4 w' g)
  have hent2 : ∀ (args : Array Value) (w : World), Sem.run Tryz.prog (callFunc 90 args) w = .ok (.enter 90 args) w := ent_partAt_4
  have c4 := h4.cell
  have cg : w.cell? ⟨g, 7, none⟩ = some (cs[7]'(by omega)) := by rw [cell_of_row _ _ _ _ _ _ hc]; exact Array.getElem?_eq_getElem (by omega)
  have zg := blkU_frozen hc 7
  clear h4 hc
  go_enter Tryz.func190, Tryz.ntmps190
  go_wp2_with fail
  refine (HTO.out _).mono ?_
  rintro e w1 ⟨rfl, rfl⟩
  go_wp2
  go_end0
  exact ⟨rfl, rfl⟩
set_option maxRecDepth 100000 in
set_option maxHeartbeats 1000000 in
theorem right_4 (w : World) (g s : Nat) (x : Int) (h1 : OneAt 148 s (.func (.func 89) #[] #[]) w) (h4 : OneAt 150 (s + 3) (.func (.func 91) #[] #[]) w) (hc : w.cell? ⟨g, 8, none⟩ = some (.int .u64 x)) : Calls Tryz.prog 187 #[pb g, pb s, pb (s + 3)] w (YesNoK (true) w) := by
  have HCK := Lib.hid (fun w' (hk : Kept NoB w w') => anyU64_any w' x)
  have HTEN : Hid (∀ w', Kept NoB w w' → w'.cell? ⟨s, 0, none⟩ = some (.func (.func 89) #[] #[]) ∧ w'.cell? ⟨s + 3, 0, none⟩ = some (.func (.func 91) #[] #[]) ∧ w'.cell? ⟨g, 8, none⟩ = some (.int .u64 x)) := Lib.hid (fun w' hk => ⟨(h1.no hk).cell, (h4.no hk).cell, hk.cell (p := ⟨g, 8, none⟩) (fun h => h) hc⟩)
  have HTO := Lib.hid (fun w' => to_partAt_5 w' g)
  have hent1 : ∀ (args : Array Value) (w : World), Sem.run Tryz.prog (callFunc 89 args) w = .ok (.enter 89 args) w := ent_any_u64
  have hent2 : ∀ (args : Array Value) (w : World), Sem.run Tryz.prog (callFunc 91 args) w = .ok (.enter 91 args) w := ent_partAt_5
  clear h1 h4 hc
  go_enter Tryz.func187, Tryz.ntmps187
  go_wp2_with fail
  have HKe := Lib.hid (Kept.refl NoB w).drew
  have HT := Lib.hid (HTEN.out _ HKe.out)
  go_region_held3 (fun w' => w'.cell? ⟨s, 0, none⟩ = some (.func (.func 89) #[] #[]) ∧ w'.cell? ⟨s + 3, 0, none⟩ = some (.func (.func 91) #[] #[]) ∧ w'.cell? ⟨g, 8, none⟩ = some (.int .u64 x)) (with_reducible exact HT.out)
    (first
      | (go_at_call 91; (with_reducible refine (HTO.out _).mono ?_); rintro e w1 ⟨rfl, rfl⟩)
      | (go_at_call 89; (with_reducible refine (HCK.out _ HKe.out).mono ?_); rintro e w1 ⟨rfl, rfl⟩))
  go_wp2
  go_ret
  exact ⟨rfl, HKe.out⟩
set_option maxRecDepth 100000 in
theorem drop_4 (w : World) (g ba : Nat) (cs : Array Value) (h4 : OneAt 150 ba (.func (.func 91) #[] #[]) w) (hc : w.heap[g]? = some (.cells cs 48 (0, 0))) (hl : cs.size = 25) : Calls Tryz.prog 190 #[pb g, pb ba] w fun e w' => e = .returned (.tuple #[]) ∧ w' = w.setCell ⟨g, 8, none⟩ (.int .u64 0) := by
  have HTO := Lib.hid (fun w' => to_partAt_5 w' g)
  have hent2 : ∀ (args : Array Value) (w : World), Sem.run Tryz.prog (callFunc 91 args) w = .ok (.enter 91 args) w := ent_partAt_5
  have c4 := h4.cell
  have cg : w.cell? ⟨g, 8, none⟩ = some (cs[8]'(by omega)) := by rw [cell_of_row _ _ _ _ _ _ hc]; exact Array.getElem?_eq_getElem (by omega)
  have zg := blkU_frozen hc 8
  clear h4 hc
  go_enter Tryz.func190, Tryz.ntmps190
  go_wp2_with fail
  refine (HTO.out _).mono ?_
  rintro e w1 ⟨rfl, rfl⟩
  go_wp2
  go_end0
  exact ⟨rfl, rfl⟩
set_option maxRecDepth 100000 in
set_option maxHeartbeats 1000000 in
theorem right_14 (w : World) (g s : Nat) (x : Value) (l : List Up) (F : Nat → Prop) (hx : UsAt w F x l) (h1 : OneAt 181 s (.func (.func 116) #[] #[]) w) (h4 : OneAt 185 (s + 3) (.func (.func 119) #[] #[]) w) (hc : w.cell? ⟨g, 23, none⟩ = some x) : Calls Tryz.prog 165 #[pb g, pb s, pb (s + 3)] w (YesNoK (areUs l) w) := by
  have HCK := Lib.hid (fun w' (hk : Kept NoB w w') => areUpdates_any w' x l F (hx.no hk))
  obtain ⟨xa, xc, rfl⟩ := hx.form
  have HTEN : Hid (∀ w', Kept NoB w w' → w'.cell? ⟨s, 0, none⟩ = some (.func (.func 116) #[] #[]) ∧ w'.cell? ⟨s + 3, 0, none⟩ = some (.func (.func 119) #[] #[]) ∧ w'.cell? ⟨g, 23, none⟩ = some (.slice xa l.length xc)) := Lib.hid (fun w' hk => ⟨(h1.no hk).cell, (h4.no hk).cell, hk.cell (p := ⟨g, 23, none⟩) (fun h => h) hc⟩)
  have HTO := Lib.hid (fun w' => to_partAt_14 w' g)
  have hent1 : ∀ (args : Array Value) (w : World), Sem.run Tryz.prog (callFunc 116 args) w = .ok (.enter 116 args) w := ent_areUpdates
  have hent2 : ∀ (args : Array Value) (w : World), Sem.run Tryz.prog (callFunc 119 args) w = .ok (.enter 119 args) w := ent_partAt_14
  clear h1 h4 hc hx
  go_enter Tryz.func165, Tryz.ntmps165
  go_wp2_with fail
  have HKe := Lib.hid (Kept.refl NoB w).drew
  have HT := Lib.hid (HTEN.out _ HKe.out)
  go_region_held3 (fun w' => w'.cell? ⟨s, 0, none⟩ = some (.func (.func 116) #[] #[]) ∧ w'.cell? ⟨s + 3, 0, none⟩ = some (.func (.func 119) #[] #[]) ∧ w'.cell? ⟨g, 23, none⟩ = some (.slice xa l.length xc)) (with_reducible exact HT.out)
    (first
      | (go_at_call 119; (with_reducible refine (HTO.out _).mono ?_); rintro e w1 ⟨rfl, rfl⟩)
      | (go_at_call 116; (with_reducible refine (HCK.out _ HKe.out).mono ?_); rintro e w1 ⟨rfl, hk1⟩; replace HKe := Lib.hid (HKe.out.trans hk1 (fun _ _ h => h)); replace HT := Lib.hid (HTEN.out _ HKe.out); clear hk1))
  go_wp2
  go_ret
  exact ⟨rfl, HKe.out⟩
set_option maxRecDepth 100000 in
theorem drop_14 (w : World) (g ba : Nat) (cs : Array Value) (h4 : OneAt 185 ba (.func (.func 119) #[] #[]) w) (hc : w.heap[g]? = some (.cells cs 48 (0, 0))) (hl : cs.size = 25) : Calls Tryz.prog 168 #[pb g, pb ba] w fun e w' => e = .returned (.tuple #[]) ∧ w' = w.setCell ⟨g, 23, none⟩ (.slice none 0 0) := by
  have HTO := Lib.hid (fun w' => to_partAt_14 w' g)
  have hent2 : ∀ (args : Array Value) (w : World), Sem.run Tryz.prog (callFunc 119 args) w = .ok (.enter 119 args) w := ent_partAt_14
  have c4 := h4.cell
  have cg : w.cell? ⟨g, 23, none⟩ = some (cs[23]'(by omega)) := by rw [cell_of_row _ _ _ _ _ _ hc]; exact Array.getElem?_eq_getElem (by omega)
  have zg := blkU_frozen hc 23
  clear h4 hc
  go_enter Tryz.func168, Tryz.ntmps168
  go_wp2_with fail
  refine (HTO.out _).mono ?_
  rintro e w1 ⟨rfl, rfl⟩
  go_wp2
  go_end0
  exact ⟨rfl, rfl⟩
set_option maxRecDepth 100000 in
set_option maxHeartbeats 1000000 in
theorem right_15 (w : World) (g s : Nat) (x : Value) (l : List Up) (F : Nat → Prop) (hx : UsAt w F x l) (h1 : OneAt 181 s (.func (.func 120) #[] #[]) w) (h4 : OneAt 185 (s + 3) (.func (.func 121) #[] #[]) w) (hc : w.cell? ⟨g, 23, none⟩ = some x) : Calls Tryz.prog 165 #[pb g, pb s, pb (s + 3)] w (YesNoK (areReq l) w) := by
  have HCK := Lib.hid (fun w' (hk : Kept NoB w w') => areRequest_any w' x l F (hx.no hk))
  obtain ⟨xa, xc, rfl⟩ := hx.form
  have HTEN : Hid (∀ w', Kept NoB w w' → w'.cell? ⟨s, 0, none⟩ = some (.func (.func 120) #[] #[]) ∧ w'.cell? ⟨s + 3, 0, none⟩ = some (.func (.func 121) #[] #[]) ∧ w'.cell? ⟨g, 23, none⟩ = some (.slice xa l.length xc)) := Lib.hid (fun w' hk => ⟨(h1.no hk).cell, (h4.no hk).cell, hk.cell (p := ⟨g, 23, none⟩) (fun h => h) hc⟩)
  have HTO := Lib.hid (fun w' => to_partAt_15 w' g)
  have hent1 : ∀ (args : Array Value) (w : World), Sem.run Tryz.prog (callFunc 120 args) w = .ok (.enter 120 args) w := ent_areRequest
  have hent2 : ∀ (args : Array Value) (w : World), Sem.run Tryz.prog (callFunc 121 args) w = .ok (.enter 121 args) w := ent_partAt_15
  clear h1 h4 hc hx
  go_enter Tryz.func165, Tryz.ntmps165
  go_wp2_with fail
  have HKe := Lib.hid (Kept.refl NoB w).drew
  have HT := Lib.hid (HTEN.out _ HKe.out)
  go_region_held3 (fun w' => w'.cell? ⟨s, 0, none⟩ = some (.func (.func 120) #[] #[]) ∧ w'.cell? ⟨s + 3, 0, none⟩ = some (.func (.func 121) #[] #[]) ∧ w'.cell? ⟨g, 23, none⟩ = some (.slice xa l.length xc)) (with_reducible exact HT.out)
    (first
      | (go_at_call 121; (with_reducible refine (HTO.out _).mono ?_); rintro e w1 ⟨rfl, rfl⟩)
      | (go_at_call 120; (with_reducible refine (HCK.out _ HKe.out).mono ?_); rintro e w1 ⟨rfl, hk1⟩; replace HKe := Lib.hid (HKe.out.trans hk1 (fun _ _ h => h)); replace HT := Lib.hid (HTEN.out _ HKe.out); clear hk1))
  go_wp2
  go_ret
  exact ⟨rfl, HKe.out⟩
set_option maxRecDepth 100000 in
theorem drop_15 (w : World) (g ba : Nat) (cs : Array Value) (h4 : OneAt 185 ba (.func (.func 121) #[] #[]) w) (hc : w.heap[g]? = some (.cells cs 48 (0, 0))) (hl : cs.size = 25) : Calls Tryz.prog 168 #[pb g, pb ba] w fun e w' => e = .returned (.tuple #[]) ∧ w' = w.setCell ⟨g, 23, none⟩ (.slice none 0 0) := by
  have HTO := Lib.hid (fun w' => to_partAt_15 w' g)
  have hent2 : ∀ (args : Array Value) (w : World), Sem.run Tryz.prog (callFunc 121 args) w = .ok (.enter 121 args) w := ent_partAt_15
  have c4 := h4.cell
  have cg : w.cell? ⟨g, 23, none⟩ = some (cs[23]'(by omega)) := by rw [cell_of_row _ _ _ _ _ _ hc]; exact Array.getElem?_eq_getElem (by omega)
  have zg := blkU_frozen hc 23
  clear h4 hc
  go_enter Tryz.func168, Tryz.ntmps168
  go_wp2_with fail
  refine (HTO.out _).mono ?_
  rintro e w1 ⟨rfl, rfl⟩
  go_wp2
  go_end0
  exact ⟨rfl, rfl⟩
end Go.Proofs.YtclfecninhipnaaGreatDoor
namespace Go.Proofs.YtclfecninhipnaaGreatDoor
open Go.RowKit
set_option linter.unusedVariables false
set_option linter.unusedSimpArgs false

theorem BSl.conv17 {P : Program} {w : World} {F : Nat → Prop} {v : Value} {l : List Int} (h : BSl w F v l) (src e dst : TypeId) (hs : P.underlying src = some (.slice e)) (he : P.underlying e = some (.int .u8)) (hd : P.underlying dst = some .string) :
    (convert src dst v).run P w = .ok (.string (strOfNums l)) w := by
  obtain ⟨a, cap, rfl, hc, hm, hn, hr⟩ := h
  by_cases hl : l.length = 0
  · obtain rfl : l = [] := List.eq_nil_of_length_eq_zero hl
    show (convert src dst (.slice a 0 cap)).run P w = .ok (.string ByteArray.empty) w
    rw [run_convert_bytes_string w src dst e _ 0 cap hs he hd]
    cases a <;> simp [Conv.bytesToString, loadCells]
    all_goals rfl
  · obtain ⟨b, o, rfl, _⟩ := hr.at_ (j := 0) (by omega)
    exact run_convert_bytes_arg (P := P) w src e hs he b o l.length cap l rfl (fun i hi => by obtain ⟨b', o', e1, _, _, hc⟩ := hr.at_ hi; cases e1; exact hc) dst hd
theorem bytesOf_inj17 : ∀ l m : List Int, IsB l → IsB m → Lib.bytesOf l = Lib.bytesOf m → l = m
  | [], [], _, _, _ => rfl
  | [], y :: m, _, _, h => by simp [Lib.bytesOf] at h
  | x :: l, [], _, _, h => by simp [Lib.bytesOf] at h
  | x :: l, y :: m, h1, h2, h => by
    simp only [Lib.bytesOf, List.map_cons, List.cons.injEq] at h
    have hx := h1 x (by simp)
    have hy := h2 y (by simp)
    have e := congrArg UInt8.toNat h.1
    simp at e
    have : x = y := by omega
    rw [this, bytesOf_inj17 l m (fun z hz => h1 z (List.mem_cons_of_mem _ hz)) (fun z hz => h2 z (List.mem_cons_of_mem _ hz)) h.2]
set_option maxRecDepth 100000 in
theorem Equal17 (v u : Value) (l m : List Int) (F G : Nat → Prop) (w : World) (h : BSl w F v l) (k : BSl w G u m) :
    Calls Tryz.prog 68 #[v, u] w fun e w' => e = .returned (.bool (decide (l = m))) ∧ Kept NoB w w' := by
  have c1 := h.conv17 (P := Tryz.prog) 24 5 9 Tryz.underlying24 Tryz.underlying5 Tryz.underlying9
  have c2 := k.conv17 (P := Tryz.prog) 24 5 9 Tryz.underlying24 Tryz.underlying5 Tryz.underlying9
  have HB := Lib.hid h.isB
  have HC := Lib.hid k.isB
  clear h k
  go_enter Tryz.func68, Tryz.ntmps68
  go_wp2
  go_ret
  refine ⟨?_, Kept.refl _ _⟩
  show Ending.returned (Value.bool ((strOfNums l).toList == (strOfNums m).toList)) = _
  rw [Lib.strOfNums_toList, Lib.strOfNums_toList]
  congr 2
  by_cases e : l = m
  · subst e; simp
  · rw [decide_eq_false e]
    have := mt (bytesOf_inj17 l m HB.out HC.out) e
    simpa using this

theorem cells25 {w : World} {b : Nat} {x0 x1 x2 x3 x4 x5 x6 x7 x8 x9 x10 x11 x12 x13 x14 x15 x16 x17 x18 x19 x20 x21 x22 x23 x24 : Value} {t : TypeId} (h : w.heap[b]? = some (.cells #[x0, x1, x2, x3, x4, x5, x6, x7, x8, x9, x10, x11, x12, x13, x14, x15, x16, x17, x18, x19, x20, x21, x22, x23, x24] t (0, 0))) :
    w.cell? ⟨b, 0, none⟩ = some x0 ∧ w.cell? ⟨b, 1, none⟩ = some x1 ∧ w.cell? ⟨b, 2, none⟩ = some x2 ∧ w.cell? ⟨b, 3, none⟩ = some x3 ∧ w.cell? ⟨b, 4, none⟩ = some x4 ∧ w.cell? ⟨b, 5, none⟩ = some x5 ∧ w.cell? ⟨b, 6, none⟩ = some x6 ∧ w.cell? ⟨b, 7, none⟩ = some x7 ∧ w.cell? ⟨b, 8, none⟩ = some x8 ∧ w.cell? ⟨b, 9, none⟩ = some x9 ∧ w.cell? ⟨b, 10, none⟩ = some x10 ∧ w.cell? ⟨b, 11, none⟩ = some x11 ∧ w.cell? ⟨b, 12, none⟩ = some x12 ∧ w.cell? ⟨b, 13, none⟩ = some x13 ∧ w.cell? ⟨b, 14, none⟩ = some x14 ∧ w.cell? ⟨b, 15, none⟩ = some x15 ∧ w.cell? ⟨b, 16, none⟩ = some x16 ∧ w.cell? ⟨b, 17, none⟩ = some x17 ∧ w.cell? ⟨b, 18, none⟩ = some x18 ∧ w.cell? ⟨b, 19, none⟩ = some x19 ∧ w.cell? ⟨b, 20, none⟩ = some x20 ∧ w.cell? ⟨b, 21, none⟩ = some x21 ∧ w.cell? ⟨b, 22, none⟩ = some x22 ∧ w.cell? ⟨b, 23, none⟩ = some x23 ∧ w.cell? ⟨b, 24, none⟩ = some x24 :=
  ⟨cell_of_row _ _ 0 _ _ _ h, cell_of_row _ _ 1 _ _ _ h, cell_of_row _ _ 2 _ _ _ h, cell_of_row _ _ 3 _ _ _ h, cell_of_row _ _ 4 _ _ _ h, cell_of_row _ _ 5 _ _ _ h, cell_of_row _ _ 6 _ _ _ h, cell_of_row _ _ 7 _ _ _ h, cell_of_row _ _ 8 _ _ _ h, cell_of_row _ _ 9 _ _ _ h, cell_of_row _ _ 10 _ _ _ h, cell_of_row _ _ 11 _ _ _ h, cell_of_row _ _ 12 _ _ _ h, cell_of_row _ _ 13 _ _ _ h, cell_of_row _ _ 14 _ _ _ h, cell_of_row _ _ 15 _ _ _ h, cell_of_row _ _ 16 _ _ _ h, cell_of_row _ _ 17 _ _ _ h, cell_of_row _ _ 18 _ _ _ h, cell_of_row _ _ 19 _ _ _ h, cell_of_row _ _ 20 _ _ _ h, cell_of_row _ _ 21 _ _ _ h, cell_of_row _ _ 22 _ _ _ h, cell_of_row _ _ 23 _ _ _ h, cell_of_row _ _ 24 _ _ _ h⟩
set_option maxRecDepth 100000 in
theorem equalInts_nil (w : World) : Calls Tryz.prog 123 #[.slice none 0 0, .slice none 0 0] w (YesNoK true w) := by
  go_enter Tryz.func123, Tryz.ntmps123
  go_wp2
  go_loopw [13] (fun i wr => i = .int .i64 0 ∧ Kept NoB w wr) (fun _ _ => 0)
  case atStart => exact ⟨rfl, Kept.refl _ _⟩
  case round =>
    obtain ⟨rfl, hk⟩ := hrel
    go_wp2
    go_ret
    exact ⟨rfl, hk⟩
set_option maxRecDepth 100000 in
theorem equalVotes_nil (w : World) : Calls Tryz.prog 65 #[.slice none 0 0, .slice none 0 0] w (YesNoK true w) := by
  go_enter Tryz.func65, Tryz.ntmps65
  go_wp2
  go_loopw [13] (fun i wr => i = .int .i64 0 ∧ Kept NoB w wr) (fun _ _ => 0)
  case atStart => exact ⟨rfl, Kept.refl _ _⟩
  case round =>
    obtain ⟨rfl, hk⟩ := hrel
    go_wp2
    go_ret
    exact ⟨rfl, hk⟩
set_option maxRecDepth 100000 in
theorem equalUps_nil (w : World) (f : FuncId) : Calls Tryz.prog 66 #[.slice none 0 0, .slice none 0 0, .func (.func f) #[] #[]] w (YesNoK true w) := by
  go_enter Tryz.func66, Tryz.ntmps66
  go_wp2
  go_loopw [17] (fun i wr => i = .int .i64 0 ∧ Kept NoB w wr) (fun _ _ => 0)
  case atStart => exact ⟨rfl, Kept.refl _ _⟩
  case round =>
    obtain ⟨rfl, hk⟩ := hrel
    go_wp2
    go_ret
    exact ⟨rfl, hk⟩
set_option maxRecDepth 100000 in
set_option maxHeartbeats 1000000 in
theorem confSame_zero (w : World) : Calls Tryz.prog 64 #[.agg #[.int .i64 0, .int .u64 0, .slice none 0 0, .bool false, .int .i64 0], .agg #[.int .i64 0, .int .u64 0, .slice none 0 0, .bool false, .int .i64 0]] w (YesNoK true w) := by
  have h1 := heap_alloc_new w (.cells #[.int .i64 0, .int .u64 0, .slice none 0 0, .bool false, .int .i64 0] 44 (0, 0))
  have h1' := blkU_alloc h1 (.cells #[.int .i64 0, .int .u64 0, .slice none 0 0, .bool false, .int .i64 0] 44 (0, 0))
  have h2 := heap_alloc_new (w.alloc (.cells #[.int .i64 0, .int .u64 0, .slice none 0 0, .bool false, .int .i64 0] 44 (0, 0))) (.cells #[.int .i64 0, .int .u64 0, .slice none 0 0, .bool false, .int .i64 0] 44 (0, 0))
  rw [show (w.alloc (.cells #[.int .i64 0, .int .u64 0, .slice none 0 0, .bool false, .int .i64 0] 44 (0, 0))).heap.size = w.heap.size + 1 by simp] at h2
  have HK := Lib.hid (((Kept.refl NoB w).alloc (.cells #[.int .i64 0, .int .u64 0, .slice none 0 0, .bool false, .int .i64 0] 44 (0, 0))).alloc (.cells #[.int .i64 0, .int .u64 0, .slice none 0 0, .bool false, .int .i64 0] 44 (0, 0)))
  have c := And.intro (cell_of_row _ _ 0 _ _ _ h1') (And.intro (cell_of_row _ _ 1 _ _ _ h1') (And.intro (cell_of_row _ _ 2 _ _ _ h1') (And.intro (cell_of_row _ _ 3 _ _ _ h1') (cell_of_row _ _ 4 _ _ _ h1'))))
  have d := And.intro (cell_of_row _ _ 0 _ _ _ h2) (And.intro (cell_of_row _ _ 1 _ _ _ h2) (And.intro (cell_of_row _ _ 2 _ _ _ h2) (And.intro (cell_of_row _ _ 3 _ _ _ h2) (cell_of_row _ _ 4 _ _ _ h2))))
  have HC := Lib.hid (And.intro h1' h2)
  simp at c d
  obtain ⟨c0, c1, c2, c3, c4⟩ := c
  obtain ⟨d0, d1, d2, d3, d4⟩ := d
  clear h1 h1' h2
  go_enter Tryz.func64, Tryz.ntmps64
  go_wp2_with fail
  refine (equalInts_nil _).mono ?_
  rintro e w1 ⟨rfl, hk⟩
  have HK1 := Lib.hid (HK.out.trans hk (fun _ _ h => h))
  have h1 := hk.heap (fun h => h) HC.out.1
  have h2 := hk.heap (fun h => h) HC.out.2
  have c3 := cell_of_row _ _ 3 _ _ _ h1
  have c4 := cell_of_row _ _ 4 _ _ _ h1
  have d3 := cell_of_row _ _ 3 _ _ _ h2
  have d4 := cell_of_row _ _ 4 _ _ _ h2
  simp at c3 c4 d3 d4
  clear hk h1 h2
  go_wp2
  go_ret
  exact ⟨rfl, HK1.out⟩
set_option maxRecDepth 100000 in
set_option maxHeartbeats 4000000 in
theorem LSame_zero (w : World) : Calls Tryz.prog 40 #[.agg #[.int .i64 0, .int .i64 0, .int .i64 0, .int .i64 0, .int .u64 0, .int .u64 0, .int .u64 0, .int .u64 0, .int .u64 0, .int .u64 0, .int .i64 0, .int .u32 0, .int .i64 0, .int .i64 0, .int .i64 0, .int .u64 0, .int .i64 0, .int .i64 0, .int .u64 0, .slice none 0 0, .bool false, .int .i64 0, .slice none 0 0, .slice none 0 0, .slice none 0 0], .agg #[.int .i64 0, .int .i64 0, .int .i64 0, .int .i64 0, .int .u64 0, .int .u64 0, .int .u64 0, .int .u64 0, .int .u64 0, .int .u64 0, .int .i64 0, .int .u32 0, .int .i64 0, .int .i64 0, .int .i64 0, .int .u64 0, .int .i64 0, .int .i64 0, .int .u64 0, .slice none 0 0, .bool false, .int .i64 0, .slice none 0 0, .slice none 0 0, .slice none 0 0]] w (YesNoK true w) := by
  have h1 := heap_alloc_new w (.cells #[.int .i64 0, .int .i64 0, .int .i64 0, .int .i64 0, .int .u64 0, .int .u64 0, .int .u64 0, .int .u64 0, .int .u64 0, .int .u64 0, .int .i64 0, .int .u32 0, .int .i64 0, .int .i64 0, .int .i64 0, .int .u64 0, .int .i64 0, .int .i64 0, .int .u64 0, .slice none 0 0, .bool false, .int .i64 0, .slice none 0 0, .slice none 0 0, .slice none 0 0] 48 (0, 0))
  have h1' := blkU_alloc h1 (.cells #[.int .i64 0, .int .i64 0, .int .i64 0, .int .i64 0, .int .u64 0, .int .u64 0, .int .u64 0, .int .u64 0, .int .u64 0, .int .u64 0, .int .i64 0, .int .u32 0, .int .i64 0, .int .i64 0, .int .i64 0, .int .u64 0, .int .i64 0, .int .i64 0, .int .u64 0, .slice none 0 0, .bool false, .int .i64 0, .slice none 0 0, .slice none 0 0, .slice none 0 0] 48 (0, 0))
  have h2 := heap_alloc_new (w.alloc (.cells #[.int .i64 0, .int .i64 0, .int .i64 0, .int .i64 0, .int .u64 0, .int .u64 0, .int .u64 0, .int .u64 0, .int .u64 0, .int .u64 0, .int .i64 0, .int .u32 0, .int .i64 0, .int .i64 0, .int .i64 0, .int .u64 0, .int .i64 0, .int .i64 0, .int .u64 0, .slice none 0 0, .bool false, .int .i64 0, .slice none 0 0, .slice none 0 0, .slice none 0 0] 48 (0, 0))) (.cells #[.int .i64 0, .int .i64 0, .int .i64 0, .int .i64 0, .int .u64 0, .int .u64 0, .int .u64 0, .int .u64 0, .int .u64 0, .int .u64 0, .int .i64 0, .int .u32 0, .int .i64 0, .int .i64 0, .int .i64 0, .int .u64 0, .int .i64 0, .int .i64 0, .int .u64 0, .slice none 0 0, .bool false, .int .i64 0, .slice none 0 0, .slice none 0 0, .slice none 0 0] 48 (0, 0))
  rw [show (w.alloc (.cells #[.int .i64 0, .int .i64 0, .int .i64 0, .int .i64 0, .int .u64 0, .int .u64 0, .int .u64 0, .int .u64 0, .int .u64 0, .int .u64 0, .int .i64 0, .int .u32 0, .int .i64 0, .int .i64 0, .int .i64 0, .int .u64 0, .int .i64 0, .int .i64 0, .int .u64 0, .slice none 0 0, .bool false, .int .i64 0, .slice none 0 0, .slice none 0 0, .slice none 0 0] 48 (0, 0))).heap.size = w.heap.size + 1 by simp] at h2
  have hkk := ((Kept.refl NoB w).alloc (.cells #[.int .i64 0, .int .i64 0, .int .i64 0, .int .i64 0, .int .u64 0, .int .u64 0, .int .u64 0, .int .u64 0, .int .u64 0, .int .u64 0, .int .i64 0, .int .u32 0, .int .i64 0, .int .i64 0, .int .i64 0, .int .u64 0, .int .i64 0, .int .i64 0, .int .u64 0, .slice none 0 0, .bool false, .int .i64 0, .slice none 0 0, .slice none 0 0, .slice none 0 0] 48 (0, 0))).alloc (.cells #[.int .i64 0, .int .i64 0, .int .i64 0, .int .i64 0, .int .u64 0, .int .u64 0, .int .u64 0, .int .u64 0, .int .u64 0, .int .u64 0, .int .i64 0, .int .u32 0, .int .i64 0, .int .i64 0, .int .i64 0, .int .u64 0, .int .i64 0, .int .i64 0, .int .u64 0, .slice none 0 0, .bool false, .int .i64 0, .slice none 0 0, .slice none 0 0, .slice none 0 0] 48 (0, 0))
  obtain ⟨W, hW⟩ : ∃ W, W = (w.alloc (.cells #[.int .i64 0, .int .i64 0, .int .i64 0, .int .i64 0, .int .u64 0, .int .u64 0, .int .u64 0, .int .u64 0, .int .u64 0, .int .u64 0, .int .i64 0, .int .u32 0, .int .i64 0, .int .i64 0, .int .i64 0, .int .u64 0, .int .i64 0, .int .i64 0, .int .u64 0, .slice none 0 0, .bool false, .int .i64 0, .slice none 0 0, .slice none 0 0, .slice none 0 0] 48 (0, 0))).alloc (.cells #[.int .i64 0, .int .i64 0, .int .i64 0, .int .i64 0, .int .u64 0, .int .u64 0, .int .u64 0, .int .u64 0, .int .u64 0, .int .u64 0, .int .i64 0, .int .u32 0, .int .i64 0, .int .i64 0, .int .i64 0, .int .u64 0, .int .i64 0, .int .i64 0, .int .u64 0, .slice none 0 0, .bool false, .int .i64 0, .slice none 0 0, .slice none 0 0, .slice none 0 0] 48 (0, 0)) := ⟨_, rfl⟩
  rw [← hW] at h1' h2 hkk
  have HK := Lib.hid hkk
  have HC := Lib.hid (And.intro h1' h2)
  have HW := Lib.hid hW
  have HTEN : Hid (∀ w', Kept NoB W w' → (w'.cell? ⟨w.heap.size, 0, none⟩ = some (.int .i64 0) ∧ w'.cell? ⟨w.heap.size, 1, none⟩ = some (.int .i64 0) ∧ w'.cell? ⟨w.heap.size, 2, none⟩ = some (.int .i64 0) ∧ w'.cell? ⟨w.heap.size, 3, none⟩ = some (.int .i64 0) ∧ w'.cell? ⟨w.heap.size, 4, none⟩ = some (.int .u64 0) ∧ w'.cell? ⟨w.heap.size, 5, none⟩ = some (.int .u64 0) ∧ w'.cell? ⟨w.heap.size, 6, none⟩ = some (.int .u64 0) ∧ w'.cell? ⟨w.heap.size, 7, none⟩ = some (.int .u64 0) ∧ w'.cell? ⟨w.heap.size, 8, none⟩ = some (.int .u64 0) ∧ w'.cell? ⟨w.heap.size, 9, none⟩ = some (.int .u64 0) ∧ w'.cell? ⟨w.heap.size, 10, none⟩ = some (.int .i64 0) ∧ w'.cell? ⟨w.heap.size, 11, none⟩ = some (.int .u32 0) ∧ w'.cell? ⟨w.heap.size, 12, none⟩ = some (.int .i64 0) ∧ w'.cell? ⟨w.heap.size, 13, none⟩ = some (.int .i64 0) ∧ w'.cell? ⟨w.heap.size, 14, none⟩ = some (.int .i64 0) ∧ w'.cell? ⟨w.heap.size, 15, none⟩ = some (.int .u64 0) ∧ w'.cell? ⟨w.heap.size, 16, none⟩ = some (.int .i64 0) ∧ w'.cell? ⟨w.heap.size, 17, none⟩ = some (.int .i64 0) ∧ w'.cell? ⟨w.heap.size, 18, none⟩ = some (.int .u64 0) ∧ w'.cell? ⟨w.heap.size, 19, none⟩ = some (.slice none 0 0) ∧ w'.cell? ⟨w.heap.size, 20, none⟩ = some (.bool false) ∧ w'.cell? ⟨w.heap.size, 21, none⟩ = some (.int .i64 0) ∧ w'.cell? ⟨w.heap.size, 22, none⟩ = some (.slice none 0 0) ∧ w'.cell? ⟨w.heap.size, 23, none⟩ = some (.slice none 0 0) ∧ w'.cell? ⟨w.heap.size, 24, none⟩ = some (.slice none 0 0)) ∧ (w'.cell? ⟨w.heap.size + 1, 0, none⟩ = some (.int .i64 0) ∧ w'.cell? ⟨w.heap.size + 1, 1, none⟩ = some (.int .i64 0) ∧ w'.cell? ⟨w.heap.size + 1, 2, none⟩ = some (.int .i64 0) ∧ w'.cell? ⟨w.heap.size + 1, 3, none⟩ = some (.int .i64 0) ∧ w'.cell? ⟨w.heap.size + 1, 4, none⟩ = some (.int .u64 0) ∧ w'.cell? ⟨w.heap.size + 1, 5, none⟩ = some (.int .u64 0) ∧ w'.cell? ⟨w.heap.size + 1, 6, none⟩ = some (.int .u64 0) ∧ w'.cell? ⟨w.heap.size + 1, 7, none⟩ = some (.int .u64 0) ∧ w'.cell? ⟨w.heap.size + 1, 8, none⟩ = some (.int .u64 0) ∧ w'.cell? ⟨w.heap.size + 1, 9, none⟩ = some (.int .u64 0) ∧ w'.cell? ⟨w.heap.size + 1, 10, none⟩ = some (.int .i64 0) ∧ w'.cell? ⟨w.heap.size + 1, 11, none⟩ = some (.int .u32 0) ∧ w'.cell? ⟨w.heap.size + 1, 12, none⟩ = some (.int .i64 0) ∧ w'.cell? ⟨w.heap.size + 1, 13, none⟩ = some (.int .i64 0) ∧ w'.cell? ⟨w.heap.size + 1, 14, none⟩ = some (.int .i64 0) ∧ w'.cell? ⟨w.heap.size + 1, 15, none⟩ = some (.int .u64 0) ∧ w'.cell? ⟨w.heap.size + 1, 16, none⟩ = some (.int .i64 0) ∧ w'.cell? ⟨w.heap.size + 1, 17, none⟩ = some (.int .i64 0) ∧ w'.cell? ⟨w.heap.size + 1, 18, none⟩ = some (.int .u64 0) ∧ w'.cell? ⟨w.heap.size + 1, 19, none⟩ = some (.slice none 0 0) ∧ w'.cell? ⟨w.heap.size + 1, 20, none⟩ = some (.bool false) ∧ w'.cell? ⟨w.heap.size + 1, 21, none⟩ = some (.int .i64 0) ∧ w'.cell? ⟨w.heap.size + 1, 22, none⟩ = some (.slice none 0 0) ∧ w'.cell? ⟨w.heap.size + 1, 23, none⟩ = some (.slice none 0 0) ∧ w'.cell? ⟨w.heap.size + 1, 24, none⟩ = some (.slice none 0 0))) := Lib.hid (fun w' hk => ⟨cells25 (hk.heap (fun h => h) HC.out.1), cells25 (hk.heap (fun h => h) HC.out.2)⟩)
  clear h1 h1' h2 hkk hW
  go_enter Tryz.func40, Tryz.ntmps40
  go_wp2_with fail
  rw [← HW.out]
  obtain ⟨⟨c0, c1, c2, c3, c4, c5, c6, c7, c8, c9, c10, c11, c12, c13, c14, c15, c16, c17, c18, c19, c20, c21, c22, c23, c24⟩, ⟨d0, d1, d2, d3, d4, d5, d6, d7, d8, d9, d10, d11, d12, d13, d14, d15, d16, d17, d18, d19, d20, d21, d22, d23, d24⟩⟩ := HTEN.out W (Kept.refl _ _)
  go_wp2_with fail
  refine (confSame_zero _).mono ?_
  rintro e w1 ⟨rfl, hk1⟩
  have HK1 := Lib.hid hk1
  clear c0 c1 c2 c3 c4 c5 c6 c7 c8 c9 c10 c11 c12 c13 c14 c15 c16 c17 c18 c19 c20 c21 c22 c23 c24 d0 d1 d2 d3 d4 d5 d6 d7 d8 d9 d10 d11 d12 d13 d14 d15 d16 d17 d18 d19 d20 d21 d22 d23 d24 hk1
  obtain ⟨⟨c0, c1, c2, c3, c4, c5, c6, c7, c8, c9, c10, c11, c12, c13, c14, c15, c16, c17, c18, c19, c20, c21, c22, c23, c24⟩, ⟨d0, d1, d2, d3, d4, d5, d6, d7, d8, d9, d10, d11, d12, d13, d14, d15, d16, d17, d18, d19, d20, d21, d22, d23, d24⟩⟩ := HTEN.out w1 HK1.out
  go_wp2_with fail
  refine (equalVotes_nil _).mono ?_
  rintro e w2 ⟨rfl, hk2⟩
  have HK2 := Lib.hid (HK1.out.trans hk2 (fun _ _ h => h))
  clear c0 c1 c2 c3 c4 c5 c6 c7 c8 c9 c10 c11 c12 c13 c14 c15 c16 c17 c18 c19 c20 c21 c22 c23 c24 d0 d1 d2 d3 d4 d5 d6 d7 d8 d9 d10 d11 d12 d13 d14 d15 d16 d17 d18 d19 d20 d21 d22 d23 d24 hk2
  obtain ⟨⟨c0, c1, c2, c3, c4, c5, c6, c7, c8, c9, c10, c11, c12, c13, c14, c15, c16, c17, c18, c19, c20, c21, c22, c23, c24⟩, ⟨d0, d1, d2, d3, d4, d5, d6, d7, d8, d9, d10, d11, d12, d13, d14, d15, d16, d17, d18, d19, d20, d21, d22, d23, d24⟩⟩ := HTEN.out w2 HK2.out
  go_wp2_with fail
  refine (equalUps_nil _ _).mono ?_
  rintro e w3 ⟨rfl, hk3⟩
  have HK3 := Lib.hid (HK2.out.trans hk3 (fun _ _ h => h))
  clear c0 c1 c2 c3 c4 c5 c6 c7 c8 c9 c10 c11 c12 c13 c14 c15 c16 c17 c18 c19 c20 c21 c22 c23 c24 d0 d1 d2 d3 d4 d5 d6 d7 d8 d9 d10 d11 d12 d13 d14 d15 d16 d17 d18 d19 d20 d21 d22 d23 d24 hk3
  obtain ⟨⟨c0, c1, c2, c3, c4, c5, c6, c7, c8, c9, c10, c11, c12, c13, c14, c15, c16, c17, c18, c19, c20, c21, c22, c23, c24⟩, ⟨d0, d1, d2, d3, d4, d5, d6, d7, d8, d9, d10, d11, d12, d13, d14, d15, d16, d17, d18, d19, d20, d21, d22, d23, d24⟩⟩ := HTEN.out w3 HK3.out
  go_wp2_with fail
  refine (Equal17 (.slice none 0 0) (.slice none 0 0) [] [] NoB NoB w3 (BSl.nil _ _) (BSl.nil _ _)).mono ?_
  rintro e w4 ⟨rfl, hk4⟩
  have HK4 := Lib.hid (HK3.out.trans hk4 (fun _ _ h => h))
  clear c0 c1 c2 c3 c4 c5 c6 c7 c8 c9 c10 c11 c12 c13 c14 c15 c16 c17 c18 c19 c20 c21 c22 c23 c24 d0 d1 d2 d3 d4 d5 d6 d7 d8 d9 d10 d11 d12 d13 d14 d15 d16 d17 d18 d19 d20 d21 d22 d23 d24 hk4
  go_wp2
  go_ret
  exact ⟨rfl, HK.out.trans HK4.out (fun _ _ h => h)⟩
end Go.Proofs.YtclfecninhipnaaGreatDoor
