/-
  Package bag: the numbers that go; slices.BinarySearch over them; the function literal of Keep; slices.IndexFunc, slices.DeleteFunc over a bag's items.
-/
import Derived.Test.YteinjmhogkneoaaBagU
import Derived.Deep.MidRow
namespace Go.Proofs.Yteinjmhogkneoaa
open Go.RowKit
set_option linter.unusedVariables false

theorem isNaN_any (x : Int) (w : World) : Calls Try.prog 45 #[.int .i64 x] w fun e w' => e = .returned (.bool false) ∧ w = w' := by
  go_enter Try.func45, Try.ntmps45
  go_wp2
  go_ret
  exact ⟨by simp, rfl⟩
theorem isNaN2_any (x : Int) (w : World) : Calls Try.prog 44 #[.int .i64 x] w fun e w' => e = .returned (.bool false) ∧ w = w' := by
  go_enter Try.func44, Try.ntmps44
  go_wp2
  go_ret
  exact ⟨by simp, rfl⟩
theorem Less_any (x y : Int) (w : World) : Calls Try.prog 43 #[.int .i64 x, .int .i64 y] w fun e w' => e = .returned (.bool (decide (x < y))) ∧ w = w' := by
  go_enter Try.func43, Try.ntmps43
  go_wp2_with (go_at_call 45; refine (isNaN_any x _).mono ?_; rintro e w' ⟨rfl, rfl⟩)
  go_ret
  exact ⟨rfl, rfl⟩

/-- Cells that hold these numbers. -/
def NumsAt (w : World) (a : Option Addr) (gs : List Int) : Prop := 0 < gs.length → ∃ r, a = some ⟨r, 0, none⟩ ∧ ∀ j, j < gs.length → w.cell? ⟨r, j, none⟩ = some (.int .i64 (gs.getD j 0))
def IncN (gs : List Int) : Prop := ∀ i j, i < j → j < gs.length → gs.getD i 0 < gs.getD j 0
theorem mem_of_find {gs : List Int} {x : Int} {r : Nat} (hinc : IncN gs) (hr : r ≤ gs.length) (h1 : ∀ i, i < r → gs.getD i 0 < x) (h2 : ∀ i, r ≤ i → i < gs.length → x ≤ gs.getD i 0) : (x ∈ gs) ↔ (r < gs.length ∧ gs.getD r 0 = x) := by
  constructor
  · intro hx
    obtain ⟨k, hk, he⟩ := List.getElem_of_mem hx
    have he' : gs.getD k 0 = x := by rw [List.getD_eq_getElem?_getD, List.getElem?_eq_getElem hk]; exact he
    have hkr : r ≤ k := by
      rcases Nat.lt_or_ge k r with h | h
      · have := h1 k h; omega
      · exact h
    have hrl : r < gs.length := by omega
    refine ⟨hrl, ?_⟩
    have a1 := h2 r (Nat.le_refl _) hrl
    rcases Nat.lt_or_ge r k with h | h
    · have := hinc r k h hk
      omega
    · obtain rfl : r = k := by omega
      exact he'
  · rintro ⟨hr, he⟩
    rw [← he, List.getD_eq_getElem?_getD, List.getElem?_eq_getElem hr]
    exact List.getElem_mem hr

/-- What BinarySearch leaves: some place; whether the number is there. -/
def BsP (gs : List Int) (x : Int) (w : World) (e : Ending) (w' : World) : Prop := ∃ p : Int, e = .returned (.tuple #[.int .i64 p, .bool (decide (x ∈ gs))]) ∧ w = w'
set_option maxRecDepth 100000 in
theorem BinarySearch_any (a : Option Addr) (c : Nat) (gs : List Int) (x : Int) (w : World) (h : NumsAt w a gs) (hinc : IncN gs) (hl : gs.length ≤ 100000) :
    Calls Try.prog 35 #[.slice a gs.length c, .int .i64 x] w (BsP gs x w) := by
  have HA := Lib.hid h
  have HI := Lib.hid hinc
  clear h hinc
  go_enter Try.func35, Try.ntmps35
  go_wp2
  go_loop [7, 8] (fun i j => ∃ p q : Nat, i = .int .i64 p ∧ j = .int .i64 q ∧ p ≤ q ∧ q ≤ gs.length ∧ (∀ i, i < p → gs.getD i 0 < x) ∧ (∀ i, q ≤ i → i < gs.length → x ≤ gs.getD i 0)) (fun i j => (intOf j).toNat - (intOf i).toNat)
  case atStart => exact ⟨0, gs.length, rfl, rfl, Nat.zero_le _, Nat.le_refl _, fun i h => absurd h (by omega), fun i h1 h2 => absurd h1 (by omega)⟩
  case round =>
    obtain ⟨p, q, rfl, rfl, hpq, hq, hlo, hhi⟩ := hrel
    have HLO := Lib.hid hlo
    have HHI := Lib.hid hhi
    clear hlo hhi
    by_cases hlt : p < q
    · obtain ⟨r, rfl, hc⟩ := HA.out (by omega)
      obtain ⟨h, hh⟩ : ∃ h : Nat, (p + q) / 2 = h := ⟨_, rfl⟩
      have he : ((p : Int) + (q : Int)) / 2 = (h : Int) := by omega
      have he2 : (((p : Int) + (q : Int)) / 2).toNat = h := by omega
      have h1 : p ≤ h := by omega
      have h2 : h < q := by omega
      have h3 : (h : Int) < (gs.length : Int) := by omega
      have e := hc h (by omega)
      obtain ⟨y, hy⟩ : ∃ y, y = gs.getD h 0 := ⟨_, rfl⟩
      rw [← hy] at e
      have HY := Lib.hid hy
      clear hh hc hy
      go_wp2_with fail
      refine (Less_any y x _).mono ?_
      rintro e w' ⟨rfl, rfl⟩
      by_cases hyx : y < x
      · rw [decide_eq_true hyx]
        have HYX := Lib.hid hyx
        clear hyx e
        go_wp2
        refine ⟨⟨h + 1, q, by go_num, rfl, by omega, hq, fun i hi => ?_, HHI.out⟩, by simp [intOf]; omega⟩
        have h0 := HYX.out
        rw [HY.out] at h0
        rcases Nat.lt_or_ge i h with hlt' | hge'
        · have := HI.out i h hlt' (by omega)
          omega
        · obtain rfl : i = h := by omega
          exact h0
      · rw [decide_eq_false hyx]
        have HYX := Lib.hid hyx
        clear hyx e
        go_wp2
        refine ⟨⟨p, h, rfl, rfl, by omega, by omega, HLO.out, fun i hi1 hi2 => ?_⟩, by simp [intOf]; omega⟩
        have h0 := HYX.out
        rw [HY.out] at h0
        rcases Nat.lt_or_ge h i with hlt' | hge'
        · have := HI.out h i hlt' hi2
          omega
        · obtain rfl : i = h := by omega
          omega
    · obtain rfl : p = q := by omega
      have HM := Lib.hid (mem_of_find HI.out hq HLO.out HHI.out)
      by_cases hp : p < gs.length
      · obtain ⟨r, rfl, hc⟩ := HA.out (by omega)
        have e := hc p hp
        obtain ⟨y, hy⟩ : ∃ y, y = gs.getD p 0 := ⟨_, rfl⟩
        rw [← hy] at e
        have HY := Lib.hid hy
        have hp1 : (p : Int) < (gs.length : Int) := by omega
        clear hc hy
        by_cases hyx : y = x
        · have HD := Lib.hid (show decide (x ∈ gs) = true from decide_eq_true (HM.out.2 ⟨hp, by rw [← HY.out]; exact hyx⟩))
          have hd : (y == x) = true := by simpa using hyx
          clear hyx
          go_wp2
          go_ret2
          exact ⟨p, by rw [HD.out]; rfl, rfl⟩
        · have HD := Lib.hid (show decide (x ∈ gs) = false from decide_eq_false (fun h => hyx (by rw [HY.out]; exact (HM.out.1 h).2)))
          have hd : (y == x) = false := by simpa using hyx
          clear hyx
          go_wp2_with (go_at_call 44; refine (isNaN2_any _ _).mono ?_; rintro e w' ⟨rfl, rfl⟩)
          go_ret2
          exact ⟨p, by rw [HD.out]; rfl, rfl⟩
      · have HD := Lib.hid (show decide (x ∈ gs) = false from decide_eq_false (fun h => hp (HM.out.1 h).1))
        have hp1 : decide ((p : Int) < (gs.length : Int)) = false := by simp; omega
        go_wp2
        go_ret2
        exact ⟨p, by rw [HD.out]; rfl, rfl⟩
/-- The numbers that go, as the function literal of Keep has them: in the variable b5. -/
def GnAt (w : World) (b5 : Nat) (gs : List Int) : Prop :=
  ∃ a c, w.heap[b5]? = some (.cells #[.slice a gs.length c] 45 (0, 0)) ∧ w.ownsRow 0 3 1 (.slice a gs.length c) gs.length (gs.map (Value.int .i64))
theorem GnAt.kept {S : Nat → Prop} {w w' : World} {b5 : Nat} {gs : List Int} (h : GnAt w b5 gs) (hk : Kept S w w') (hS : ∀ (k : Nat) (cs : Array Value) (t : TypeId) (fr : Nat × Nat), w.heap[k]? = some (.cells cs t fr) → t ≠ 66 → ¬ S k) : GnAt w' b5 gs := by
  obtain ⟨a, c, h1, h2⟩ := h
  refine ⟨a, c, hk.heap (hS _ _ _ _ h1 (by decide)) h1, row_kept h2 hk (fun k hk => ?_)⟩
  rcases h2.2 with ⟨hv, _⟩ | ⟨r, cap, cur, hv, _, hh, _⟩
  · rw [hv] at hk; cases hk
  · rw [hv] at hk
    injection hk with hk
    subst hk
    exact hS _ _ _ _ hh (by decide)
theorem GnAt.no {w w' : World} {b5 : Nat} {gs : List Int} (h : GnAt w b5 gs) (hk : Kept NoB w w') : GnAt w' b5 gs := h.kept hk (fun _ _ _ _ _ _ h => h)
theorem GnAt.nums {w : World} {a : Option Addr} {c : Nat} {gs : List Int} (h : w.ownsRow 0 3 1 (.slice a gs.length c) gs.length (gs.map (Value.int .i64))) : NumsAt w a gs := by
  intro h0
  obtain ⟨r, cap, hv, _⟩ := h.form h0
  injection hv with hv
  subst hv
  refine ⟨r, rfl, fun j hj => ?_⟩
  rw [h.cellAt j (by omega), List.getElem?_map, List.getElem?_eq_getElem hj, List.getD_eq_getElem?_getD, List.getElem?_eq_getElem hj]
  rfl
set_option maxRecDepth 100000 in
theorem Keep1_any (b5 : Nat) (gs : List Int) (no v : Int) (w : World) (h : GnAt w b5 gs) (hinc : IncN gs) (hl : gs.length ≤ 100000) :
    Calls Try.prog 34 #[.agg #[.int .i64 no, .int .i64 v], .pointer (some ⟨b5, 0, none⟩)] w fun e w' => e = .returned (.bool (decide (no ∈ gs))) ∧ Kept NoB w w' := by
  obtain ⟨a, c, h1, h2⟩ := h.no ((Kept.refl NoB w).alloc (.cells #[.int .i64 no, .int .i64 v] 66))
  have HB := Lib.hid (BinarySearch_any a c gs no _ (GnAt.nums h2) hinc hl)
  have e5' : (w.alloc (.cells #[.int .i64 no, .int .i64 v] 66)).cell? ⟨b5, 0, none⟩ = some (.slice a gs.length c) := cell_of_row _ _ 0 _ _ _ h1
  obtain ⟨d, hd⟩ : ∃ d, d = decide (no ∈ gs) := ⟨_, rfl⟩
  rw [← hd]
  have HDD := Lib.hid hd
  clear h h1 h2 hinc hd
  go_enter Try.func34, Try.ntmps34
  go_wp2_with fail
  refine HB.out.mono ?_
  rintro e w1 ⟨p, rfl, rfl⟩
  rw [← HDD.out]
  go_wp2
  go_ret
  exact ⟨rfl, (Kept.refl _ _).alloc _⟩

/-- What IndexFunc leaves: the first place whose number goes, or -1. -/
def IxP (gs : List Int) (l : List It) (w : World) (e : Ending) (w' : World) : Prop :=
  ∃ r : Int, e = .returned (.int .i64 r) ∧ Kept NoB w w' ∧ ((r = -1 ∧ ∀ i, i < l.length → (nth l i).1 ∉ gs) ∨ (∃ k : Nat, r = k ∧ k < l.length ∧ (∀ i, i < k → (nth l i).1 ∉ gs) ∧ (nth l k).1 ∈ gs))
set_option maxRecDepth 100000 in
theorem IndexFunc_any (B c b5 : Nat) (a : Option Addr) (l : List It) (gs : List Int) (w : World) (hown : w.ownsRow B 66 2 (.slice a l.length c) l.length (cel l)) (hg : GnAt w b5 gs) (hinc : IncN gs) (hl : l.length ≤ 100000) (hgl : gs.length ≤ 100000) :
    Calls Try.prog 42 #[.slice a l.length c, .func (.func 34) #[] #[.pointer (some ⟨b5, 0, none⟩)]] w (IxP gs l w) := by
  have HO := Lib.hid hown
  have HG := Lib.hid hg
  have HI := Lib.hid hinc
  clear hown hg hinc
  go_enter Try.func42, Try.ntmps42
  go_wp2
  go_loopw [8] (fun i wr => ∃ k : Nat, i = .int .i64 k ∧ k ≤ l.length ∧ (∀ i, i < k → (nth l i).1 ∉ gs) ∧ Kept NoB w wr) (fun i _ => l.length - (intOf i).toNat)
  case atStart => exact ⟨0, rfl, Nat.zero_le _, fun i h => absurd h (by omega), Kept.refl _ _⟩
  case round =>
    obtain ⟨k, rfl, hk, hno, hkk⟩ := hrel
    have HNO := Lib.hid hno
    have HK := Lib.hid hkk
    clear hno hkk
    by_cases hlt : k < l.length
    · obtain ⟨r, rfl, _, _, hc, _⟩ := Bg.items HO.out (by omega)
      obtain ⟨e0, e1⟩ := hc k hlt
      have e0 := HK.out.cell (p := ⟨r, k * 2, none⟩) (fun h => h) e0
      have e1 := HK.out.cell (p := ⟨r, k * 2 + 1, none⟩) (fun h => h) e1
      obtain ⟨x, hx⟩ : ∃ x, x = (nth l k).1 := ⟨_, rfl⟩
      obtain ⟨y, hy⟩ : ∃ y, y = (nth l k).2 := ⟨_, rfl⟩
      rw [← hx] at e0
      rw [← hy] at e1
      have HX := Lib.hid hx
      have HC := Lib.hid (Keep1_any b5 gs x y wr (HG.out.no HK.out) HI.out hgl)
      have hk1 : (k : Int) < (l.length : Int) := by omega
      clear hc hx hy
      go_wp2_with fail
      refine HC.out.mono ?_
      rintro e w2 ⟨rfl, hk2⟩
      have HK2 := Lib.hid (HK.out.trans hk2 (fun _ _ h => h))
      clear hk2
      by_cases hm : x ∈ gs
      · rw [decide_eq_true hm]
        have HMM := Lib.hid hm
        clear hm
        go_wp2
        go_ret
        exact ⟨k, rfl, HK2.out, .inr ⟨k, rfl, hlt, HNO.out, by rw [← HX.out]; exact HMM.out⟩⟩
      · rw [decide_eq_false hm]
        have HMM := Lib.hid hm
        clear hm
        go_wp2
        refine ⟨⟨k + 1, by go_num, by omega, fun i hi => ?_, HK2.out⟩, by simp [intOf]; omega⟩
        rcases Nat.lt_or_ge i k with h | h
        · exact HNO.out i h
        · obtain rfl : i = k := by omega
          rw [← HX.out]
          exact HMM.out
    · obtain rfl : k = l.length := by omega
      go_wp2
      go_ret
      exact ⟨-1, rfl, HK.out, .inl ⟨rfl, HNO.out⟩⟩

/-- What stays. -/
def stays (gs : List Int) (l : List It) : List It := l.filter fun x => decide (x.1 ∉ gs)
theorem stays_none {gs : List Int} {l : List It} (h : ∀ i, i < l.length → (nth l i).1 ∉ gs) : stays gs l = l := by
  unfold stays
  rw [List.filter_eq_self]
  intro x hx
  obtain ⟨i, hi, he⟩ := List.getElem_of_mem hx
  have := h i hi
  unfold nth at this
  rw [List.getD_eq_getElem?_getD, List.getElem?_eq_getElem hi] at this
  rw [← he]
  simpa using this
theorem nth_take {l : List It} {i k : Nat} (h : i < k) : nth (l.take k) i = nth l i := by
  unfold nth; rw [List.getD_eq_getElem?_getD, List.getD_eq_getElem?_getD, List.getElem?_take_of_lt h]
theorem stays_take (gs : List Int) (l : List It) (k : Nat) (h : k < l.length) : stays gs (l.take (k + 1)) = stays gs (l.take k) ++ (if (nth l k).1 ∈ gs then [] else [nth l k]) := by
  unfold stays
  rw [List.take_add_one, nth_lt h, List.filter_append]
  by_cases hm : (nth l k).1 ∈ gs
  · simp [hm]
  · simp [hm]
theorem stays_le (gs : List Int) (l : List It) : (stays gs l).length ≤ l.length := List.length_filter_le _ _
end Go.Proofs.Yteinjmhogkneoaa
