/-
  Package bag: what is odd; refused; sort.Search; Upto.
-/
import Derived.Test.YteinjmhogkneoaaBagC
import Derived.Recover
import Derived.Defers
import Derived.LoopTactic
import Derived.Laws.BitsAllLaws
namespace Go.Proofs.Yteinjmhogkneoaa
open Go.RowKit
set_option linter.unusedVariables false

def oddB (v : Int) : Bool := v.tmod 2 != 0
theorem odd_any (no v : Int) (w : World) : Calls Try.prog 16 #[.int .i64 no, .int .i64 v] w fun e w' => e = .returned (.bool (oddB v)) ∧ w = w' := by
  go_enter Try.func16, Try.ntmps16
  go_wp2
  go_ret
  exact ⟨rfl, rfl⟩
theorem caught6 (w : World) :
    CallsD Try.prog 41 #[] .returning w fun e u' w' => e = .returned (.tuple #[]) ∧ u' = .returning ∧ w' = w := by
  refine callsD_of_wpS Try.func41 rfl fun c₀ cs hu => ?_
  apply wpS_region
  simp [wpOpsS, go_sem, recoverD, hu, Try.ntmps41, bodyPostS, results, Try.results41]
  cases c₀
  simp_all
set_option maxRecDepth 100000 in
theorem refused_any (no v : Int) (w : World) : Calls Try.prog 32 #[.func (.func 16) #[] #[], .int .i64 no, .int .i64 v] w fun e w' => e = .returned (.bool (!oddB v)) ∧ w' = w := by
  have hnot : ∀ (x : Bool) (w : World), (Op.unary .not (.bool x)).run Try.prog w = .ok (.bool (!x)) w := fun _ _ => rfl
  have HO := Lib.hid (odd_any no v w)
  obtain ⟨b, hb⟩ : ∃ b, b = oddB v := ⟨_, rfl⟩
  rw [← hb] at HO ⊢
  clear hb
  go_enter_defers Try.func32, Try.ntmps32
  go_wp2_with fail
  refine HO.out.mono ?_
  rintro e w1 ⟨rfl, rfl⟩
  go_wp2
  refine leaves_cons (f := 41) (args := #[]) (by simp) (by simp [go_sem]) ?_
  refine (caught6 _).mono ?_
  rintro e u' w'' ⟨rfl, rfl, rfl⟩
  simp [Leaves, settle, results, Try.results32]

/-- sort.Search over a function literal of two captured variables that only reads. -/
theorem Search_any (g x y n : Nat) (p : Nat → Bool) (w : World) (hn : n ≤ 100000)
    (hf : ∀ (i q : Nat), i < n → Calls Try.prog 38 #[.int .i64 i, .pointer (some ⟨x, 0, none⟩), .pointer (some ⟨y, 0, none⟩)] (w.drewN q) fun e w' => e = .returned (.bool (p i)) ∧ ∃ q', w' = w.drewN q')
    (hm : ∀ a b, a ≤ b → b < n → p a = true → p b = true) :
    Calls Try.prog 37 #[.int .i64 n, .func (.func 38) #[] #[.pointer (some ⟨x, 0, none⟩), .pointer (some ⟨y, 0, none⟩)]] w fun e w' =>
      ∃ r q : Nat, e = .returned (.int .i64 r) ∧ r ≤ n ∧ (∀ i, i < r → p i = false) ∧ (∀ i, r ≤ i → i < n → p i = true) ∧ w' = w.drewN q := by
  have HF := Lib.hid hf
  have HM := Lib.hid hm
  clear hf hm
  go_enter Try.func37, Try.ntmps37
  go_wp2
  go_loopw [5, 6] (fun i j wr => ∃ a b q : Nat, i = .int .i64 a ∧ j = .int .i64 b ∧ a ≤ b ∧ b ≤ n ∧ (∀ i, i < a → p i = false) ∧ (∀ i, b ≤ i → i < n → p i = true) ∧ wr = w.drewN q) (fun i j _ => (intOf j).toNat - (intOf i).toNat)
  case atStart => exact ⟨0, n, 0, rfl, rfl, Nat.zero_le _, Nat.le_refl _, fun i h => absurd h (by omega), fun i h1 h2 => absurd h1 (by omega), rfl⟩
  case round =>
    obtain ⟨a, b, q, rfl, rfl, hab, hbn, hlo, hhi, rfl⟩ := hrel
    have HLO := Lib.hid hlo
    have HHI := Lib.hid hhi
    clear hlo hhi
    by_cases hlt : a < b
    · go_wp2_with fail
      obtain ⟨h, hh⟩ : ∃ h : Nat, (a + b) / 2 = h := ⟨_, rfl⟩
      have he : ((a : Int) + (b : Int)) / 2 = (h : Int) := by omega
      have h1 : a ≤ h := by omega
      have h2 : h < b := by omega
      rw [he]
      have HH := Lib.hid hh
      clear hh he
      refine (HF.out h q (by omega)).mono ?_
      rintro e w' ⟨rfl, q', rfl⟩
      obtain ⟨pb, hpb⟩ : ∃ pb, pb = p h := ⟨_, rfl⟩
      rw [← hpb]
      have HP := Lib.hid hpb
      clear hpb
      have hnot : ∀ (x : Bool) (w : World), (Op.unary .not (.bool x)).run Try.prog w = .ok (.bool (!x)) w := fun _ _ => rfl
      cases pb
      · go_wp2
        refine ⟨⟨h + 1, b, q', by go_num, rfl, by omega, hbn, fun i hi => ?_, HHI.out, rfl⟩, by simp [intOf]; omega⟩
        cases hpi : p i with
        | false => rfl
        | true => exact absurd (HM.out i h (by omega) (by omega) hpi) (by rw [← HP.out]; decide)
      · go_wp2
        refine ⟨⟨a, h, q', rfl, rfl, by omega, by omega, HLO.out, fun i hi1 hi2 => HM.out h i hi1 hi2 HP.out.symm, rfl⟩, by simp [intOf]; omega⟩
    · obtain rfl : a = b := by omega
      go_wp2
      go_ret
      exact ⟨a, q, rfl, hbn, HLO.out, HHI.out, rfl⟩

/-- Numbers rise with the places; the least is at least 1, the greatest at most la. -/
def Inc (la : Int) (l : List It) : Prop := (∀ i j, i < j → j < l.length → (nth l i).1 < (nth l j).1) ∧ ∀ i, i < l.length → 1 ≤ (nth l i).1 ∧ (nth l i).1 ≤ la
theorem nth_app_lt {l m : List It} {i : Nat} (h : i < l.length) : nth (l ++ m) i = nth l i := by
  unfold nth; rw [List.getD_eq_getElem?_getD, List.getD_eq_getElem?_getD, List.getElem?_append_left h]
theorem nth_app_self (l : List It) (x : It) : nth (l ++ [x]) l.length = x := by
  unfold nth; rw [List.getD_eq_getElem?_getD, List.getElem?_append_right (Nat.le_refl _)]; simp
theorem Inc.nil : Inc 0 [] := ⟨fun i j _ h => absurd h (by simp), fun i h => absurd h (by simp)⟩
theorem Inc.put {la : Int} {l : List It} (h : Inc la l) (h0 : 0 ≤ la) (v : Int) : Inc (la + 1) (l ++ [(la + 1, v)]) := by
  refine ⟨fun i j hij hj => ?_, fun i hi => ?_⟩
  · rw [List.length_append] at hj
    simp at hj
    by_cases hj' : j < l.length
    · rw [nth_app_lt (by omega), nth_app_lt hj']
      exact h.1 i j hij hj'
    · obtain rfl : j = l.length := by omega
      rw [nth_app_lt (by omega), nth_app_self]
      have := (h.2 i (by omega)).2
      show (nth l i).1 < la + 1
      omega
  · rw [List.length_append] at hi
    simp at hi
    by_cases hi' : i < l.length
    · rw [nth_app_lt hi']
      have := h.2 i hi'
      omega
    · obtain rfl : i = l.length := by omega
      rw [nth_app_self]
      exact ⟨by show 1 ≤ la + 1; omega, Int.le_refl _⟩
/-- What is chosen of a rising row rises. -/
theorem Inc.sub {la : Int} {l m : List It} (h : Inc la l) (hs : m.Sublist l) : Inc la m := by
  have hp : l.Pairwise (fun a b => a.1 < b.1) := by
    rw [List.pairwise_iff_getElem]
    intro i j hi hj hij
    have := h.1 i j hij hj
    unfold nth at this
    rwa [List.getD_eq_getElem?_getD, List.getD_eq_getElem?_getD, List.getElem?_eq_getElem hi, List.getElem?_eq_getElem hj] at this
  have hpm := hp.sublist hs
  rw [List.pairwise_iff_getElem] at hpm
  refine ⟨fun i j hij hj => ?_, fun i hi => ?_⟩
  · have := hpm i j (by omega) hj hij
    unfold nth
    rwa [List.getD_eq_getElem?_getD, List.getD_eq_getElem?_getD, List.getElem?_eq_getElem (by omega), List.getElem?_eq_getElem hj]
  · have hmem : nth m i ∈ l := hs.subset (List.mem_of_getElem? (nth_lt hi))
    obtain ⟨k, hk, he⟩ := List.getElem_of_mem hmem
    have := h.2 k hk
    unfold nth at this he ⊢
    rw [List.getD_eq_getElem?_getD, List.getElem?_eq_getElem hk] at this
    rw [← he]
    exact this
/-- How many have a number of at most no. -/
def upto (l : List It) (no : Int) : Nat := (l.filter fun x => decide (x.1 ≤ no)).length
theorem upto_of {l : List It} {no : Int} {r : Nat} (hr : r ≤ l.length) (h1 : ∀ i, i < r → (nth l i).1 ≤ no) (h2 : ∀ i, r ≤ i → i < l.length → no < (nth l i).1) : upto l no = r := by
  induction l generalizing r with
  | nil => simp at hr; subst hr; rfl
  | cons x l ih =>
    unfold upto at ih ⊢
    cases r with
    | zero =>
      have hx := h2 0 (Nat.le_refl _) (by simp)
      have hx : no < x.1 := hx
      rw [List.filter_cons_of_neg (by simp; omega)]
      exact ih (Nat.zero_le _) (fun i h => absurd h (by omega)) (fun i _ hi => h2 (i + 1) (Nat.zero_le _) (by simp; omega))
    | succ r =>
      have hx := h1 0 (by omega)
      have hx : x.1 ≤ no := hx
      rw [List.filter_cons_of_pos (by simpa using hx), List.length_cons, ih (by simp at hr; omega) (fun i hi => h1 (i + 1) (by omega)) (fun i hi1 hi2 => h2 (i + 1) (by omega) (by simp; omega))]

set_option maxRecDepth 100000 in
theorem Upto1_any (B g x y : Nat) (row : Option Nat) (most last : Int) (l : List It) (no : Int) (i q : Nat) (w : World) (h : Bg B w g row most last l) (hi : i < l.length) (hx : w.cell? ⟨x, 0, none⟩ = some (.pointer (some ⟨g, 0, none⟩))) (hy : w.cell? ⟨y, 0, none⟩ = some (.int .i64 no)) :
    Calls Try.prog 38 #[.int .i64 i, .pointer (some ⟨x, 0, none⟩), .pointer (some ⟨y, 0, none⟩)] (w.drewN q) fun e w' => e = .returned (.bool (decide (no < (nth l i).1))) ∧ ∃ q', w' = w.drewN q' := by
  obtain ⟨a, c, c0, _, _, _, hown, _⟩ := h.cells
  obtain ⟨r, rfl, _, _, hc, _⟩ := Bg.items hown (by omega)
  obtain ⟨e0, _⟩ := hc i hi
  obtain ⟨n, hn⟩ : ∃ n, n = (nth l i).1 := ⟨_, rfl⟩
  rw [← hn] at e0 ⊢
  have hi1 : (i : Int) < (l.length : Int) := by omega
  have hx' : (w.drewN q).cell? ⟨x, 0, none⟩ = some (.pointer (some ⟨g, 0, none⟩)) := hx
  have hy' : (w.drewN q).cell? ⟨y, 0, none⟩ = some (.int .i64 no) := hy
  have c0' : (w.drewN q).cell? ⟨g, 0, none⟩ = some (.slice (some ⟨r, 0, none⟩) l.length c) := c0
  have e0' : (w.drewN q).cell? ⟨r, i * 2, none⟩ = some (.int .i64 n) := e0
  obtain ⟨W, hW⟩ : ∃ W, W = w.drewN q := ⟨_, rfl⟩
  rw [← hW] at hx' hy' c0' e0' ⊢
  have HW := Lib.hid hW
  clear h hown hc hn hx hy c0 e0 hW
  go_enter Try.func38, Try.ntmps38
  go_wp2
  go_quiet (fail)
  go_wp2
  go_ret
  exact ⟨rfl, q + nq, by rw [HW.out]; simp [World.drewN, Nat.add_assoc]⟩
set_option maxRecDepth 100000 in
theorem Upto_any (B g : Nat) (row : Option Nat) (most last la : Int) (l : List It) (no : Int) (w : World) (h : Bg B w g row most last l) (hinc : Inc la l) (hl : l.length ≤ 100000) :
    Calls Try.prog 19 #[.pointer (some ⟨g, 0, none⟩), .int .i64 no] w fun e w' => e = .returned (.int .i64 (upto l no)) ∧ Kept NoB w w' := by
  have hmf : ∀ (fn : Fn) (first cap : Array Value) (w : World), (Instr.makeFunc fn first cap).run Try.prog w = .ok (.func fn first cap) w := fun _ _ _ _ => rfl
  have hB2 := (h.alloc (.cells #[.pointer (some ⟨g, 0, none⟩)] 23)).alloc (.cells #[.int .i64 no] 3)
  have hx := blk_alloc (heap_alloc_new w (.cells #[.pointer (some ⟨g, 0, none⟩)] 23)) (.cells #[.int .i64 no] 3)
  have hy := heap_alloc_new (w.alloc (.cells #[.pointer (some ⟨g, 0, none⟩)] 23)) (.cells #[.int .i64 no] 3)
  rw [show (w.alloc (.cells #[.pointer (some ⟨g, 0, none⟩)] 23)).heap.size = w.heap.size + 1 by simp] at hy
  have HS := Lib.hid (Search_any g w.heap.size (w.heap.size + 1) l.length (fun i => decide (no < (nth l i).1)) _ hl
    (fun i q hi => Upto1_any B g w.heap.size (w.heap.size + 1) row most last l no i q _ hB2 hi (cell_of_row _ _ 0 _ _ _ hx) (cell_of_row _ _ 0 _ _ _ hy))
    (fun a b hab hb hp => by
      simp only [decide_eq_true_eq] at hp ⊢
      rcases Nat.lt_or_ge a b with hlt | hge
      · have := hinc.1 a b hlt hb
        omega
      · obtain rfl : a = b := by omega
        exact hp))
  have HL := Lib.hid (Len_any B g row most last l _ hB2)
  have HK := Lib.hid (((Kept.refl NoB w).alloc (.cells #[.pointer (some ⟨g, 0, none⟩)] 23)).alloc (.cells #[.int .i64 no] 3))
  clear h hB2 hx hy hinc
  go_enter Try.func19, Try.ntmps19
  go_wp2_with fail
  refine HL.out.mono ?_
  rintro e w1 ⟨rfl, rfl⟩
  go_wp2_with fail
  refine HS.out.mono ?_
  rintro e w1 ⟨r, q, rfl, hr, h1, h2, rfl⟩
  have hu : upto l no = r := upto_of hr (fun i hi => by have := h1 i hi; simp only [decide_eq_false_iff_not] at this; omega) (fun i hi1 hi2 => by have := h2 i hi1 hi2; simpa using this)
  have HU := Lib.hid hu
  clear h1 h2 hu
  go_wp2
  go_ret
  rw [HU.out]
  exact ⟨rfl, HK.out.drewN q⟩
end Go.Proofs.Yteinjmhogkneoaa
