/-
  Package ballot and its answer: Enough; whether two lists are the same.
-/
import Derived.Test.YtidhaofojcdbaaaBalE
namespace Go.Proofs.Ytidhaofojcdbaaa
open Go.RowKit
set_option linter.unusedVariables false

/-- How many members are at most n. -/
def cnt (s : Nat) (n : Int) : Nat := ((below s 64).filter (fun (i : Nat) => decide ((i : Int) ≤ n))).length
def enough (s : Nat) (n : Int) : Bool := decide (1 ≤ n) && decide (n / 2 + 1 ≤ (cnt s n : Int))
theorem below_cut (s k m : Nat) (n : Int) (hk : k ≤ m) (h1 : (k : Int) ≤ n + 1) (h2 : k = m ∨ (k : Int) = n + 1) : ((below s m).filter (fun (i : Nat) => decide ((i : Int) ≤ n))) = below s k := by
  induction m with
  | zero => obtain rfl : k = 0 := by omega
            rfl
  | succ m ih =>
    by_cases hkm : k = m + 1
    · subst hkm
      apply List.filter_eq_self.2
      intro i hi
      have := (below_mem.1 hi).1
      simp; omega
    · rw [below_succ, List.filter_append, ih (by omega) (by omega)]
      have : ¬ (m : Int) ≤ n := by omega
      cases mem s m <;> simp [this]
theorem cnt_cut {s k : Nat} {n : Int} (hk : k ≤ 64) (h1 : (k : Int) ≤ n + 1) (h2 : k = 64 ∨ (k : Int) = n + 1) : (below s k).length = cnt s n := by
  unfold cnt
  rw [below_cut s k 64 n hk h1 h2]
theorem cnt_le (s : Nat) (n : Int) : cnt s n ≤ 64 := Nat.le_trans (List.length_filter_le _ _) (below_len s 64)
theorem LOwn.form {B : Nat} {w : World} {v : Value} {l : List Nat} (h : LOwn B w v l) : ∃ a c, v = .slice a l.length c ∧ c ≤ maxLen ∧ ∀ i, i < l.length → ∃ g, a = some ⟨g, 0, none⟩ ∧ B ≤ g ∧ g < w.heap.size ∧ w.cell? ⟨g, i, none⟩ = some (.int .i64 ((l.getD i 0 : Nat) : Int)) := by
  rcases h.2 with ⟨hv, hn⟩ | ⟨g, cap, cur, hv, hb, hh, h1, h2, h3, h4⟩
  · exact ⟨none, 0, by rw [hv, hn], by omega, fun i hi => by omega⟩
  · refine ⟨_, cap, hv, h2, fun i hi => ⟨g, rfl, hb, heap_lt hh, ?_⟩⟩
    have := World.ownsRow.cellAt (hv ▸ h : w.ownsRow B 3 1 (.slice (some ⟨g, 0, none⟩) l.length cap) l.length (iv l)) i (by omega)
    rw [this]
    simp [iv, List.getElem?_eq_getElem hi, List.getD_eq_getElem?_getD]
/-- How many of the first k are at most n. -/
def cntTo (l : List Nat) (n : Int) (k : Nat) : Nat := ((l.take k).filter (fun (i : Nat) => decide ((i : Int) ≤ n))).length
theorem cntTo_succ {l : List Nat} {n : Int} {k : Nat} (h : k < l.length) : cntTo l n (k + 1) = cntTo l n k + if ((l.getD k 0 : Nat) : Int) ≤ n then 1 else 0 := by
  unfold cntTo
  rw [List.take_succ_eq_append_getElem h, List.filter_append, List.length_append]
  have e : l.getD k 0 = l[k] := by rw [List.getD_eq_getElem?_getD, List.getElem?_eq_getElem h]; rfl
  rw [e]
  by_cases hd : ((l[k] : Nat) : Int) ≤ n <;> simp [hd]
theorem cntTo_le (l : List Nat) (n : Int) (k : Nat) : cntTo l n k ≤ k := Nat.le_trans (List.length_filter_le _ _) (List.length_take_le _ _)
theorem cntTo_all (s : Nat) (n : Int) : cntTo (below s 64) n (below s 64).length = cnt s n := by unfold cntTo cnt; rw [List.take_length]

theorem bEnough_any (s : Nat) (n : Int) (w : World) (hs : s < 18446744073709551616) (hn : n ≤ 9223372036854775807) : Calls Try.prog 61 #[.int .u64 s, .int .i64 n] w fun e w' => e = .returned (.bool (enough s n)) ∧ Kept NoB w w' := by
  have HL := Lib.hid (bList_any s w hs)
  have hl := below_len s 64
  have HE : Hid (∀ x, x = cntTo (below s 64) n (below s 64).length → enough s n = (decide (1 ≤ n) && decide (n / 2 + 1 ≤ (x : Int)))) := Lib.hid (fun x hx => by rw [hx, cntTo_all]; rfl)
  obtain ⟨l, hl2⟩ : ∃ l, l = below s 64 := ⟨_, rfl⟩
  rw [← hl2] at HL hl HE
  obtain ⟨t, ht⟩ : ∃ t, t = enough s n := ⟨_, rfl⟩
  rw [← ht] at HE ⊢
  clear hl2 ht hs
  go_enter Try.func61, Try.ntmps61
  go_wp2_with fail
  refine HL.out.mono ?_
  rintro e w' ⟨v, rfl, h1, h2⟩
  obtain ⟨a, c, rfl, _, hc⟩ := h1.form
  have HC := Lib.hid hc
  have HK := Lib.hid h2
  clear h1 h2 hc HL
  go_wp2
  go_loop [5, 11] (fun m i => ∃ k : Nat, k ≤ l.length ∧ i = .int .i64 k ∧ m = .int .i64 (cntTo l n k : Nat)) (fun _ i => l.length - (intOf i).toNat)
  case atStart => exact ⟨0, by omega, rfl, rfl⟩
  case round =>
    obtain ⟨k, hk, rfl, rfl⟩ := hrel
    have hkc := cntTo_le l n k
    obtain ⟨m, hm⟩ : ∃ m, m = cntTo l n k := ⟨_, rfl⟩
    rw [← hm] at hkc ⊢
    have HM := Lib.hid hm
    clear hm
    by_cases hlt : k < l.length
    · obtain ⟨g, rfl, _, hg, hcell⟩ := HC.out k hlt
      have HS := Lib.hid (cntTo_succ (n := n) hlt)
      obtain ⟨x, hx⟩ : ∃ x, x = l.getD k 0 := ⟨_, rfl⟩
      rw [← hx] at hcell HS
      clear hx
      by_cases hle : (x : Int) ≤ n
      · have HS' : Hid (cntTo l n (k + 1) = m + 1) := Lib.hid (by rw [HS.out, if_pos hle, ← HM.out])
        go_wp2
        go_round
        case rel => exact ⟨k + 1, by omega, by go_num, by rw [HS'.out]; go_num⟩
        case measure => simp [intOf]; omega
      · have HS' : Hid (cntTo l n (k + 1) = m) := Lib.hid (by rw [HS.out, if_neg hle, ← HM.out]; rfl)
        go_wp2
        go_round
        case rel => exact ⟨k + 1, by omega, by go_num, by rw [HS'.out]⟩
        case measure => simp [intOf]; omega
    · obtain rfl : k = l.length := by omega
      have HE' := Lib.hid (HE.out m HM.out)
      clear HE
      by_cases h1 : n < 1
      · have ht : t = false := by rw [HE'.out]; simp; omega
        clear HE'
        subst ht
        go_wp2
        go_ret
        exact ⟨rfl, HK.out⟩
      · have h1' : 1 ≤ n := by omega
        have HQ := Lib.hid (bQuorum_any n w' hn)
        have ht : Hid (t = decide (n / 2 + 1 ≤ (m : Int))) := Lib.hid (by rw [HE'.out]; simp [h1'])
        have hq : (if n < 1 then (0 : Int) else n / 2 + 1) = n / 2 + 1 := if_neg h1
        rw [hq] at HQ
        clear HE' h1 hq
        go_wp2_with (go_at_call 99; refine HQ.out.mono ?_; rintro e w' ⟨rfl, rfl⟩)
        go_ret
        exact ⟨by rw [ht.out]; rfl, HK.out⟩
end Go.Proofs.Ytidhaofojcdbaaa
