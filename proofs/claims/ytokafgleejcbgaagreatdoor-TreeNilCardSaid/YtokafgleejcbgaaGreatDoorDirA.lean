/-
  Layer 29: what a name is: isNameChar, Name, of the package and the chapter's.
-/
import Derived.Test.YtokafgleejcbgaaGreatDoorRef
import Derived.Laws.RangeAny
import Derived.Laws.RangeString
namespace Go.Proofs.YtokafgleejcbgaaGreatDoor
open Go.RowKit
set_option linter.unusedVariables false

theorem iter_kept29 (w : World) (s : ByteArray) (pos : Nat) : Kept NoB w (w.iter s pos) := (Kept.refl _ _).alloc _
theorem byte_at29 (s : ByteArray) (i : Nat) (h : i < s.size) : s.data.toList[i]? = some (s[i]'h) := by
  have : i < s.data.toList.length := by simpa using h
  rw [List.getElem?_eq_getElem this]
  rfl
theorem toL29 (s : ByteArray) : s.toList = s.data.toList := ByteArray.toList_eq s
theorem len29 (s : ByteArray) : s.data.toList.length = s.size := by simp
/-- A name's character. -/
def ncN (c : Nat) : Prop := (97 ≤ c ∧ c ≤ 122) ∨ (48 ≤ c ∧ c ≤ 57) ∨ c = 46 ∨ c = 95 ∨ c = 45
instance (c : Nat) : Decidable (ncN c) := by unfold ncN; infer_instance
/-- A name. -/
def nmOk (l : List UInt8) : Prop := (1 ≤ l.length ∧ l.length ≤ 11) ∧ l ≠ [46] ∧ l ≠ [46, 46] ∧ ∀ c ∈ l, ncN c.toNat
instance (l : List UInt8) : Decidable (nmOk l) := by unfold nmOk; infer_instance
theorem ret_b29 {a b : Bool} (h : a = b) : Ending.returned (.bool a) = .returned (.bool b) := by rw [h]
set_option maxRecDepth 100000 in
theorem isNC_any (c : Nat) (w : World) : Calls Tryz.prog 76 #[.int .i32 c] w fun e w' => e = .returned (.bool (decide (ncN c))) ∧ w = w' := by
  obtain ⟨r, hr⟩ : ∃ r, r = decide (ncN c) := ⟨_, rfl⟩
  rw [← hr]
  have HR := Lib.hid hr
  clear hr
  by_cases a1 : 97 ≤ c
  · have a1' : (97 : Int) ≤ (c : Int) := by omega
    have d1 : decide ((97 : Int) ≤ (c : Int)) = true := decide_eq_true a1'
    by_cases a2 : c ≤ 122
    · have a2' : (c : Int) ≤ 122 := by omega
      have d2 : decide ((c : Int) ≤ 122) = true := decide_eq_true a2'
      go_enter Tryz.func76, Tryz.ntmps76
      go_wp2
      go_ret
      exact ⟨ret_b29 (by rw [HR.out]; symm; exact decide_eq_true (show ncN c from by unfold ncN; omega)), rfl⟩
    · have a2' : (122 : Int) < (c : Int) := by omega
      have a3' : (48 : Int) ≤ (c : Int) := by omega
      have a4' : (57 : Int) < (c : Int) := by omega
      have d2 : decide ((c : Int) ≤ 122) = false := decide_eq_false (by omega)
      have d3 : decide ((48 : Int) ≤ (c : Int)) = true := decide_eq_true a3'
      have d4 : decide ((c : Int) ≤ 57) = false := decide_eq_false (by omega)
      have b46 : ((c : Int) == 46) = false := by simpa using (by omega : ¬ (c : Int) = 46)
      have b95 : ((c : Int) == 95) = false := by simpa using (by omega : ¬ (c : Int) = 95)
      have b45 : ((c : Int) == 45) = false := by simpa using (by omega : ¬ (c : Int) = 45)
      go_enter Tryz.func76, Tryz.ntmps76
      go_wp2
      go_ret
      exact ⟨ret_b29 (by rw [HR.out]; symm; exact decide_eq_false (show ¬ ncN c from by unfold ncN; omega)), rfl⟩
  · have a1' : (c : Int) < 97 := by omega
    have d1 : decide ((97 : Int) ≤ (c : Int)) = false := decide_eq_false (by omega)
    by_cases a3 : 48 ≤ c
    · have a3' : (48 : Int) ≤ (c : Int) := by omega
      have d3 : decide ((48 : Int) ≤ (c : Int)) = true := decide_eq_true a3'
      by_cases a4 : c ≤ 57
      · have a4' : (c : Int) ≤ 57 := by omega
        have d4 : decide ((c : Int) ≤ 57) = true := decide_eq_true a4'
        go_enter Tryz.func76, Tryz.ntmps76
        go_wp2
        go_ret
        exact ⟨ret_b29 (by rw [HR.out]; symm; exact decide_eq_true (show ncN c from by unfold ncN; omega)), rfl⟩
      · have a4' : (57 : Int) < (c : Int) := by omega
        have d4 : decide ((c : Int) ≤ 57) = false := decide_eq_false (by omega)
        have b46 : ((c : Int) == 46) = false := by simpa using (by omega : ¬ (c : Int) = 46)
        by_cases e95 : c = 95
        · have b95 : ((c : Int) == 95) = true := by simpa using (by omega : (c : Int) = 95)
          go_enter Tryz.func76, Tryz.ntmps76
          go_wp2
          go_ret
          exact ⟨ret_b29 (by rw [HR.out]; symm; exact decide_eq_true (show ncN c from by unfold ncN; omega)), rfl⟩
        · have b95 : ((c : Int) == 95) = false := by simpa using (by omega : ¬ (c : Int) = 95)
          have b45 : ((c : Int) == 45) = false := by simpa using (by omega : ¬ (c : Int) = 45)
          go_enter Tryz.func76, Tryz.ntmps76
          go_wp2
          go_ret
          exact ⟨ret_b29 (by rw [HR.out]; symm; exact decide_eq_false (show ¬ ncN c from by unfold ncN; omega)), rfl⟩
    · have a3' : (c : Int) < 48 := by omega
      have d3 : decide ((48 : Int) ≤ (c : Int)) = false := decide_eq_false (by omega)
      by_cases e46 : c = 46
      · have b46 : ((c : Int) == 46) = true := by simpa using (by omega : (c : Int) = 46)
        go_enter Tryz.func76, Tryz.ntmps76
        go_wp2
        go_ret
        exact ⟨ret_b29 (by rw [HR.out]; symm; exact decide_eq_true (show ncN c from by unfold ncN; omega)), rfl⟩
      · have b46 : ((c : Int) == 46) = false := by simpa using (by omega : ¬ (c : Int) = 46)
        have b95 : ((c : Int) == 95) = false := by simpa using (by omega : ¬ (c : Int) = 95)
        by_cases e45 : c = 45
        · have b45 : ((c : Int) == 45) = true := by simpa using (by omega : (c : Int) = 45)
          go_enter Tryz.func76, Tryz.ntmps76
          go_wp2
          go_ret
          exact ⟨ret_b29 (by rw [HR.out]; symm; exact decide_eq_true (show ncN c from by unfold ncN; omega)), rfl⟩
        · have b45 : ((c : Int) == 45) = false := by simpa using (by omega : ¬ (c : Int) = 45)
          go_enter Tryz.func76, Tryz.ntmps76
          go_wp2
          go_ret
          exact ⟨ret_b29 (by rw [HR.out]; symm; exact decide_eq_false (show ¬ ncN c from by unfold ncN; omega)), rfl⟩
set_option maxRecDepth 100000 in
set_option maxHeartbeats 2000000 in
theorem vName_any (s : ByteArray) (w : World) (hs : s.size ≤ 1000000) : Calls Tryz.prog 59 #[.string s] w fun e w' => e = .returned (.bool (decide (nmOk s.data.toList))) ∧ Kept NoB w w' := by
  obtain ⟨r, hr⟩ : ∃ r, r = decide (nmOk s.data.toList) := ⟨_, rfl⟩
  rw [← hr]
  have HR := Lib.hid hr
  have HL := Lib.hid (len29 s)
  clear hr
  by_cases h1 : s.size = 0
  · have g1 : (s.size : Int) < 1 := by omega
    have g0 : ((s.size : Int) == 0) = true := by simpa using h1
    go_enter Tryz.func59, Tryz.ntmps59
    go_wp2
    go_ret
    exact ⟨ret_b29 (by rw [HR.out]; symm; exact decide_eq_false (fun h => by have h5 := h.1.1; rw [HL.out] at h5; omega)), Kept.refl _ _⟩
  · have g1 : (1 : Int) ≤ (s.size : Int) := by omega
    have g0 : ((s.size : Int) == 0) = false := by simpa using h1
    by_cases h2 : 11 < s.size
    · have g2 : (11 : Int) < (s.size : Int) := by omega
      go_enter Tryz.func59, Tryz.ntmps59
      go_wp2
      go_ret
      exact ⟨ret_b29 (by rw [HR.out]; symm; exact decide_eq_false (fun h => by have h5 := h.1.2; rw [HL.out] at h5; omega)), Kept.refl _ _⟩
    · have g2 : (s.size : Int) ≤ 11 := by omega
      by_cases h3 : s.toList = [46]
      · have g3 : (s.toList == [46]) = true := by simpa using h3
        go_enter Tryz.func59, Tryz.ntmps59
        go_wp2
        go_ret
        exact ⟨ret_b29 (by rw [HR.out]; symm; exact decide_eq_false (fun h => h.2.1 (by rw [← toL29]; exact h3))), Kept.refl _ _⟩
      · have g3 : (s.toList == [46]) = false := by simpa using h3
        by_cases h4 : s.toList = [46, 46]
        · have g4 : (s.toList == [46, 46]) = true := by simpa using h4
          go_enter Tryz.func59, Tryz.ntmps59
          go_wp2
          go_ret
          exact ⟨ret_b29 (by rw [HR.out]; symm; exact decide_eq_false (fun h => h.2.2.1 (by rw [← toL29]; exact h4))), Kept.refl _ _⟩
        · have g4 : (s.toList == [46, 46]) = false := by simpa using h4
          have HOK : Hid ((∀ c ∈ s.data.toList, ncN c.toNat) → nmOk s.data.toList) := Lib.hid (fun h => ⟨by rw [HL.out]; omega, by rw [← toL29]; exact h3, by rw [← toL29]; exact h4, h⟩)
          clear h3 h4
          go_enter Tryz.func59, Tryz.ntmps59
          go_wp2
          go_loopw [4] (fun _ wr => ∃ pos : Nat, pos ≤ s.size ∧ wr = w.iter s pos ∧ ∀ j, j < pos → ∀ c, s.data.toList[j]? = some c → ncN c.toNat) (fun _ wr => s.size - wr.iterPos w.heap.size)
          case atStart => exact ⟨0, Nat.zero_le _, rfl, fun j hj => by omega⟩
          case round =>
            obtain ⟨pos, hps, rfl, hd⟩ := hrel
            have HD := Lib.hid hd
            clear hd
            by_cases hp : pos < s.size
            · have hat := byte_at29 s pos hp
              by_cases h128 : (s[pos]'hp).toNat < 128
              · have hnext : ∀ ty, (Instr.next (.pointer (some ⟨w.heap.size, 0, none⟩)) true ty).run Tryz.prog (w.iter s pos) = _ := fun ty => run_next_ascii w s pos ty hp h128
                obtain ⟨c, hc⟩ : ∃ c, c = s[pos]'hp := ⟨_, rfl⟩
                rw [← hc] at hat hnext h128
                have HA := Lib.hid hat
                have HC := Lib.hid (fun w => isNC_any c.toNat w)
                clear hat hc
                by_cases hdg : ncN c.toNat
                · rw [decide_eq_true hdg] at HC
                  have HDG := Lib.hid hdg
                  clear hdg
                  go_wp2_with (go_at_call 76; refine (HC.out _).mono ?_; rintro e w2 ⟨rfl, rfl⟩)
                  go_roundw
                  case rel => exact ⟨pos + 1, by omega, rfl, fun j hj x hx => by
                    rcases (by omega : j < pos ∨ j = pos) with h | rfl
                    · exact HD.out j h x hx
                    · rw [HA.out] at hx; injection hx with hx; subst hx; exact HDG.out⟩
                  case measure => simp [World.iterPos, World.iter_heap]; omega
                · rw [decide_eq_false hdg] at HC
                  have HDG := Lib.hid hdg
                  clear hdg
                  go_wp2_with (go_at_call 76; refine (HC.out _).mono ?_; rintro e w2 ⟨rfl, rfl⟩)
                  go_ret
                  exact ⟨ret_b29 (by rw [HR.out]; symm; exact decide_eq_false (fun h => HDG.out (h.2.2.2 c (List.mem_of_getElem? HA.out)))), iter_kept29 _ _ _⟩
              · have hnext : ∀ ty, (Instr.next (.pointer (some ⟨w.heap.size, 0, none⟩)) true ty).run Tryz.prog (w.iter s pos) = _ := fun ty => run_next_any w s pos ty hp
                have hh := (decode_high s pos hp (by omega)).1
                have hle := decode_le s pos
                have HNN : Hid (¬ ncN (s[pos]'hp).toNat) := Lib.hid (by unfold ncN; omega)
                have HA := Lib.hid hat
                obtain ⟨r2, hr2⟩ : ∃ r, r = (Utf8.decode s pos).1 := ⟨_, rfl⟩
                obtain ⟨q, hq⟩ : ∃ q, q = (Utf8.decode s pos).2 := ⟨_, rfl⟩
                rw [← hr2, ← hq] at hnext
                rw [← hr2] at hh hle
                have HC := Lib.hid (fun w => isNC_any r2 w)
                rw [decide_eq_false (show ¬ ncN r2 from by unfold ncN; omega)] at HC
                clear hr2 hq hat h128
                go_wp2_with (go_at_call 76; refine (HC.out _).mono ?_; rintro e w2 ⟨rfl, rfl⟩)
                go_ret
                exact ⟨ret_b29 (by rw [HR.out]; symm; exact decide_eq_false (fun h => HNN.out (h.2.2.2 _ (List.mem_of_getElem? HA.out)))), iter_kept29 _ _ _⟩
            · have hnext : ∀ ty, (Instr.next (.pointer (some ⟨w.heap.size, 0, none⟩)) true ty).run Tryz.prog (w.iter s pos) = _ := fun ty => run_next_end w s pos ty hp
              obtain rfl : pos = s.size := by omega
              have HAll : Hid (∀ c ∈ s.data.toList, ncN c.toNat) := Lib.hid (fun c hc => by
                obtain ⟨j, hj, hx⟩ := List.getElem_of_mem hc
                exact HD.out j (by simpa using hj) c (by rw [List.getElem?_eq_getElem hj, hx]))
              clear HD hp hps
              go_wp2
              go_ret
              exact ⟨ret_b29 (by rw [HR.out]; symm; exact decide_eq_true (HOK.out HAll.out)), iter_kept29 _ _ _⟩
end Go.Proofs.YtokafgleejcbgaaGreatDoor
