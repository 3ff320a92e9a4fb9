/-
  Package conf and its answer: may a configuration be.
-/
import Derived.Test.YtajneoaljpljpaaCnfG
namespace Go.Proofs.Ytajneoaljpljpaa
open Go.RowKit
set_option linter.unusedVariables false

set_option maxRecDepth 100000 in
set_option maxHeartbeats 1000000 in
theorem Unlike_any (v : Value) (l : List Int) (F : Nat → Prop) (w : World) (h : NSl w F v l) :
    Calls Try.prog 31 #[v] w (BoolE (unqB l) w) := by
  obtain ⟨a, cap, rfl, _⟩ := id h
  have hl := len_le h
  have hcap := h.len.2.1
  have H := Lib.hid h
  clear h
  obtain ⟨d, hd⟩ : ∃ d, d = unqB l := ⟨_, rfl⟩
  rw [← hd]
  have HD := Lib.hid hd
  clear hd
  go_enter Try.func31, Try.ntmps31
  go_wp2
  go_loopw [3] (fun i wr => ∃ k n : Nat, i = .int .i64 k ∧ k ≤ l.length ∧ Unq (l.take k) ∧ wr = w.drewN n) (fun i _ => l.length - (intOf i).toNat)
  case atStart => exact ⟨0, 0, rfl, Nat.zero_le _, by simpa using unq_nil, rfl⟩
  case round =>
    obtain ⟨k, n, rfl, hk, hu, rfl⟩ := hrel
    have HU := Lib.hid hu
    clear hu
    by_cases hlt : k < l.length
    · obtain ⟨b, o, rfl, _, _, hc⟩ := H.out.at_ hlt
      have HS := Lib.hid (fun (h1 : 1 ≤ l.getD k 0) h2 h3 => unq_step hlt HU.out h1 h2 h3)
      have HB := Lib.hid (unq_bad hlt)
      have HC : Hid (∀ x m, Calls Try.prog 26 #[.slice (some ⟨b, o, none⟩) k cap, .int .i64 x] (w.drewN (n + m)) fun e w' => e = .returned (.bool (decide (x ∈ l.take k))) ∧ ∃ m, w' = w.drewN (n + m)) :=
        Lib.hid (fun x m => (Has4_any _ _ x F (w.drewN (n + m)) ((nsl_take H.out (k := k) (by omega)).kept ((Kept.refl NoB w).drewN _) (fun _ _ _ h => h))).mono (by rintro e w' ⟨rfl, rfl⟩; exact ⟨rfl, m, rfl⟩))
      obtain ⟨y, hy⟩ : ∃ y, y = l.getD k 0 := ⟨_, rfl⟩
      rw [← hy] at hc HS HB
      have hk0 : (0 : Int) ≤ (k : Int) := by omega
      have hk1 : (k : Int) < (l.length : Int) := by omega
      have hk2 : (k : Int) ≤ (cap : Int) := by omega
      clear hy
      by_cases h1 : y < 1
      · have HE := Lib.hid (HB.out (.inl h1))
        have h1' : decide (y < 1) = true := decide_eq_true h1
        clear HC
        go_wp2
        go_quiet (fail)
        go_wp2
        go_ret
        exact ⟨(by rw [HD.out, HE.out] <;> rfl), ((Kept.refl NoB w).drewN _).drewN _⟩
      · have h1' : decide (y < 1) = false := decide_eq_false h1
        by_cases h2 : 24 < y
        · have HE := Lib.hid (HB.out (.inr (.inl h2)))
          have h2' : decide (24 < y) = true := decide_eq_true h2
          clear HC
          go_wp2
          go_quiet (fail)
          go_wp2
          go_ret
          exact ⟨(by rw [HD.out, HE.out] <;> rfl), ((Kept.refl NoB w).drewN _).drewN _⟩
        · have h2' : decide (24 < y) = false := decide_eq_false h2
          by_cases h3 : y ∈ l.take k
          · have HE := Lib.hid (HB.out (.inr (.inr h3)))
            have HCY := Lib.hid (HC.out y)
            rw [decide_eq_true h3] at HCY
            clear HC h1 h2 h3
            go_wp2
            go_quiet ((go_at_call 26; exact HCY.out _))
            go_wp2
            go_ret
            exact ⟨(by rw [HD.out, HE.out] <;> rfl), ((Kept.refl NoB w).drewN _).drewN _⟩
          · have HE := Lib.hid (HS.out (by omega) (by omega) h3)
            have HCY := Lib.hid (HC.out y)
            rw [decide_eq_false h3] at HCY
            clear HC h1 h2 h3
            go_wp2
            go_quiet ((go_at_call 26; exact HCY.out _))
            go_wp2
            go_roundw
            case rel => exact ⟨k + 1, _, by go_num, by omega, HE.out, rfl⟩
            case measure => simp [intOf]; omega
    · obtain rfl : k = l.length := by omega
      go_wp2
      go_ret
      exact ⟨(by rw [HD.out, unq_all HU.out] <;> rfl), (Kept.refl NoB w).drewN _⟩
theorem rgt_is (c : Cf) (d : Bool) (hd : d = unqB c.mem) : rgtB c = decide (0 ≤ c.ch ∧ c.ch ≤ 3 ∧ 1 ≤ c.ep ∧ 1 ≤ c.ns.length ∧ c.ns.length ≤ 5 ∧ (c.fr = true → 2 ≤ c.ns.length ∧ c.jn = 0) ∧ d = true) := by
  subst hd
  unfold rgtB Rgt unqB
  congr 1
  simp
end Go.Proofs.Ytajneoaljpljpaa
