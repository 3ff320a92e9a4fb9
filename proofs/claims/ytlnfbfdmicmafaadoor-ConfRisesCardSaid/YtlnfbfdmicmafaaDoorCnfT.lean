/-
  Whether two lists of configurations are the same; what may be, of few.
-/
import Derived.Test.YtlnfbfdmicmafaaDoorCnfS
namespace Go.Proofs.YtlnfbfdmicmafaaDoor
open Go.RowKit
set_option linter.unusedVariables false

set_option maxRecDepth 100000 in
set_option maxHeartbeats 1000000 in
theorem SameAll_any (v u : Value) (l m : List Cf) (F G : Nat → Prop) (w : World) (hv : CfsAt w F v l) (hu : CfsAt w G u m) : Calls Tryd.prog 20 #[v, u] w (BoolE (decide (l = m)) w) := by
  obtain ⟨a, ca, rfl, _⟩ := id hv
  obtain ⟨b, cb, rfl, _⟩ := id hu
  have h1 : l.length ≤ 9223372036854775807 := by have := hv.len; unfold maxLen at this; omega
  have h2 : m.length ≤ 9223372036854775807 := by have := hu.len; unfold maxLen at this; omega
  have HV := Lib.hid hv
  have HU := Lib.hid hu
  clear hv hu
  by_cases hl : l.length = m.length
  · have HL := Lib.hid hl
    obtain ⟨n, hn⟩ : ∃ n, n = m.length := ⟨_, rfl⟩
    have hln : l.length = n := by omega
    have HN := Lib.hid hn
    have HLN := Lib.hid hln
    rw [← hn] at h2 ⊢
    rw [hln]
    rw [← hn] at HU
    rw [hln] at HV
    clear hl hn hln
    go_enter Tryd.func20, Tryd.ntmps20
    go_wp2
    go_loopw [5] (fun i wr => ∃ k : Nat, i = .int .i64 k ∧ k ≤ n ∧ (∀ j, j < k → nthC l j = nthC m j) ∧ Kept NoB w wr) (fun i _ => n - (intOf i).toNat)
    case atStart => exact ⟨0, rfl, Nat.zero_le _, fun j h => absurd h (by omega), Kept.refl _ _⟩
    case round =>
      obtain ⟨k, rfl, hk, hno, hkk⟩ := hrel
      have HNO := Lib.hid hno
      have HK := Lib.hid hkk
      clear hno hkk
      by_cases hlt : k < n
      · obtain ⟨b1, o1, rfl, _, _, x, e0, e1, e2, e3, e4, hn1, hp1⟩ := (HV.out.kept HK.out (fun _ _ _ h => h)).at_ (j := k) (by have := HLN.out; omega)
        obtain ⟨b2, o2, rfl, _, _, y, f0, f1, f2, f3, f4, hn2, hp2⟩ := (HU.out.kept HK.out (fun _ _ _ h => h)).at_ (j := k) (by have := HN.out; omega)
        have hc1 := cf_eta _ _ _ _ hn1 hp1
        have hc2 := cf_eta _ _ _ _ hn2 hp2
        obtain ⟨xa, xc, rfl, _⟩ := id hn1
        obtain ⟨ya, yc, rfl, _⟩ := id hn2
        obtain ⟨s, hs⟩ : ∃ s, s = sameC (nthC l k) (nthC m k) := ⟨_, rfl⟩
        have HE : Hid (∀ w', Kept NoB wr w' → _) := Lib.hid (fun w' hk => hs ▸ RSame_any _ _ _ _ F G w' (hc1.kept hk (fun _ _ _ h => h)) (hc2.kept hk (fun _ _ _ h => h)))
        have HS := Lib.hid hs
        clear hs hc1 hc2 hn1 hn2 hp1 hp2
        obtain ⟨p, hp⟩ : ∃ p, p = nthC l k := ⟨_, rfl⟩
        obtain ⟨q, hq⟩ : ∃ q, q = nthC m k := ⟨_, rfl⟩
        rw [← hp] at e0 e1 e2 e3 e4
        rw [← hq] at f0 f1 f2 f3 f4
        rw [← hp, ← hq] at HE HS
        have HP := Lib.hid hp
        have HQ := Lib.hid hq
        clear hp hq
        have hk0 : (0 : Int) ≤ (k : Int) := by omega
        have hk1 : (k : Int) < (n : Int) := by omega
        have HKc := Lib.hid (Kept.refl NoB wr)
        go_wp2_with fail
        go_region_held3 (fun w' => w'.cell? ⟨b1, o1 + k * 5, none⟩ = some (.int .i64 p.ch) ∧ w'.cell? ⟨b1, o1 + k * 5 + 1, none⟩ = some (.int .u64 p.ep) ∧ w'.cell? ⟨b1, o1 + k * 5 + 2, none⟩ = some (.slice xa p.ns.length xc) ∧ w'.cell? ⟨b1, o1 + k * 5 + 3, none⟩ = some (.bool p.fr) ∧ w'.cell? ⟨b1, o1 + k * 5 + 4, none⟩ = some (.int .i64 p.jn) ∧
            w'.cell? ⟨b2, o2 + k * 5, none⟩ = some (.int .i64 q.ch) ∧ w'.cell? ⟨b2, o2 + k * 5 + 1, none⟩ = some (.int .u64 q.ep) ∧ w'.cell? ⟨b2, o2 + k * 5 + 2, none⟩ = some (.slice ya q.ns.length yc) ∧ w'.cell? ⟨b2, o2 + k * 5 + 3, none⟩ = some (.bool q.fr) ∧ w'.cell? ⟨b2, o2 + k * 5 + 4, none⟩ = some (.int .i64 q.jn))
          (first
            | exact ⟨cell_drew e0, cell_drew e1, cell_drew e2, cell_drew e3, cell_drew e4, cell_drew f0, cell_drew f1, cell_drew f2, cell_drew f3, cell_drew f4⟩
            | exact ⟨HKc.out.cell (p := ⟨b1, o1 + k * 5, none⟩) (fun h => h) e0, HKc.out.cell (p := ⟨b1, o1 + k * 5 + 1, none⟩) (fun h => h) e1, HKc.out.cell (p := ⟨b1, o1 + k * 5 + 2, none⟩) (fun h => h) e2, HKc.out.cell (p := ⟨b1, o1 + k * 5 + 3, none⟩) (fun h => h) e3, HKc.out.cell (p := ⟨b1, o1 + k * 5 + 4, none⟩) (fun h => h) e4, HKc.out.cell (p := ⟨b2, o2 + k * 5, none⟩) (fun h => h) f0, HKc.out.cell (p := ⟨b2, o2 + k * 5 + 1, none⟩) (fun h => h) f1, HKc.out.cell (p := ⟨b2, o2 + k * 5 + 2, none⟩) (fun h => h) f2, HKc.out.cell (p := ⟨b2, o2 + k * 5 + 3, none⟩) (fun h => h) f3, HKc.out.cell (p := ⟨b2, o2 + k * 5 + 4, none⟩) (fun h => h) f4⟩
            | go_keep)
          ((go_at_call 23; refine (HE.out _ (Kept.refl NoB wr).drew).mono ?_; rintro e w1 ⟨rfl, hk1⟩; replace HKc := Lib.hid (HKc.out.drew.trans hk1 (fun _ _ h => h)); clear hk1))
        all_goals
          have HKF := Lib.hid (HK.out.trans HKc.out (fun _ _ h => h))
          have hnot : ∀ (x : Bool) (w : World), (Op.unary .not (.bool x)).run Tryd.prog w = .ok (.bool (!x)) w := fun _ _ => rfl
          cases s with
          | true =>
            have hpq : p = q := by have := HS.out; unfold sameC at this; simpa using this.symm
            have HPQ := Lib.hid hpq
            clear hpq
            go_wp2
            go_roundw
            case rel => exact ⟨k + 1, by go_num, by omega, fun j hj => by
              rcases Nat.lt_or_ge j k with h | h
              · exact HNO.out j h
              · obtain rfl : j = k := by omega
                rw [← HP.out, ← HQ.out, HPQ.out], HKF.out⟩
            case measure => simp [intOf]; omega
          | false =>
            have hpq : ¬ p = q := by have := HS.out; unfold sameC at this; simpa using this.symm
            have HPQ := Lib.hid hpq
            clear hpq
            go_wp2
            go_ret
            exact ⟨(by rw [decide_eq_false (fun h => HPQ.out (by rw [HP.out, HQ.out, h]))] <;> rfl), HKF.out⟩
      · obtain rfl : k = n := by omega
        go_wp2
        go_ret
        exact ⟨(by rw [decide_eq_true (nthC_ext HL.out (fun j hj => HNO.out j (by rw [HLN.out] at hj; exact hj)))] <;> rfl), HK.out⟩
  · have hb : ((l.length : Int) != (m.length : Int)) = true := by simp; omega
    have HE : Hid (decide (l = m) = false) := Lib.hid (decide_eq_false (fun h => hl (by rw [h])))
    clear hl
    go_enter Tryd.func20, Tryd.ntmps20
    go_wp2
    go_ret
    exact ⟨(by rw [HE.out] <;> rfl), Kept.refl _ _⟩
end Go.Proofs.YtlnfbfdmicmafaaDoor
