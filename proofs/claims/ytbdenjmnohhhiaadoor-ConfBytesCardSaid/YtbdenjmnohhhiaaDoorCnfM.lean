/-
  Package conf: All.
-/
import Derived.Test.YtbdenjmnohhhiaaDoorCnfL
namespace Go.Proofs.YtbdenjmnohhhiaaDoor
open Go.RowKit
set_option linter.unusedVariables false

theorem balloc {w : World} {g : Nat} {o : Obj} (h : w.heap[g]? = some o) (x : Obj) : (w.alloc x).heap[g]? = some o := (heap_alloc_old w x (heap_lt h)).trans h
theorem ent_all1 : Enters 70 := fun args w => by kernel_rfl
theorem All1_any (v : Value) (l : List Cf) (x : Int) (k gl gi : Nat) (F : Nat → Prop) (w : World) (h : CfsAt w F v l) (hk : k ≤ l.length) (hgl : w.cell? ⟨gl, 0, none⟩ = some v) (hgi : w.cell? ⟨gi, 0, none⟩ = some (.int .i64 k)) :
    Calls Tryd.prog 70 #[.int .i64 x, .pointer (some ⟨gl, 0, none⟩), .pointer (some ⟨gi, 0, none⟩)] w (BoolE (usedB (l.take k) x) w) := by
  obtain ⟨a, cap, rfl, hc, _⟩ := id h
  have hl : l.length ≤ 9223372036854775807 := by have := h.len; unfold maxLen at this; omega
  have HU := Lib.hid (Used_any _ _ x F w (cfs_take h hk))
  have hk2 : (k : Int) ≤ (cap : Int) := by omega
  obtain ⟨d, hd⟩ : ∃ d, d = usedB (l.take k) x := ⟨_, rfl⟩
  rw [← hd] at HU ⊢
  clear h hd
  go_enter Tryd.func70, Tryd.ntmps70
  go_wp2_with fail
  refine HU.out.mono ?_
  rintro e w1 ⟨rfl, hk⟩
  have HK := Lib.hid hk
  clear hk
  go_wp2
  go_ret
  exact ⟨rfl, HK.out⟩
set_option maxRecDepth 100000 in
set_option maxHeartbeats 1000000 in
theorem All_any (v : Value) (l : List Cf) (F : Nat → Prop) (w : World) (h : CfsAt w F v l) : Calls Tryd.prog 55 #[v] w (BoolE (allB l) w) := by
  obtain ⟨a, cap, rfl, _⟩ := id h
  have hl : l.length ≤ 9223372036854775807 := by have := h.len; unfold maxLen at this; omega
  have HL := Lib.hid (@all_len l)
  obtain ⟨d, hd⟩ : ∃ d, d = allB l := ⟨_, rfl⟩
  rw [← hd] at HL ⊢
  have HD := Lib.hid hd
  have H := Lib.hid h
  have HB := Lib.hid (heap_alloc_new w (.cells #[.slice a l.length cap] 28))
  clear h hd
  by_cases h1 : l.length < 1
  · have HE := Lib.hid (HL.out (.inl h1))
    have h1' : decide ((l.length : Int) < 1) = true := decide_eq_true (by omega)
    have h0 : (l.length : Int) = 0 := by omega
    clear HL h0
    go_enter Tryd.func55, Tryd.ntmps55
    go_wp2
    go_ret
    exact ⟨(by rw [HE.out] <;> rfl), (Kept.refl _ _).alloc _⟩
  · by_cases h4 : 4 < l.length
    · have HE := Lib.hid (HL.out (.inr h4))
      have h1' : decide ((l.length : Int) < 1) = false := decide_eq_false (by omega)
      have h4' : decide (4 < (l.length : Int)) = true := decide_eq_true (by omega)
      clear HL
      go_enter Tryd.func55, Tryd.ntmps55
      go_wp2
      go_ret
      exact ⟨(by rw [HE.out] <;> rfl), (Kept.refl _ _).alloc _⟩
    · have h1' : decide ((l.length : Int) < 1) = false := decide_eq_false (by omega)
      have h4' : decide (4 < (l.length : Int)) = false := decide_eq_false (by omega)
      have hL1 : 1 ≤ l.length := by omega
      have hL4 : l.length ≤ 4 := by omega
      have HK0 := Lib.hid ((Kept.refl NoB w).alloc (.cells #[.slice a l.length cap] 28))
      have hsz : w.heap.size < (w.alloc (.cells #[.slice a l.length cap] 28)).heap.size := by simp
      clear HL h1 h4
      go_enter Tryd.func55, Tryd.ntmps55
      go_wp2_with fail
      go_loopw [3, 4, 5, 16] (fun _ _ _ i wr => ∃ k : Nat, i = .int .i64 k ∧ k ≤ l.length ∧ (∀ j, j < k → OneOk l j) ∧ Kept NoB w wr ∧ wr.heap[w.heap.size]? = some (.cells #[.slice a l.length cap] 28 (0, 0))) (fun _ _ _ i _ => l.length - (intOf i).toNat)
      case atStart => exact ⟨0, rfl, Nat.zero_le _, fun j h => absurd h (by omega), HK0.out, HB.out⟩
      case round =>
        obtain ⟨k, rfl, hk, hno, hkk, hbb⟩ := hrel
        have HN := Lib.hid hno
        have HK := Lib.hid hkk
        have HBB := Lib.hid hbb
        clear hno hkk hbb
        by_cases hlt : k < l.length
        · have hcs := (H.out.kept HK.out (fun _ _ _ h => h))
          obtain ⟨b, o, rfl, _, _, u, e0, e1, e2, e3, e4, hns, hep⟩ := hcs.at_ hlt
          obtain ⟨ua, uc, rfl, _⟩ := id hns
          have HA := Lib.hid (all_bad hlt)
          have HO : Hid (OneOk l k ↔ Rgt (nthC l k) ∧ (nthC l k).ch = k ∧ ∀ x ∈ (nthC l k).mem, usedB (l.take k) x = false) := Lib.hid Iff.rfl
          have hcv := cf_eta _ _ _ _ hns hep
          obtain ⟨y, hy⟩ : ∃ y, y = nthC l k := ⟨_, rfl⟩
          rw [← hy] at e0 e1 e2 e3 e4 HO hcv
          have hk1 : (k : Int) < (l.length : Int) := by omega
          have HCV := Lib.hid hcv
          have HCS := Lib.hid hcs
          obtain ⟨cy, hcy⟩ : ∃ z, z = y.ch := ⟨_, rfl⟩
          rw [← hcy] at e0 HO hcv HCV
          have HMM := Lib.hid (fun w' (hk : Kept NoB wr w') => members_any _ y F w' (HCV.out.kept hk (fun _ _ _ h => h)))
          have HRR := Lib.hid (fun w' (hk : Kept NoB wr w') => Right_any _ y F w' (HCV.out.kept hk (fun _ _ _ h => h)))
          have HR0 : Hid (Rgt y ↔ rgtB y = true) := Lib.hid (by unfold rgtB; simp)
          obtain ⟨r, hr⟩ : ∃ r, r = rgtB y := ⟨_, rfl⟩
          rw [← hr] at HRR HR0
          have hc := heap_alloc_new (wr.alloc (.cells #[.int .i64 (k : Int)] 3)) (.cells #[.int .i64 cy, .int .u64 y.ep, .slice ua y.ns.length uc, .bool y.fr, .int .i64 y.jn] 25)
          have hz : (wr.alloc (.cells #[.int .i64 (k : Int)] 3)).heap.size = wr.heap.size + 1 := by simp
          rw [hz] at hc
          have HC := Lib.hid hc
          have HI := Lib.hid (balloc (heap_alloc_new wr (.cells #[.int .i64 (k : Int)] 3)) (.cells #[.int .i64 cy, .int .u64 y.ep, .slice ua y.ns.length uc, .bool y.fr, .int .i64 y.jn] 25))
          have HB2 := Lib.hid (balloc (balloc HBB.out (.cells #[.int .i64 (k : Int)] 3)) (.cells #[.int .i64 cy, .int .u64 y.ep, .slice ua y.ns.length uc, .bool y.fr, .int .i64 y.jn] 25))
          have HK2 := Lib.hid (((Kept.refl NoB wr).alloc (.cells #[.int .i64 (k : Int)] 3)).alloc (.cells #[.int .i64 cy, .int .u64 y.ep, .slice ua y.ns.length uc, .bool y.fr, .int .i64 y.jn] 25))
          clear hy hns hep hcv hcs hcy hc hz hr
          cases r with
          | false =>
            have HE : Hid (allB l = false) := Lib.hid (HA.out (fun h => by have := (HR0.out).1 ((HO.out).1 h).1; cases this))
            go_wp2_with fail
            refine (HRR.out _ HK2.out).mono ?_
            rintro e w1 ⟨rfl, hk1⟩
            have HKF := Lib.hid ((HK.out.trans HK2.out (fun _ _ h => h)).trans hk1 (fun _ _ h => h))
            clear hk1
            go_wp2
            go_ret
            exact ⟨(by rw [HD.out, HE.out] <;> rfl), HKF.out⟩
          | true =>
            by_cases hck : cy = (k : Int)
            · have HP := Lib.hid hck
              have hckb : ((cy : Int) != (k : Int)) = false := by simpa using hck
              have HT : Hid (∀ w', Kept NoB wr w' → TellsN 70 #[.pointer (some ⟨w.heap.size, 0, none⟩), .pointer (some ⟨wr.heap.size, 0, none⟩)] y.mem (fun x => usedB (l.take k) x) w' ∨ w'.cell? ⟨wr.heap.size, 0, none⟩ ≠ some (.int .i64 (k : Int))) := Lib.hid (fun w' hk' => by
                by_cases hce : w'.cell? ⟨wr.heap.size, 0, none⟩ = some (.int .i64 (k : Int))
                · refine .inl ⟨ent_all1, fun x w2 _ hk2 => All1_any _ l x k w.heap.size wr.heap.size F w2 (HCS.out.kept (hk'.trans hk2 (fun _ _ h => h)) (fun _ _ _ h => h)) (by omega) (cell_of_row _ _ 0 _ _ _ ((hk'.trans hk2 (fun _ _ h => h)).heap (fun h => h) HBB.out)) (hk2.cell (p := ⟨wr.heap.size, 0, none⟩) (fun h => h) hce)⟩
                · exact .inr hce)
              obtain ⟨d2, hd2⟩ : ∃ d2, d2 = y.mem.any (fun x => usedB (l.take k) x) := ⟨_, rfl⟩
              have HD2 := Lib.hid hd2
              have HCN := Lib.hid (fun v F w' (h : NSl w' F v y.mem) hp => hd2 ▸ ContainsN_any v y.mem 70 #[.pointer (some ⟨w.heap.size, 0, none⟩), .pointer (some ⟨wr.heap.size, 0, none⟩)] (fun x => usedB (l.take k) x) F w' h hp)
              clear hd2 hck
              go_wp2_with fail
              refine (HRR.out _ HK2.out).mono ?_
              rintro e w1 ⟨rfl, hk1⟩
              have HK3 := Lib.hid (HK2.out.trans hk1 (fun _ _ h => h))
              obtain ⟨c0, c1, c2, c3, c4⟩ := cells5 (hk1.heap (fun h => h) HC.out)
              have i0 := cell_of_row _ _ 0 _ _ _ (hk1.heap (fun h => h) HI.out)
              have HI3 := Lib.hid i0
              clear hk1
              go_wp2_with fail
              refine (HMM.out _ HK3.out).mono ?_
              rintro e w2 ⟨v', rfl, hn, hk2⟩
              have HN2 := Lib.hid hn
              have HK4 := Lib.hid (HK3.out.trans hk2 (fun _ _ h => h))
              have HI4 := Lib.hid (hk2.cell (p := ⟨wr.heap.size, 0, none⟩) (fun h => h) HI3.out)
              clear hn hk2 c0 c1 c2 c3 c4 i0
              go_wp2_with fail
              refine (HCN.out _ _ _ HN2.out ((HT.out _ HK4.out).resolve_right (fun h => h HI4.out))).mono ?_
              rintro e w3 ⟨rfl, hk3⟩
              have HK5 := Lib.hid (HK4.out.trans hk3 (fun _ _ h => h))
              have HKF := Lib.hid (HK.out.trans HK5.out (fun _ _ h => h))
              have HB5 := Lib.hid (HK5.out.heap (fun h => h) HBB.out)
              clear hk3
              cases d2 with
              | true =>
                have HE : Hid (allB l = false) := Lib.hid (HA.out (fun h => by
                  have h3 := ((HO.out).1 h).2.2
                  obtain ⟨x, hx, hu⟩ := List.any_eq_true.1 HD2.out.symm
                  rw [h3 x hx] at hu
                  cases hu))
                go_wp2
                go_ret
                exact ⟨(by rw [HD.out, HE.out] <;> rfl), HKF.out⟩
              | false =>
                have HE : Hid (OneOk l k) := Lib.hid ((HO.out).2 ⟨(HR0.out).2 (by simp), HP.out, fun x hx => by
                  have := List.any_eq_false.1 HD2.out.symm x hx
                  simpa using this⟩)
                go_wp2
                exact ⟨⟨k + 1, by go_num, by omega, fun j hj => by
                  rcases Nat.lt_or_ge j k with h | h
                  · exact HN.out j h
                  · obtain rfl : j = k := by omega
                    exact HE.out, HKF.out, HB5.out⟩, by simp [intOf]; omega⟩
            · have HE : Hid (allB l = false) := Lib.hid (HA.out (fun h => hck ((HO.out).1 h).2.1))
              have hckb : ((cy : Int) != (k : Int)) = true := by simpa using hck
              clear hck
              go_wp2_with fail
              refine (HRR.out _ HK2.out).mono ?_
              rintro e w1 ⟨rfl, hk1⟩
              have HKF := Lib.hid ((HK.out.trans HK2.out (fun _ _ h => h)).trans hk1 (fun _ _ h => h))
              obtain ⟨c0, c1, c2, c3, c4⟩ := cells5 (hk1.heap (fun h => h) HC.out)
              have i0 := cell_of_row _ _ 0 _ _ _ (hk1.heap (fun h => h) HI.out)
              clear hk1
              go_wp2
              go_ret
              exact ⟨(by rw [HD.out, HE.out] <;> rfl), HKF.out⟩
        · obtain rfl : k = l.length := by omega
          go_wp2
          go_ret
          exact ⟨(by rw [HD.out, show allB l = true from decide_eq_true ⟨hL1, hL4, HN.out⟩] <;> rfl), HK.out⟩
end Go.Proofs.YtbdenjmnohhhiaaDoor
