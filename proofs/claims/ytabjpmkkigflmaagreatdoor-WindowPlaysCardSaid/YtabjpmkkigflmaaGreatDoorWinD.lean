/-
  Package window: forget.
-/
import Derived.Test.YtabjpmkkigflmaaGreatDoorWinC
import Derived.Deep.CutRange
namespace Go.Proofs.YtabjpmkkigflmaaGreatDoor
open Go.RowKit
set_option linter.unusedVariables false
set_option linter.unusedSimpArgs false

/-- A window's block, with other values. -/
theorem wblk_set {w : World} {b : Nat} {x0 x1 x2 x3 : Value} {t : TypeId} (h : w.heap[b]? = some (.cells #[x0, x1, x2, x3] t (0, 0))) (y0 y1 : Value) :
    ((w.setCell ⟨b, 0, none⟩ y0).setCell ⟨b, 1, none⟩ y1).heap[b]? = some (.cells #[y0, y1, x2, x3] t (0, 0)) := by
  simp [World.setCell, Array.getElem?_modify, h]
def ForE (w : World) (S : Nat → Prop) (b : Nat) (x : Wn) (e : Ending) (w' : World) : Prop := e = .returned (.tuple #[]) ∧ WinAt w' S b (forgetW x) ∧ Kept S w w'
set_option maxRecDepth 100000 in
set_option maxHeartbeats 2000000 in
theorem forget_low (w : World) (S : Nat → Prop) (b : Nat) (x : Wn) (H : WinAt w S b x) (ok : WnOk x) (h32 : x.en ≤ 32) : Calls Tryz.prog 79 #[.pointer (some ⟨b, 0, none⟩)] w (ForE w S b x) := by
  obtain ⟨h, ps, H⟩ := H
  obtain ⟨a, c, rfl, hc1, hc2, hc3, hrd, hpl⟩ := H.held.rd
  have hlen := H.len
  have hol := ok.len
  have htop := ok.top
  have hld := ok.ld
  have hde := ok.de
  have HH := Lib.hid H
  have HHR := Lib.hid hrd
  obtain ⟨c0, c1, c2, c3⟩ := cells4w H.blk
  have HBL := Lib.hid H.blk
  obtain ⟨lo, en, dn, l⟩ := x
  simp only at h32 c0 c1 c2 c3 hlen hol htop hld hde HBL
  have HF : Hid (forgetW ⟨lo, en, dn, l⟩ = ⟨max lo (min dn (en - 32)), en, dn, l.drop (max lo (min dn (en - 32)) - lo)⟩) := Lib.hid rfl
  clear hc3 hrd ok H
  · have h32i : ¬ (32 : Int) < (en : Int) := by omega
    have hlo0 : ¬ (dn : Int) < 0 := by omega
    have hE : Hid (forgetW ⟨lo, en, dn, l⟩ = ⟨lo, en, dn, l⟩) := Lib.hid (by rw [HF.out, Nat.max_eq_left (by omega), Nat.sub_self, List.drop_zero])
    clear hlen hol hld hde HF 
    go_enter Tryz.func79, Tryz.ntmps79
    go_wp2_with fail
    go_region
    go_wp2
    all_goals go_end0
    all_goals exact ⟨rfl, ⟨_, ps, by rw [hE.out]; exact HH.out.no (Kept.refl NoB w).drew⟩, ((Kept.refl _ w).drew)⟩
set_option maxRecDepth 100000 in
set_option maxHeartbeats 2000000 in
theorem forget_far (w : World) (S : Nat → Prop) (b : Nat) (x : Wn) (H : WinAt w S b x) (ok : WnOk x) (h32 : 32 < x.en) (hx : x.en - 32 < x.done) : Calls Tryz.prog 79 #[.pointer (some ⟨b, 0, none⟩)] w (ForE w S b x) := by
  obtain ⟨h, ps, H⟩ := H
  obtain ⟨a, c, rfl, hc1, hc2, hc3, hrd, hpl⟩ := H.held.rd
  have hlen := H.len
  have hol := ok.len
  have htop := ok.top
  have hld := ok.ld
  have hde := ok.de
  have HH := Lib.hid H
  have HHR := Lib.hid hrd
  obtain ⟨c0, c1, c2, c3⟩ := cells4w H.blk
  have HBL := Lib.hid H.blk
  obtain ⟨lo, en, dn, l⟩ := x
  simp only at h32 hx c0 c1 c2 c3 hlen hol htop hld hde HBL
  have HF : Hid (forgetW ⟨lo, en, dn, l⟩ = ⟨max lo (min dn (en - 32)), en, dn, l.drop (max lo (min dn (en - 32)) - lo)⟩) := Lib.hid rfl
  clear hc3 hrd ok H
  obtain ⟨B, hB⟩ : ∃ B, B = en - 32 := ⟨_, rfl⟩
  rw [← hB] at hx
  have h32i : (32 : Int) < (en : Int) := by omega
  have hBE : (en : Int) - 32 = (B : Int) := by omega
  have hxi : (B : Int) < (dn : Int) := by omega
  by_cases hle : B ≤ lo
  · have hlei : (B : Int) ≤ (lo : Int) := by omega
    have hE : Hid (forgetW ⟨lo, en, dn, l⟩ = ⟨lo, en, dn, l⟩) := Lib.hid (by rw [HF.out, Nat.max_eq_left (by omega), Nat.sub_self, List.drop_zero])
    clear hlen hol hld hde HF hB
    go_enter Tryz.func79, Tryz.ntmps79
    go_wp2_with fail
    go_region
    go_wp2
    all_goals go_end0
    all_goals exact ⟨rfl, ⟨_, ps, by rw [hE.out]; exact HH.out.no (Kept.refl NoB w).drew⟩, ((Kept.refl _ w).drew)⟩
  · have hmgt : decide ((B : Int) ≤ (lo : Int)) = false := decide_eq_false (by omega)
    have hmgN : decide (B ≤ lo) = false := decide_eq_false hle
    obtain ⟨k, hk⟩ : ∃ k, B = lo + k := ⟨B - lo, by omega⟩
    have hk0 : 0 < k := by omega
    obtain ⟨n, hn⟩ : ∃ n, n = ps.length := ⟨_, rfl⟩
    have hkn : k ≤ n := by omega
    have hne : en = lo + n := by omega
    have HN := Lib.hid hn
    obtain ⟨r, o, cs, hae, hSr, hr, hos, hce⟩ := HHR.out (by omega)
    subst hae
    have HW : Hid (w.heap[b]? = some (.cells #[.slice (some ⟨r, o, none⟩) n c, .int .u64 lo, .int .u64 en, .int .u64 dn] 118 (0, 0))) := Lib.hid (by rw [hn]; exact HBL.out)
    have hE : Hid (forgetW ⟨lo, en, dn, l⟩ = ⟨B, en, dn, l.drop k⟩) := Lib.hid (by rw [HF.out, show min dn (en - 32) = B by omega, Nat.max_eq_right (by omega), show B - lo = k by omega])
    have HB1 : Hid (∀ w', Kept NoB w w' → Calls Tryz.prog 81 #[.pointer (some ⟨b, 0, none⟩), .int .u64 lo, .int .u64 B] w' (BetE (some ⟨r, o, none⟩) 0 k w')) := Lib.hid (fun w' hk' => by
      have := between_any w' b (some ⟨r, o, none⟩) n c lo 0 k _ _ (hk'.heap (fun h => h) HW.out) (Nat.zero_le _) (by omega) hc2 (by omega)
      rw [← hk, Nat.add_zero] at this
      exact this)
    have HB2 : Hid (∀ w', w'.heap[b]? = some (.cells #[.slice (some ⟨r, o, none⟩) n c, .int .u64 lo, .int .u64 en, .int .u64 dn] 118 (0, 0)) → Calls Tryz.prog 81 #[.pointer (some ⟨b, 0, none⟩), .int .u64 B, .int .u64 en] w' (BetE (some ⟨r, o, none⟩) k n w')) := Lib.hid (fun w' hb' => by
      have := between_any w' b (some ⟨r, o, none⟩) n c lo k n _ _ hb' hkn (by omega) hc2 (by omega)
      rw [← hk, ← hne] at this
      exact this)
    have hrb : ¬ b = r := fun h => hSr.2 h.symm
    have HRR := Lib.hid (And.intro hr (And.intro hos hce))
    have HSR := Lib.hid hSr
    have hbz : b < w.heap.size := heap_lt HW.out
    clear hlen hol hld hde hr hos hce hSr hn c0 hne HF hk HBL hB
    go_enter Tryz.func79, Tryz.ntmps79
    go_wp2_with fail
    go_region
    go_wp2_with fail
    refine (HB1.out _ (Kept.refl NoB w).drew).mono ?_
    rintro e w1 ⟨a1, rfl, ha1, _, hk1⟩
    obtain rfl : a1 = some ⟨r, o, none⟩ := by rw [ha1 hk0]; show some ((⟨r, o, none⟩ : Addr).add (0 * 7)) = _; rw [addr_add17]; rfl
    have HK1 : Hid (Kept NoB w w1) := Lib.hid ((Kept.refl NoB w).drew.trans hk1 (fun _ _ h => h))
    rw [Nat.sub_zero]
    obtain ⟨w2, hcl, hk2, ⟨cs2, hr2, hcs2⟩, hce2⟩ := held_clear w1 (But S b) r o k k cs ps hk0 (by have := HN.out; omega) (HK1.out.heap (fun h => h) HRR.out.1) HRR.out.2.1 (HRR.out.2.2.kept HK1.out (fun h => h))
    have HK2 := Lib.hid hk2
    have HR2 := Lib.hid (And.intro hr2 (And.intro hcs2 hce2))
    have hb2 := hk2.heap hrb (HK1.out.heap (fun h => h) HW.out)
    have HBW2 := Lib.hid hb2
    clear c1 c2 c3 hk1 hk2 ha1 hr2 hcs2 hce2
    obtain ⟨c0, c1, c2, c3⟩ := cells4w hb2
    clear hb2
    go_wp2_with fail
    refine (HB2.out _ HBW2.out).mono ?_
    rintro e w3 ⟨a3, rfl, ha3, hn3, hk3⟩
    have HK3 := Lib.hid hk3
    have HA3 := Lib.hid (And.intro ha3 hn3)
    have HBW3 := Lib.hid (hk3.heap (fun h => h) HBW2.out)
    clear c0 c1 c2 c3 hk3 ha3 hn3
    obtain ⟨c0, c1, c2, c3⟩ := cells4w HBW3.out
    have z3 := blkU_frozen HBW3.out
    go_wp2
    go_end0
    have HKR : Kept (fun i => i = r) w w3 := (HK1.out.mono (fun _ _ h => absurd h (fun h => h))).trans (HK2.out.trans HK3.out (fun _ _ h => absurd h (fun h => h))) (fun _ _ h => h)
    have HKS : Kept (fun i => i = b) w3 ((w3.setCell ⟨b, 0, none⟩ (.slice a3 (n - k) (n - k))).setCell ⟨b, 1, none⟩ (.int .u64 B)) := ((Kept.refl (fun i => i = b) w3).setCell (p := ⟨b, 0, none⟩) (.inl rfl) _).setCell (p := ⟨b, 1, none⟩) (.inl rfl) _
    have HKA : Kept S w ((w3.setCell ⟨b, 0, none⟩ (.slice a3 (n - k) (n - k))).setCell ⟨b, 1, none⟩ (.int .u64 B)) := (HKR.mono (fun i _ h => by have h : i = r := h; rw [h]; exact HSR.out.1)).trans HKS (fun i _ h => by have h : i = b := h; rw [h]; exact HH.out.inb)
    refine ⟨rfl, ⟨.slice a3 (n - k) (n - k), ps.drop k, ?_⟩, HKA⟩
    rw [hE.out]
    have hdl : (ps.drop k).length = n - k := by rw [List.length_drop, HN.out]
    refine ⟨wblk_set HBW3.out _ _, HH.out.inb, .inr ⟨a3, by rw [hdl], by rw [hdl]; have := HN.out; omega, fun h0 => ?_, fun hp => ?_⟩, ?_, ?_, fun i hi => Nat.lt_of_lt_of_le (HH.out.bound i hi) HKA.size⟩
    · have := HA3.out.2 h0; cases this
    · rw [hdl] at hp
      have hlt : k < n := by omega
      have e3 : a3 = some ⟨r, o + k * 7, none⟩ := by rw [HA3.out.1 hlt]; simp [addr_add17]
      have hk23 := HK3.out
      refine ⟨r, o + k * 7, cs2, e3, HSR.out, HKS.heap (fun h => HSR.out.2 h) (hk23.heap (fun h => h) HR2.out.1), ?_, (HR2.out.2.2.kept hk23 (fun h => h)).kept HKS (fun h => HSR.out.2 h)⟩
      rw [hdl, HR2.out.2.1]
      have := HRR.out.2.1
      have := HN.out
      omega
    · rw [List.map_drop, HH.out.same]
    · intro p hp
      have h1 := HH.out.data p (List.mem_of_mem_drop hp)
      have h2 := h1.kept17 HKR (fun i cs fr hi hS h => by
        have h : i = r := h
        subst h
        rw [HRR.out.1] at hi
        injection hi with hi
        injection hi with _ ht
        exact absurd ht (by decide))
      exact h2.kept17 HKS (fun i cs fr hi hS h => hS.2 h)
set_option maxRecDepth 100000 in
set_option maxHeartbeats 2000000 in
theorem forget_near (w : World) (S : Nat → Prop) (b : Nat) (x : Wn) (H : WinAt w S b x) (ok : WnOk x) (h32 : 32 < x.en) (hx : ¬ x.en - 32 < x.done) : Calls Tryz.prog 79 #[.pointer (some ⟨b, 0, none⟩)] w (ForE w S b x) := by
  obtain ⟨h, ps, H⟩ := H
  obtain ⟨a, c, rfl, hc1, hc2, hc3, hrd, hpl⟩ := H.held.rd
  have hlen := H.len
  have hol := ok.len
  have htop := ok.top
  have hld := ok.ld
  have hde := ok.de
  have HH := Lib.hid H
  have HHR := Lib.hid hrd
  obtain ⟨c0, c1, c2, c3⟩ := cells4w H.blk
  have HBL := Lib.hid H.blk
  obtain ⟨lo, en, dn, l⟩ := x
  simp only at h32 hx c0 c1 c2 c3 hlen hol htop hld hde HBL
  have HF : Hid (forgetW ⟨lo, en, dn, l⟩ = ⟨max lo (min dn (en - 32)), en, dn, l.drop (max lo (min dn (en - 32)) - lo)⟩) := Lib.hid rfl
  clear hc3 hrd ok H
  obtain ⟨B, hB⟩ : ∃ B, B = en - 32 := ⟨_, rfl⟩
  rw [← hB] at hx
  have h32i : (32 : Int) < (en : Int) := by omega
  have hBE : (en : Int) - 32 = (B : Int) := by omega
  have hxi : ¬ (B : Int) < (dn : Int) := by omega
  by_cases hle : dn ≤ lo
  · have hlei : (dn : Int) ≤ (lo : Int) := by omega
    have hE : Hid (forgetW ⟨lo, en, dn, l⟩ = ⟨lo, en, dn, l⟩) := Lib.hid (by rw [HF.out, Nat.max_eq_left (by omega), Nat.sub_self, List.drop_zero])
    clear hlen hol hld hde HF hB
    go_enter Tryz.func79, Tryz.ntmps79
    go_wp2_with fail
    go_region
    go_wp2
    all_goals go_end0
    all_goals exact ⟨rfl, ⟨_, ps, by rw [hE.out]; exact HH.out.no (Kept.refl NoB w).drew⟩, ((Kept.refl _ w).drew)⟩
  · have hmgt : decide ((dn : Int) ≤ (lo : Int)) = false := decide_eq_false (by omega)
    have hmgN : decide (dn ≤ lo) = false := decide_eq_false hle
    obtain ⟨k, hk⟩ : ∃ k, dn = lo + k := ⟨dn - lo, by omega⟩
    have hk0 : 0 < k := by omega
    obtain ⟨n, hn⟩ : ∃ n, n = ps.length := ⟨_, rfl⟩
    have hkn : k ≤ n := by omega
    have hne : en = lo + n := by omega
    have HN := Lib.hid hn
    obtain ⟨r, o, cs, hae, hSr, hr, hos, hce⟩ := HHR.out (by omega)
    subst hae
    have HW : Hid (w.heap[b]? = some (.cells #[.slice (some ⟨r, o, none⟩) n c, .int .u64 lo, .int .u64 en, .int .u64 dn] 118 (0, 0))) := Lib.hid (by rw [hn]; exact HBL.out)
    have hE : Hid (forgetW ⟨lo, en, dn, l⟩ = ⟨dn, en, dn, l.drop k⟩) := Lib.hid (by rw [HF.out, show min dn (en - 32) = dn by omega, Nat.max_eq_right (by omega), show dn - lo = k by omega])
    have HB1 : Hid (∀ w', Kept NoB w w' → Calls Tryz.prog 81 #[.pointer (some ⟨b, 0, none⟩), .int .u64 lo, .int .u64 dn] w' (BetE (some ⟨r, o, none⟩) 0 k w')) := Lib.hid (fun w' hk' => by
      have := between_any w' b (some ⟨r, o, none⟩) n c lo 0 k _ _ (hk'.heap (fun h => h) HW.out) (Nat.zero_le _) (by omega) hc2 (by omega)
      rw [← hk, Nat.add_zero] at this
      exact this)
    have HB2 : Hid (∀ w', w'.heap[b]? = some (.cells #[.slice (some ⟨r, o, none⟩) n c, .int .u64 lo, .int .u64 en, .int .u64 dn] 118 (0, 0)) → Calls Tryz.prog 81 #[.pointer (some ⟨b, 0, none⟩), .int .u64 dn, .int .u64 en] w' (BetE (some ⟨r, o, none⟩) k n w')) := Lib.hid (fun w' hb' => by
      have := between_any w' b (some ⟨r, o, none⟩) n c lo k n _ _ hb' hkn (by omega) hc2 (by omega)
      rw [← hk, ← hne] at this
      exact this)
    have hrb : ¬ b = r := fun h => hSr.2 h.symm
    have HRR := Lib.hid (And.intro hr (And.intro hos hce))
    have HSR := Lib.hid hSr
    have hbz : b < w.heap.size := heap_lt HW.out
    clear hlen hol hld hde hr hos hce hSr hn c0 hne HF hk HBL hB
    go_enter Tryz.func79, Tryz.ntmps79
    go_wp2_with fail
    go_region
    go_wp2_with fail
    refine (HB1.out _ (Kept.refl NoB w).drew).mono ?_
    rintro e w1 ⟨a1, rfl, ha1, _, hk1⟩
    obtain rfl : a1 = some ⟨r, o, none⟩ := by rw [ha1 hk0]; show some ((⟨r, o, none⟩ : Addr).add (0 * 7)) = _; rw [addr_add17]; rfl
    have HK1 : Hid (Kept NoB w w1) := Lib.hid ((Kept.refl NoB w).drew.trans hk1 (fun _ _ h => h))
    rw [Nat.sub_zero]
    obtain ⟨w2, hcl, hk2, ⟨cs2, hr2, hcs2⟩, hce2⟩ := held_clear w1 (But S b) r o k k cs ps hk0 (by have := HN.out; omega) (HK1.out.heap (fun h => h) HRR.out.1) HRR.out.2.1 (HRR.out.2.2.kept HK1.out (fun h => h))
    have HK2 := Lib.hid hk2
    have HR2 := Lib.hid (And.intro hr2 (And.intro hcs2 hce2))
    have hb2 := hk2.heap hrb (HK1.out.heap (fun h => h) HW.out)
    have HBW2 := Lib.hid hb2
    clear c1 c2 c3 hk1 hk2 ha1 hr2 hcs2 hce2
    obtain ⟨c0, c1, c2, c3⟩ := cells4w hb2
    clear hb2
    go_wp2_with fail
    refine (HB2.out _ HBW2.out).mono ?_
    rintro e w3 ⟨a3, rfl, ha3, hn3, hk3⟩
    have HK3 := Lib.hid hk3
    have HA3 := Lib.hid (And.intro ha3 hn3)
    have HBW3 := Lib.hid (hk3.heap (fun h => h) HBW2.out)
    clear c0 c1 c2 c3 hk3 ha3 hn3
    obtain ⟨c0, c1, c2, c3⟩ := cells4w HBW3.out
    have z3 := blkU_frozen HBW3.out
    go_wp2
    go_end0
    have HKR : Kept (fun i => i = r) w w3 := (HK1.out.mono (fun _ _ h => absurd h (fun h => h))).trans (HK2.out.trans HK3.out (fun _ _ h => absurd h (fun h => h))) (fun _ _ h => h)
    have HKS : Kept (fun i => i = b) w3 ((w3.setCell ⟨b, 0, none⟩ (.slice a3 (n - k) (n - k))).setCell ⟨b, 1, none⟩ (.int .u64 dn)) := ((Kept.refl (fun i => i = b) w3).setCell (p := ⟨b, 0, none⟩) (.inl rfl) _).setCell (p := ⟨b, 1, none⟩) (.inl rfl) _
    have HKA : Kept S w ((w3.setCell ⟨b, 0, none⟩ (.slice a3 (n - k) (n - k))).setCell ⟨b, 1, none⟩ (.int .u64 dn)) := (HKR.mono (fun i _ h => by have h : i = r := h; rw [h]; exact HSR.out.1)).trans HKS (fun i _ h => by have h : i = b := h; rw [h]; exact HH.out.inb)
    refine ⟨rfl, ⟨.slice a3 (n - k) (n - k), ps.drop k, ?_⟩, HKA⟩
    rw [hE.out]
    have hdl : (ps.drop k).length = n - k := by rw [List.length_drop, HN.out]
    refine ⟨wblk_set HBW3.out _ _, HH.out.inb, .inr ⟨a3, by rw [hdl], by rw [hdl]; have := HN.out; omega, fun h0 => ?_, fun hp => ?_⟩, ?_, ?_, fun i hi => Nat.lt_of_lt_of_le (HH.out.bound i hi) HKA.size⟩
    · have := HA3.out.2 h0; cases this
    · rw [hdl] at hp
      have hlt : k < n := by omega
      have e3 : a3 = some ⟨r, o + k * 7, none⟩ := by rw [HA3.out.1 hlt]; simp [addr_add17]
      have hk23 := HK3.out
      refine ⟨r, o + k * 7, cs2, e3, HSR.out, HKS.heap (fun h => HSR.out.2 h) (hk23.heap (fun h => h) HR2.out.1), ?_, (HR2.out.2.2.kept hk23 (fun h => h)).kept HKS (fun h => HSR.out.2 h)⟩
      rw [hdl, HR2.out.2.1]
      have := HRR.out.2.1
      have := HN.out
      omega
    · rw [List.map_drop, HH.out.same]
    · intro p hp
      have h1 := HH.out.data p (List.mem_of_mem_drop hp)
      have h2 := h1.kept17 HKR (fun i cs fr hi hS h => by
        have h : i = r := h
        subst h
        rw [HRR.out.1] at hi
        injection hi with hi
        injection hi with _ ht
        exact absurd ht (by decide))
      exact h2.kept17 HKS (fun i cs fr hi hS h => hS.2 h)
theorem forget_any (w : World) (S : Nat → Prop) (b : Nat) (x : Wn) (H : WinAt w S b x) (ok : WnOk x) : Calls Tryz.prog 79 #[.pointer (some ⟨b, 0, none⟩)] w (ForE w S b x) := by
  rcases Nat.lt_or_ge 32 x.en with h | h
  · by_cases hx : x.en - 32 < x.done
    · exact forget_far w S b x H ok h hx
    · exact forget_near w S b x H ok h hx
  · exact forget_low w S b x H ok h
end Go.Proofs.YtabjpmkkigflmaaGreatDoor
