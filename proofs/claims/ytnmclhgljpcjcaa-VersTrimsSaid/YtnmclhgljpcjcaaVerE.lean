/-
  Package vers: upto (a binary search over a function literal), Clean.
-/
import Derived.Test.YtnmclhgljpcjcaaVerD
import Derived.LoopTactic
namespace Go.Proofs.Ytnmclhgljpcjcaa
open Go.RowKit
set_option linter.unusedVariables false

/-- sort.Search over the function literal of upto, which only reads. -/
theorem Search15_any (x y n : Nat) (p : Nat → Bool) (w : World) (hn : n ≤ 100000)
    (hf : ∀ (i q : Nat), i < n → Calls Try.prog 99 #[.int .i64 i, .pointer (some ⟨x, 0, none⟩), .pointer (some ⟨y, 0, none⟩)] (w.drewN q) fun e w' => e = .returned (.bool (p i)) ∧ ∃ q', w' = w.drewN q')
    (hm : ∀ a b, a ≤ b → b < n → p a = true → p b = true) :
    Calls Try.prog 98 #[.int .i64 n, .func (.func 99) #[] #[.pointer (some ⟨x, 0, none⟩), .pointer (some ⟨y, 0, none⟩)]] w fun e w' =>
      ∃ r q : Nat, e = .returned (.int .i64 r) ∧ r ≤ n ∧ (∀ i, i < r → p i = false) ∧ (∀ i, r ≤ i → i < n → p i = true) ∧ w' = w.drewN q := by
  have HF := Lib.hid hf
  have HM := Lib.hid hm
  clear hf hm
  go_enter Try.func98, Try.ntmps98
  go_wp2
  go_loopw [5, 6] (fun i j wr => ∃ a b q : Nat, i = .int .i64 a ∧ j = .int .i64 b ∧ a ≤ b ∧ b ≤ n ∧ (∀ i, i < a → p i = false) ∧ (∀ i, b ≤ i → i < n → p i = true) ∧ wr = w.drewN q) (fun i j _ => (intOf j).toNat - (intOf i).toNat)
  case atStart => exact ⟨0, n, 0, rfl, rfl, Nat.zero_le _, Nat.le_refl _, fun i h => absurd h (by omega), fun i h1 h2 => absurd h1 (by omega), rfl⟩
  case round =>
    obtain ⟨a, b, q, rfl, rfl, hab, hbn, hlo, hhi, rfl⟩ := hrel
    have HLO := Lib.hid hlo
    have HHI := Lib.hid hhi
    clear hlo hhi
    by_cases hlt : a < b
    · go_wp2_with fail
      obtain ⟨h, hh⟩ : ∃ h : Nat, (a + b) / 2 = h := ⟨_, rfl⟩
      have he : ((a : Int) + (b : Int)) / 2 = (h : Int) := by omega
      have h1 : a ≤ h := by omega
      have h2 : h < b := by omega
      rw [he]
      have HH := Lib.hid hh
      clear hh he
      refine (HF.out h q (by omega)).mono ?_
      rintro e w' ⟨rfl, q', rfl⟩
      obtain ⟨pb, hpb⟩ : ∃ pb, pb = p h := ⟨_, rfl⟩
      rw [← hpb]
      have HP := Lib.hid hpb
      clear hpb
      have hnot : ∀ (x : Bool) (w : World), (Op.unary .not (.bool x)).run Try.prog w = .ok (.bool (!x)) w := fun _ _ => rfl
      cases pb
      · go_wp2
        refine ⟨⟨h + 1, b, q', by go_num, rfl, by omega, hbn, fun i hi => ?_, HHI.out, rfl⟩, by simp [intOf]; omega⟩
        cases hpi : p i with
        | false => rfl
        | true => exact absurd (HM.out i h (by omega) (by omega) hpi) (by rw [← HP.out]; decide)
      · go_wp2
        refine ⟨⟨a, h, q', rfl, rfl, by omega, by omega, HLO.out, fun i hi1 hi2 => HM.out h i hi1 hi2 HP.out.symm, rfl⟩, by simp [intOf]; omega⟩
    · obtain rfl : a = b := by omega
      go_wp2
      go_ret
      exact ⟨a, q, rfl, hbn, HLO.out, HHI.out, rfl⟩
set_option maxRecDepth 100000 in
theorem upto1_any (x y : Nat) (a : Option Addr) (c : Nat) (l : List Vn) (F : Nat → Prop) (done : Int) (i q : Nat) (w : World) (h : VsAt w F (.slice a l.length c) l) (hi : i < l.length) (hx : w.cell? ⟨x, 0, none⟩ = some (.slice a l.length c)) (hy : w.cell? ⟨y, 0, none⟩ = some (.int .u64 done)) :
    Calls Try.prog 99 #[.int .i64 i, .pointer (some ⟨x, 0, none⟩), .pointer (some ⟨y, 0, none⟩)] (w.drewN q) fun e w' => e = .returned (.bool (decide (done < (nthV l i).q))) ∧ ∃ q', w' = w.drewN q' := by
  obtain ⟨b, o, rfl, hF, hb, u, e0, e1, e2, hd⟩ := h.at_ hi
  have hlen := h.len
  unfold maxLen at hlen
  obtain ⟨n, hn⟩ : ∃ n, n = (nthV l i).q := ⟨_, rfl⟩
  rw [← hn] at e1 ⊢
  have hi0 : (0 : Int) ≤ (i : Int) := by omega
  have hi1 : (i : Int) < (l.length : Int) := by omega
  have hi2 : (l.length : Int) ≤ 9223372036854775807 := by omega
  have hx' : (w.drewN q).cell? ⟨x, 0, none⟩ = some (.slice (some ⟨b, o, none⟩) l.length c) := hx
  have hy' : (w.drewN q).cell? ⟨y, 0, none⟩ = some (.int .u64 done) := hy
  have e1' : (w.drewN q).cell? ⟨b, o + i * 3 + 1, none⟩ = some (.int .u64 n) := e1
  obtain ⟨W, hW⟩ : ∃ W, W = w.drewN q := ⟨_, rfl⟩
  rw [← hW] at hx' hy' e1' ⊢
  have HW := Lib.hid hW
  clear h hn hx hy e0 e1 e2 hd hW hlen
  go_enter Try.func99, Try.ntmps99
  go_wp2
  go_quiet (fail)
  go_wp2
  go_ret
  exact ⟨rfl, q + nq, by rw [HW.out]; simp [World.drewN, Nat.add_assoc]⟩
set_option maxRecDepth 100000 in
theorem Vupto_any (w : World) (x v : Value) (l : List Vn) (done : Int) (F : Nat → Prop) (ht : TellsV w x v) (h : VsAt w F v l) (hasc : Asc l) (hl : l.length ≤ 100000) :
    Calls Try.prog 75 #[x, .int .u64 done] w fun e w' => ∃ a, e = .returned (.slice a (cnt l done) (cnt l done)) ∧ VsAt w' F (.slice a (cnt l done) (cnt l done)) (l.take (cnt l done)) ∧ Kept NoB w w' := by
  obtain ⟨a, c, rfl⟩ := h.form
  have hmf : ∀ (fn : Fn) (first cap : Array Value) (w : World), (Instr.makeFunc fn first cap).run Try.prog w = .ok (.func fn first cap) w := fun _ _ _ _ => rfl
  have hk1 := (Kept.refl NoB w).alloc (.cells #[.int .u64 done] 33)
  have hk2 := hk1.alloc (.cells #[.slice a l.length c] 50)
  have hy := blkV_alloc (heap_alloc_new w (.cells #[.int .u64 done] 33)) (.cells #[.slice a l.length c] 50)
  have hx := heap_alloc_new (w.alloc (.cells #[.int .u64 done] 33)) (.cells #[.slice a l.length c] 50)
  rw [show (w.alloc (.cells #[.int .u64 done] 33)).heap.size = w.heap.size + 1 by simp] at hx
  have hv2 := h.no hk2
  have HT := Lib.hid (ht _ hk1)
  have hcx := cell_of_row _ _ 0 _ _ _ hx
  have hcy := cell_of_row _ _ 0 _ _ _ hy
  have HS := Lib.hid (Search15_any (w.heap.size + 1) w.heap.size l.length (fun i => decide (done < (nthV l i).q)) _ hl
    (fun i q hi => upto1_any (w.heap.size + 1) w.heap.size a c l F done i q _ hv2 hi hcx hcy)
    (fun i j hij hj hp => by
      simp only [decide_eq_true_eq] at hp ⊢
      rcases Nat.lt_or_ge i j with hlt | hge
      · have := hasc.lt hlt hj
        omega
      · obtain rfl : i = j := by omega
        exact hp))
  have HK := Lib.hid hk2
  have HV := Lib.hid hv2
  have HX := Lib.hid hx
  have HA := Lib.hid hasc
  have hlc := h.len
  have hln : (l.length : Int) ≤ (c : Int) := by omega
  clear h ht hk1 hk2 hx hy hv2 hcx hcy hasc
  go_enter Try.func75, Try.ntmps75
  go_wp2_with fail
  refine HT.out.mono ?_
  rintro e w1 ⟨rfl, rfl⟩
  have c0 := cell_of_row _ _ 0 _ _ _ HX.out
  go_wp2_with fail
  refine HS.out.mono ?_
  rintro e w1 ⟨r, q, rfl, hr, h1, h2, rfl⟩
  have hu : cnt l done = r := cnt_of HA.out hr (fun i hi => by have := h1 i hi; simp only [decide_eq_false_iff_not] at this; omega) (fun i hi1 hi2 => by have := h2 i hi1 hi2; simpa using this)
  have HU := Lib.hid hu
  have HK2 := Lib.hid (HK.out.drewN q)
  have HV2 := Lib.hid ((HV.out.no ((Kept.refl NoB _).drewN q)).take3 hr)
  have c1 := ((Kept.refl NoB _).drewN q).cell (p := ⟨w.heap.size + 1, 0, none⟩) (fun h => h) c0
  have hr1 : (r : Int) ≤ (l.length : Int) := by omega
  have hr2 : (r : Int) ≤ (c : Int) := by omega
  have hr3 : r ≤ c := by omega
  clear h1 h2 hu c0
  go_wp2
  go_ret
  rw [HU.out]
  exact ⟨_, rfl, HV2.out, HK2.out⟩
set_option maxRecDepth 100000 in
theorem VClean_any (w : World) (x v : Value) (l : List Vn) (done : Int) (F : Nat → Prop) (ht : TellsV w x v) (h : VsAt w F v l) (hasc : Asc l) (hl : l.length ≤ 100000) : Calls Try.prog 29 #[x, .int .u64 done] w fun e w' => ∃ v', e = .returned v' ∧ VnO w' (fun k => w.heap.size < k) v' (cleanV l done) ∧ Kept NoB w w' := by
  have hk0 := (Kept.refl NoB w).alloc (.cells #[.int .u64 0, .int .u64 0, .slice none 0 0] 43)
  have HU := Lib.hid (Vupto_any _ x v l done F (ht.no hk0) (h.no hk0) hasc hl)
  have HK := Lib.hid hk0
  have HB := Lib.hid (heap_alloc_new w (.cells #[.int .u64 0, .int .u64 0, .slice none 0 0] 43))
  have HZ : Hid ((w.alloc (.cells #[.int .u64 0, .int .u64 0, .slice none 0 0] 43)).heap.size = w.heap.size + 1) := Lib.hid (by simp)
  have HLL := Lib.hid (show (cleanV l done).d.length ≤ 1000000 by have := (hasc.clean done).2.2.2.2; omega)
  clear h ht hk0 hl hasc
  go_enter Try.func29, Try.ntmps29
  go_wp2_with fail
  refine HU.out.mono ?_
  rintro e w1 ⟨a1, rfl, hv1, hk1⟩
  have HK1 := Lib.hid (HK.out.trans hk1 (fun _ _ h => h))
  have HB1 := Lib.hid (hk1.heap (fun h => h) HB.out)
  have HZ1 : Hid (w.heap.size + 1 ≤ w1.heap.size) := Lib.hid (by have := hk1.size; have := HZ.out; omega)
  have hLL := VLastOf_any _ _ _ F hv1
  rw [lastV_take] at hLL
  have HL := Lib.hid hLL
  clear hk1 hv1 hLL
  go_wp2_with fail
  refine HL.out.mono ?_
  rintro e w2 ⟨v2, rfl, hv2, hk2⟩
  have HK2 := Lib.hid (HK1.out.trans hk2 (fun _ _ h => h))
  have HB2 := Lib.hid (hk2.heap (fun h => h) HB1.out)
  have HZ2 : Hid (w.heap.size + 1 ≤ w2.heap.size) := Lib.hid (by have := hk2.size; have := HZ1.out; omega)
  have HC := Lib.hid (VCopyOf_any w2 v2 (cleanV l done) F hv2 HLL.out)
  obtain ⟨u2, rfl, hu2⟩ := hv2
  obtain ⟨ua, uc, rfl, _⟩ := hu2
  clear hk2
  go_wp2_with fail
  refine HC.out.mono ?_
  rintro e w3 ⟨v3, rfl, hv3, hk3⟩
  have HK3 := Lib.hid (HK2.out.trans hk3 (fun _ _ h => h))
  have HB3 := Lib.hid (hk3.heap (fun h => h) HB2.out)
  have hv3 := hv3.mono (G := fun k => w.heap.size < k) (fun k _ h => by have := HZ2.out; omega)
  obtain ⟨⟨y0, y1, y2⟩, hy⟩ : ∃ y, y = cleanV l done := ⟨_, rfl⟩
  have HY := Lib.hid hy
  rw [← hy] at hv3
  obtain ⟨u, rfl, hu⟩ := hv3
  obtain ⟨va, vc, rfl⟩ := own_form hu.2.1
  have HU := Lib.hid hu
  obtain ⟨r0, r1, r2⟩ := cells3v HB3.out
  have z := blkV_frozen HB3.out
  clear hk3 hu hy
  go_wp2
  clear r0 r1 r2 z
  obtain ⟨r0, r1, r2, hO, hK⟩ := fin15 HB3.out (Nat.le_refl _) HK3.out (fun k h e => by omega) ⟨y0, y1, y2⟩ _ rfl HU.out
  unfold three15 at r0 r1 r2 hK hO
  simp only [Nat.zero_add] at r0 r1 r2 hK hO
  generalize hW : World.setCell _ _ _ = W3 at r0 r1 r2 hK hO ⊢
  exact bodyPost_ret (v := .agg #[.int .u64 y0, .int .u64 y1, .slice va y2.length vc]) (by simp [results, Try.results29, go_sem, r0, r1, r2]) rfl ⟨_, rfl, HY.out ▸ hO, hK⟩
end Go.Proofs.Ytnmclhgljpcjcaa
