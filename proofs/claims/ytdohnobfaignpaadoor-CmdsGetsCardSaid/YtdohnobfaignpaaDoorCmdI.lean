/-
  Package cmds: the bytes of a command; Put, Encode.
-/
import Derived.Test.YtdohnobfaignpaaDoorCmdG
import Derived.Test.YtdohnobfaignpaaDoorOutB
namespace Go.Proofs.YtdohnobfaignpaaDoor
open Go.RowKit Go.Sort Go.Lib
set_option linter.unusedVariables false

/-- The bytes of a command. -/
def cbs (k ch ep nd : Nat) : List Int := be k 1 ++ be ch 1 ++ be ep 8 ++ be nd 1
theorem cbs_len (k ch ep nd : Nat) : (cbs k ch ep nd).length = 11 := by simp [cbs, be_len]
theorem cbs_isB (k ch ep nd : Nat) : IsB (cbs k ch ep nd) := (((be_isB _ _).append (be_isB _ _)).append (be_isB _ _)).append (be_isB _ _)
theorem Cm.chk {k ch ep nd : Nat} (h : Cm k ch ep nd) : Chk k ch ep nd 0 := Chk.ok.2 h.1
theorem Cm.le {k ch ep nd : Nat} (h : Cm k ch ep nd) : k ≤ 4 ∧ ch ≤ 3 ∧ ep < 18446744073709551616 ∧ nd ≤ 24 := by
  obtain ⟨h1, h2⟩ := h
  unfold Vld at h1
  omega
/-- One number is put. -/
theorem Put_step (g : Nat) (bs : List Int) (most : Int) (n width : Nat) (G : Nat → Prop) (w : World) (h : OutAt w G g ⟨bs, most, 0⟩) (hG : ∀ k, w.heap.size ≤ k → G k) (h1 : 1 ≤ width) (h8 : width ≤ 8) (hn : n < 256 ^ width) (hm : (bs.length : Int) + width ≤ most) (hl : bs.length ≤ 1000000) :
    Calls Tryd.prog 40 #[.pointer (some ⟨g, 0, none⟩), .int .u64 n, .int .i64 width] w fun r w' =>
      r = .returned (.tuple #[]) ∧ OutAt w' G g ⟨bs ++ be n width, most, 0⟩ ∧ Kept G w w' := by
  have e0 : putErr n width = 0 := by
    unfold putErr
    rw [if_neg (by omega)]
    simp [Nat.div_eq_of_lt hn]
  refine (Put_any g ⟨bs, most, 0⟩ n width G w h (by omega) hl).mono ?_
  rintro r w' ⟨rfl, ho, hk⟩
  refine ⟨rfl, ?_, hk⟩
  rw [e0] at ho
  have e1 : OSt.emit ⟨bs, most, 0⟩ 0 (be (n : Int).toNat (width : Int).toNat) = ⟨bs ++ be n width, most, 0⟩ := by
    unfold OSt.emit
    rw [if_pos rfl, if_pos rfl, if_pos (by simp only [be_len, Int.toNat_natCast]; omega)]
    simp
  rw [e1] at ho
  exact ho.mono (fun k _ hk => hk.elim id (hG k))
/-- A command that may not be puts nothing. -/
theorem Put_bad (g : Nat) (k ch ep nd x : Int) (w : World) (he : 0 ≤ ep) (hx : Chk k ch ep nd x) (hx0 : x ≠ 0) :
    Calls Tryd.prog 22 #[.pointer (some ⟨g, 0, none⟩), .agg #[.int .i64 k, .int .i64 ch, .int .u64 ep, .int .i64 nd]] w fun r w' => r = .returned (.int .i64 x) ∧ Kept NoB w w' := by
  have HC : Hid (∀ w, Calls Tryd.prog 10 #[.agg #[.int .i64 k, .int .i64 ch, .int .u64 ep, .int .i64 nd]] w fun e w' => e = .returned (.int .i64 x) ∧ Kept NoB w w') :=
    Lib.hid (fun w => (Check_any k ch ep nd w he).mono (by rintro e w' ⟨y, hy, rfl, hk⟩; exact ⟨by rw [hy.one hx], hk⟩))
  have hxb : (x != 0) = true := by simpa using hx0
  clear hx hx0
  go_enter Tryd.func22, Tryd.ntmps22
  go_wp2_with fail
  have HK0 := Lib.hid ((Kept.refl NoB w).alloc (.cells #[.int .i64 k, .int .i64 ch, .int .u64 ep, .int .i64 nd] 24))
  refine (HC.out _).mono ?_
  rintro e w1 ⟨rfl, hk⟩
  have HK1 := Lib.hid (HK0.out.trans hk (fun _ _ h => h))
  clear hk
  go_wp2
  go_ret
  exact ⟨rfl, HK1.out⟩
set_option maxRecDepth 100000 in
set_option maxHeartbeats 1000000 in
/-- One that may be puts its bytes. -/
theorem Put_ok (g : Nat) (bs : List Int) (most : Int) (k ch ep nd : Nat) (F : Nat → Prop) (w : World) (h : OutAt w F g ⟨bs, most, 0⟩) (hF : ∀ k, F k → k < w.heap.size) (hc : Cm k ch ep nd) (hm : (bs.length : Int) + 11 ≤ most) (hl : bs.length ≤ 100000) :
    Calls Tryd.prog 22 #[.pointer (some ⟨g, 0, none⟩), .agg #[.int .i64 k, .int .i64 ch, .int .u64 ep, .int .i64 nd]] w fun r w' => r = .returned (.int .i64 0) ∧ OutAt w' (fun k => F k ∨ w.heap.size ≤ k) g ⟨bs ++ cbs k ch ep nd, most, 0⟩ ∧ Kept F w w' := by
  obtain ⟨hk4, hc3, hep, hnd⟩ := hc.le
  obtain ⟨G, hG⟩ : ∃ G : Nat → Prop, G = fun k => F k ∨ w.heap.size + 1 ≤ k := ⟨_, rfl⟩
  have HG : Hid (∀ k, w.heap.size + 1 ≤ k → G k) := Lib.hid (fun k hk => by rw [hG]; exact .inr hk)
  have HFG : Hid (∀ k, F k → G k) := Lib.hid (fun k hk => by rw [hG]; exact .inl hk)
  have HGF : Hid (∀ i, i < w.heap.size → G i → F i) := Lib.hid (fun i hi hg => by rw [hG] at hg; exact hg.elim id (fun h => by omega))
  have HGb : Hid (¬ G w.heap.size) := Lib.hid (by rw [hG]; exact fun h => h.elim (fun h => by have := hF _ h; omega) (fun h => by omega))
  have HS := Lib.hid (show be k 1 = be k 1 ∧ k < 256 ^ 1 ∧ ch < 256 ^ 1 ∧ ep < 256 ^ 8 ∧ nd < 256 ^ 1 from ⟨rfl, by omega, by omega, by omega, by omega⟩)
  have HO := Lib.hid h
  have HM := Lib.hid hm
  have HL := Lib.hid hl
  have HF := Lib.hid hF
  have HC : Hid (∀ w, Calls Tryd.prog 10 #[.agg #[.int .i64 (k : Int), .int .i64 (ch : Int), .int .u64 (ep : Int), .int .i64 (nd : Int)]] w fun e w' => e = .returned (.int .i64 0) ∧ Kept NoB w w') :=
    Lib.hid (fun w => (Check_any k ch ep nd w (by omega)).mono (by rintro e w' ⟨y, hy, rfl, hk⟩; exact ⟨by rw [hy.one hc.chk], hk⟩))
  clear h hm hl hF hc hG
  go_enter Tryd.func22, Tryd.ntmps22
  go_wp2_with fail
  have HK0 := Lib.hid ((Kept.refl NoB w).alloc (.cells #[.int .i64 (k : Int), .int .i64 (ch : Int), .int .u64 (ep : Int), .int .i64 (nd : Int)] 24))
  have HB0 := Lib.hid (heap_alloc_new w (.cells #[.int .i64 (k : Int), .int .i64 (ch : Int), .int .u64 (ep : Int), .int .i64 (nd : Int)] 24))
  refine (HC.out _).mono ?_
  rintro e w1 ⟨rfl, hk⟩
  have HK1 := Lib.hid (HK0.out.trans hk (fun _ _ h => h))
  have HB1 := Lib.hid (hk.heap (fun h => h) HB0.out)
  have HO1 := Lib.hid ((HO.out.kept HK1.out (fun _ _ h => h)).mono (fun k _ h => HFG.out k h))
  have HZ1 : Hid (w.heap.size + 1 ≤ w1.heap.size) := Lib.hid (by have := hk.size; simp at this; omega)
  obtain ⟨c0, c1, c2, c3, _⟩ := cells4 HB1.out
  clear hk
  go_wp2_with fail
  refine (Put_step g bs most k 1 G w1 HO1.out (fun k h => HG.out k (by have := HZ1.out; omega)) (by omega) (by omega) HS.out.2.1 (by have := HM.out; omega) (by have := HL.out; omega)).mono ?_
  rintro e w2 ⟨rfl, ho, hk⟩
  have HK2 := Lib.hid ((HK1.out.mono (T := G) (fun _ _ h => h.elim)).trans hk (fun _ _ h => h))
  have HB2 := Lib.hid (hk.heap HGb.out HB1.out)
  have HO2 := Lib.hid ho
  have HZ2 : Hid (w.heap.size + 1 ≤ w2.heap.size) := Lib.hid (by have := hk.size; have := HZ1.out; omega)
  obtain ⟨c0, c1, c2, c3, _⟩ := cells4 HB2.out
  clear hk ho
  go_wp2_with fail
  refine (Put_step g _ most ch 1 G w2 HO2.out (fun k h => HG.out k (by have := HZ2.out; omega)) (by omega) (by omega) HS.out.2.2.1 (by have := HM.out; simp only [List.length_append, be_len]; omega) (by have := HL.out; simp only [List.length_append, be_len]; omega)).mono ?_
  rintro e w3 ⟨rfl, ho, hk⟩
  have HK3 := Lib.hid (HK2.out.trans hk (fun _ _ h => h))
  have HB3 := Lib.hid (hk.heap HGb.out HB2.out)
  have HO3 := Lib.hid ho
  have HZ3 : Hid (w.heap.size + 1 ≤ w3.heap.size) := Lib.hid (by have := hk.size; have := HZ2.out; omega)
  obtain ⟨c0, c1, c2, c3, _⟩ := cells4 HB3.out
  clear hk ho
  go_wp2_with fail
  refine (Put_step g _ most ep 8 G w3 HO3.out (fun k h => HG.out k (by have := HZ3.out; omega)) (by omega) (by omega) HS.out.2.2.2.1 (by have := HM.out; simp only [List.length_append, be_len]; omega) (by have := HL.out; simp only [List.length_append, be_len]; omega)).mono ?_
  rintro e w4 ⟨rfl, ho, hk⟩
  have HK4 := Lib.hid (HK3.out.trans hk (fun _ _ h => h))
  have HB4 := Lib.hid (hk.heap HGb.out HB3.out)
  have HO4 := Lib.hid ho
  have HZ4 : Hid (w.heap.size + 1 ≤ w4.heap.size) := Lib.hid (by have := hk.size; have := HZ3.out; omega)
  obtain ⟨c0, c1, c2, c3, _⟩ := cells4 HB4.out
  clear hk ho
  go_wp2_with fail
  refine (Put_step g _ most nd 1 G w4 HO4.out (fun k h => HG.out k (by have := HZ4.out; omega)) (by omega) (by omega) HS.out.2.2.2.2 (by have := HM.out; simp only [List.length_append, be_len]; omega) (by have := HL.out; simp only [List.length_append, be_len]; omega)).mono ?_
  rintro e w5 ⟨rfl, ho, hk⟩
  have HK5 := Lib.hid ((HK4.out.trans hk (fun _ _ h => h)).mono HGF.out)
  have HO5 := Lib.hid ho
  clear hk ho
  go_wp2
  go_ret
  have ho := HO5.out
  rw [List.append_assoc, List.append_assoc, List.append_assoc] at ho
  refine ⟨rfl, ?_, HK5.out⟩
  rw [show bs ++ cbs k ch ep nd = bs ++ (be k 1 ++ (be ch 1 ++ (be ep 8 ++ be nd 1))) by simp [cbs]]
  exact ho.mono (fun i _ hi => by rcases Nat.lt_or_ge i w.heap.size with h | h; exact .inl (HGF.out i h hi); exact .inr h)
/-- Encode of a command that may not be. -/
theorem Encode_bad (k ch ep nd x : Int) (w : World) (he : 0 ≤ ep) (hx : Chk k ch ep nd x) (hx0 : x ≠ 0) :
    Calls Tryd.prog 8 #[.agg #[.int .i64 k, .int .i64 ch, .int .u64 ep, .int .i64 nd]] w fun r w' => r = .returned (.tuple #[.slice none 0 0, .int .i64 x]) ∧ Kept NoB w w' := by
  have HP : Hid (∀ g w, Calls Tryd.prog 22 #[.pointer (some ⟨g, 0, none⟩), .agg #[.int .i64 k, .int .i64 ch, .int .u64 ep, .int .i64 nd]] w fun r w' => r = .returned (.int .i64 x) ∧ Kept NoB w w') := Lib.hid (fun g w => Put_bad g k ch ep nd x w he hx hx0)
  have hxb : (x != 0) = true := by simpa using hx0
  clear hx hx0
  go_enter Tryd.func8, Tryd.ntmps8
  go_wp2_with fail
  have HK0 := Lib.hid ((Kept.refl NoB w).alloc (.cells #[.int .i64 k, .int .i64 ch, .int .u64 ep, .int .i64 nd] 24))
  have HB0 := Lib.hid (heap_alloc_new w (.cells #[.int .i64 k, .int .i64 ch, .int .u64 ep, .int .i64 nd] 24))
  refine (New_any 11 _ (by decide)).mono ?_
  rintro e w1 ⟨rfl, _, hk⟩
  have HK1 := Lib.hid (HK0.out.trans hk (fun _ _ h => h))
  have HB1 := Lib.hid (hk.heap (fun h => h) HB0.out)
  obtain ⟨c0, c1, c2, c3, _⟩ := cells4 HB1.out
  clear hk
  go_wp2_with fail
  refine (HP.out _ _).mono ?_
  rintro e w2 ⟨rfl, hk⟩
  have HK2 := Lib.hid (HK1.out.trans hk (fun _ _ h => h))
  clear hk
  go_wp2
  exact bodyPost_ret (v := .tuple #[.slice none 0 0, .int .i64 x]) (by simp [results, Tryd.results8, go_sem]) rfl ⟨rfl, HK2.out⟩
set_option maxRecDepth 100000 in
/-- Encode of one that may be. -/
theorem Encode_ok (k ch ep nd : Nat) (w : World) (hc : Cm k ch ep nd) :
    Calls Tryd.prog 8 #[.agg #[.int .i64 k, .int .i64 ch, .int .u64 ep, .int .i64 nd]] w fun r w' => ∃ v, r = .returned (.tuple #[v, .int .i64 0]) ∧ BSl w' (fun k => w.heap.size ≤ k) v (cbs k ch ep nd) ∧ Kept NoB w w' := by
  have HC := Lib.hid hc
  clear hc
  go_enter Tryd.func8, Tryd.ntmps8
  go_wp2_with fail
  have HK0 := Lib.hid ((Kept.refl NoB w).alloc (.cells #[.int .i64 (k : Int), .int .i64 (ch : Int), .int .u64 (ep : Int), .int .i64 (nd : Int)] 24))
  have HB0 := Lib.hid (heap_alloc_new w (.cells #[.int .i64 (k : Int), .int .i64 (ch : Int), .int .u64 (ep : Int), .int .i64 (nd : Int)] 24))
  refine (New_any 11 _ (by decide)).mono ?_
  rintro e w1 ⟨rfl, ho, hk⟩
  have HK1 := Lib.hid (HK0.out.trans hk (fun _ _ h => h))
  have HB1 := Lib.hid (hk.heap (fun h => h) HB0.out)
  obtain ⟨c0, c1, c2, c3, _⟩ := cells4 HB1.out
  rw [show max (11 : Int) 0 = 11 from rfl] at ho
  have hz : (w.alloc (.cells #[.int .i64 (k : Int), .int .i64 (ch : Int), .int .u64 (ep : Int), .int .i64 (nd : Int)] 24)).heap.size = w.heap.size + 1 := by simp
  rw [hz] at ho
  have HO1 := Lib.hid (ho.mono (G := fun k => w.heap.size ≤ k ∧ k < w1.heap.size) (fun k h1 h2 => ⟨Nat.le_of_succ_le h2, h1⟩))
  clear hk ho
  go_wp2_with fail
  refine (Put_ok (w.heap.size + 1) [] 11 k ch ep nd (fun k => w.heap.size ≤ k ∧ k < w1.heap.size) w1 HO1.out (fun k h => h.2) HC.out (by show (0 : Int) + 11 ≤ 11; omega) (Nat.zero_le _)).mono ?_
  rintro e w2 ⟨rfl, ho, hk⟩
  have HK2 := Lib.hid (HK1.out.trans (T := fun k => w.heap.size ≤ k ∧ k < w1.heap.size) hk (fun i hi h => by have := h.1; omega))
  have HO2 := Lib.hid ho
  have HZ2 : Hid (w.heap.size ≤ w2.heap.size) := Lib.hid HK2.out.size
  clear hk ho
  go_wp2_with fail
  refine (Done_any (w.heap.size + 1) ⟨[] ++ cbs k ch ep nd, 11, 0⟩ _ w2 HO2.out (by simp [cbs_len])).mono ?_
  rintro e w3 ⟨v, rfl, hb, hk⟩
  have HK3 := Lib.hid (HK2.out.trans hk (fun _ _ h => h))
  have HB3 := Lib.hid (hb.mono (G := fun k => w.heap.size ≤ k) (fun k _ h => Nat.le_trans HZ2.out h))
  clear hk hb
  go_wp2
  exact bodyPost_ret (v := .tuple #[v, .int .i64 0]) (by simp [results, Tryd.results8, go_sem]) rfl ⟨v, rfl, HB3.out, HK3.out⟩
end Go.Proofs.YtdohnobfaignpaaDoor
