/-
  Layer 29: Add of the chapter where it succeeds.
-/
import Derived.Test.YtokafgleejcbgaaDoorDirAH
import Derived.Deep.QuietTactic
import Derived.BigQuiet
namespace Go.Proofs.YtokafgleejcbgaaDoor
open Go.RowKit
set_option linter.unusedVariables false

theorem kept_far29 {a b c : World} (h : Kept NoB a b) (k : Kept (fun i => b.heap.size ≤ i) b c) : Kept NoB a c := h.trans k (fun i hi h' => by have h' : b.heap.size ≤ i := h'; have := h.size; omega)
theorem aft_lt29 {x : List UInt8} {l : List En} {k : Nat} (h : k < aftE x l) (hl : k < l.length) : Op.bytesLess (eth l k).1 x = true := by
  unfold aftE at h
  have := List.not_of_lt_findIdx h
  rw [eth_eq hl]
  simpa using this
theorem aft_eq29 {x : List UInt8} {l : List En} (h : aftE x l < l.length) : Op.bytesLess (eth l (aftE x l)).1 x = false := by
  unfold aftE at h ⊢
  have := List.findIdx_getElem (p := fun y : En => !Op.bytesLess y.1 x) (w := h)
  rw [eth_eq h]
  simpa using this
set_option maxRecDepth 100000 in
set_option maxHeartbeats 2000000 in
theorem rAdd29_ok (v : Value) (l : List En) (n : List UInt8) (m : Int) (F : Nat → Prop) (w : World) (h : ESl w F v l) (hF : ∀ k, F k → k < w.heap.size) (hz : chkE l = 0) (ho : oneE (n, m) = 0) (ha : ¬ l.any (nmIs n) = true) (h32 : l.length ≠ 32) (hadr : PlainA v) :
    Calls Tryd.prog 8 #[v, .agg #[.string ⟨n.toArray⟩, .int .i64 m]] w (GetE29 0 (insE (n, m) l) w) := by
  obtain ⟨i0, hi0, hz0, hz1, hz2⟩ := info_parts info_ren
  have hl32 := (chkE_zero hz).1
  obtain ⟨hnm, hm1, hm2⟩ := oneE_zero ho
  simp only at hnm hm1 hm2
  have HC := Lib.hid (fun w (h : ESl w F v l) => rCheck29_any v l F w h (fun j hj => Nat.le_trans ((chkE_zero hz).2.2 _ (eth_mem hj)).1.1.2 (by decide)))
  have HN := Lib.hid (fun w => rName_l n w (Nat.le_trans hnm.1.2 (by decide)))
  have HFD := Lib.hid (fun w (h : ESl w F v l) => rFind29_any v l n F w h)
  rw [hz] at HC
  rw [decide_eq_true hnm] at HN
  rw [show fndE n l = (0, false) from by unfold fndE; rw [if_neg ha]] at HFD
  simp only at HFD
  have hie := insE_eq (n, m) l
  obtain ⟨a, cap, rfl, hmax⟩ := h.form
  unfold maxLen at hmax
  have hcap : l.length ≤ cap ∧ cap ≤ 9223372036854775807 ∧ (a = none → cap = 0) := by
    obtain ⟨a', c', he, h1, h2, h3, _⟩ := h
    injection he with he1 _ he
    subst he he1
    unfold maxLen at h2
    exact ⟨h1, by omega, h3⟩
  have HAE : Hid (¬ cap = l.length → ∃ bb oo, a = some ⟨bb, oo, none⟩) := Lib.hid (fun hne => by
    obtain ⟨a', n', c', he, hh⟩ := hadr
    injection he with he1 he2 he3
    subst he1
    rcases hh with hh | hh
    · omega
    · exact hh)
  have hk0 := (Kept.refl NoB w).alloc (.cells #[.string ⟨n.toArray⟩, .int .i64 m] 24)
  have HK0' := Lib.hid hk0
  have HB0 := Lib.hid (heap_alloc_new w (.cells #[.string ⟨n.toArray⟩, .int .i64 m] 24))
  obtain ⟨c0, c1⟩ := cell2_29 HB0.out
  have HP0 := Lib.hid (h.no hk0)
  obtain ⟨at0, hat⟩ : ∃ k, k = aftE n l := ⟨_, rfl⟩
  have HIE : Hid (insE (n, m) l = l.take at0 ++ (n, m) :: l.drop at0) := Lib.hid (by rw [hat]; exact hie)
  have HLT : Hid (∀ k, k < at0 → k < l.length → Op.bytesLess (eth l k).1 n = true) := Lib.hid (fun k h1 h2 => aft_lt29 (by rw [← hat]; exact h1) h2)
  have HEQ : Hid (at0 < l.length → Op.bytesLess (eth l at0).1 n = false) := Lib.hid (fun h => by rw [hat] at h ⊢; exact aft_eq29 h)
  have hatl : at0 ≤ l.length := by rw [hat]; unfold aftE; exact List.findIdx_le_length
  obtain ⟨sn, hsn⟩ : ∃ s : ByteArray, s = ⟨n.toArray⟩ := ⟨_, rfl⟩
  rw [← hsn] at HN HFD HK0' HB0 c0 c1 HP0 ⊢
  have HSN := Lib.hid hsn
  have HFW := Lib.hid hF
  have HLE := Lib.hid hl32
  have HCP := Lib.hid hcap
  have g32 : ((l.length : Int) == 32) = false := by simpa using (show ¬ (l.length : Int) = 32 by omega)
  have d1 : decide (m < 1) = false := decide_eq_false (by omega)
  have d2 : decide ((65535 : Int) < m) = false := decide_eq_false (by omega)
  have HML2 : Hid (at0 ≤ l.length ∧ l.length ≤ 32) := Lib.hid ⟨hatl, hl32⟩
  clear h hF hz ho ha h32 hie hat hsn hk0 hadr hnm hcap
  have HK0 := HK0'
  clear HK0'
  go_enter Tryd.func8, Tryd.ntmps8
  go_wp2_with (first
    | (go_at_call 24; refine (HC.out _ HP0.out).mono ?_; rintro e w1 ⟨rfl, hk⟩; have HK1 := Lib.hid (HK0.out.trans hk (fun _ _ h => h)); have HP1 := Lib.hid (HP0.out.no hk); have HB1 := Lib.hid (hk.heap (fun h => h) HB0.out); clear hk c0 c1; obtain ⟨c0, c1⟩ := cell2_29 HB1.out)
    | (go_at_call 25; refine (HN.out _).mono ?_; rintro e w2 ⟨rfl, hk⟩; have HK2 := Lib.hid (HK1.out.trans hk (fun _ _ h => h)); have HP2 := Lib.hid (HP1.out.no hk); have HB2 := Lib.hid (hk.heap (fun h => h) HB1.out); clear hk c0 c1; obtain ⟨c0, c1⟩ := cell2_29 HB2.out)
    | (go_at_call 12; refine (HFD.out _ HP2.out).mono ?_; rintro e w3 ⟨rfl, hk⟩; have HK3 := Lib.hid (HK2.out.trans hk (fun _ _ h => h)); have HP3 := Lib.hid (HP2.out.no hk); have HB3 := Lib.hid (hk.heap (fun h => h) HB2.out); clear hk c0 c1; obtain ⟨c0, c1⟩ := cell2_29 HB3.out))
  obtain ⟨W, hW⟩ : ∃ W, W = w3 := ⟨_, rfl⟩
  rw [← hW] at HK3 HP3 HB3 ⊢
  have HKW := HK3
  have HPW := HP3
  have HBW := HB3
  have HWW : Hid (w.heap.size < W.heap.size) := Lib.hid (heap_lt HBW.out)
  have HFF : Hid (∀ k, F k → k < W.heap.size) := Lib.hid (fun k hk => by have := HFW.out k hk; have := HWW.out; omega)
  have hcp := HCP.out
  have HKK : Hid (Kept NoB W W) := Lib.hid (Kept.refl _ _)
  clear hW HK0 HK1 HK2 HK3 HP0 HP1 HP2 HP3 HB0 HB1 HB2 HB3 HC HN HFD c0 c1 HFW
  go_loopw [9, 10] (fun o i wr => ∃ (k : Nat) (oa : Option Addr) (oc : Nat) (M : List En), k ≤ at0 ∧ i = .int .i64 k ∧ M = l.take k ∧ o = .slice oa M.length oc ∧ EOwn 24 W.heap.size wr (.slice oa M.length oc) M ∧ Kept (fun i => W.heap.size ≤ i) W wr) (fun _ i _ => at0 - (RowKit.intOf i).toNat)
  case atStart => exact ⟨0, none, 0, [], Nat.zero_le _, rfl, rfl, rfl, EOwn.nil _ _ _, Kept.refl _ _⟩
  case round =>
    obtain ⟨k, oa, oc, M, hk, rfl, hM, rfl, hown, hkk⟩ := hrel
    have HO := Lib.hid hown
    have HK := Lib.hid hkk
    have HM := Lib.hid hM
    have hbw := hkk.heap (fun h => by have h : W.heap.size ≤ w.heap.size := h; have := HWW.out; omega) HBW.out
    have HBR := Lib.hid hbw
    obtain ⟨c0, c1⟩ := cell2_29 hbw
    have HPR := Lib.hid (HPW.out.kept hkk (fun i _ hf h => by have := HFF.out i hf; have h : W.heap.size ≤ i := h; omega))
    have hk0 : (0 : Int) ≤ (k : Int) := by omega
    clear hown hM hbw
    by_cases hlt : k < at0
    · have hkl : k < l.length := by have := HML2.out; omega
      have hk1 : (k : Int) < (l.length : Int) := by omega
      have d1 : decide ((k : Int) < (l.length : Int)) = true := decide_eq_true hk1
      obtain ⟨b, o, rfl, _, _, e0, e1⟩ := HPR.out.at_ hkl
      have hless := HLT.out k hlt hkl
      have hS : l.take (k + 1) = M ++ [eth l k] := by rw [etake_snoc hkl, HM.out]
      obtain ⟨y, hy⟩ : ∃ y, y = eth l k := ⟨_, rfl⟩
      rw [← hy] at e0 e1 hS hless
      obtain ⟨x, z⟩ := y
      simp only at e0 e1 hless
      have hcmp : Op.bytesLess (⟨x.toArray⟩ : ByteArray).toList sn.toList = true := by rw [HSN.out, toL29, toL29]; exact hless
      obtain ⟨sx, hsx⟩ : ∃ s : ByteArray, s = ⟨x.toArray⟩ := ⟨_, rfl⟩
      rw [← hsx] at e0 hcmp
      have HSX := Lib.hid hsx
      have HS := Lib.hid hS
      clear hy hsx hkk hless hS
      go_wp2_with fail
      go_quiet (fail)
      have HKQ : Hid (Kept NoB wr (wr.drewN nq)) := Lib.hid ((Kept.refl NoB wr).drewN nq)
      obtain ⟨wd, hwd⟩ : ∃ wd, wd = wr.drewN nq := ⟨_, rfl⟩
      rw [← hwd] at HKQ ⊢
      have HOD := Lib.hid (HO.out.no HKQ.out)
      have HKD := Lib.hid (HK.out.trans HKQ.out (fun _ _ h => h.elim))
      have HPD := Lib.hid (HPR.out.no HKQ.out)
      clear hwd c0 c1
      obtain ⟨c0, c1⟩ := cell2_29 (HKQ.out.heap (fun h => h) HBR.out)
      have e0' := HKQ.out.cell (fun h => h) e0
      have e1' := HKQ.out.cell (fun h => h) e1
      clear e0 e1
      have hka := (Kept.refl NoB wd).alloc (.cells #[.string sx, .int .i64 z] 24)
      have HOA := Lib.hid (HOD.out.no hka)
      have HKA := Lib.hid (HKD.out.alloc (.cells #[.string sx, .int .i64 z] 24))
      have HEB : Hid ((wd.alloc (.cells #[.string sx, .int .i64 z] 24)).heap[wd.heap.size]? = some (.cells #[.string ⟨x.toArray⟩, .int .i64 z] 24 (0, 0))) := Lib.hid (by rw [← HSX.out]; exact heap_alloc_new wd _)
      have HML : Hid (M.length ≤ 100000) := Lib.hid (by rw [HM.out, List.length_take]; have := HLE.out; omega)
      clear hka
      go_wp2_with (at_builtin; refine wpList_append_e Tryd.underlying22 hi0 hz0 hz1 hz2 rfl _ rfl (.tmp 53) (.tmp 58) rfl W.heap.size _ M rfl HOA.out wd.heap.size (x, z) rfl HEB.out HML.out HKA.out.size ?_; intro a7 c7 w7 ho7 hg7; have HO7 := Lib.hid ho7; have HK7 := Lib.hid (HKA.out.trans ((Kept.refl (fun i => W.heap.size ≤ i) _).grown hg7 (fun i hi => .inl (HOA.out.row29 i hi))) (fun _ _ h => h)); clear ho7 hg7)
      refine ⟨⟨k + 1, a7, c7, M ++ [(x, z)], by omega, by go_num, HS.out.symm, by rw [List.length_append]; rfl, by rw [List.length_append]; exact HO7.out, HK7.out⟩, by simp [RowKit.intOf]; omega⟩
    · obtain rfl : k = at0 := by omega
      clear hlt hk
      by_cases hkl : k < l.length
      · have hk1 : (k : Int) < (l.length : Int) := by omega
        have d1 : decide ((k : Int) < (l.length : Int)) = true := decide_eq_true hk1
        obtain ⟨b, o, rfl, _, _, e0, e1⟩ := HPR.out.at_ hkl
        have hless := HEQ.out hkl
        have hcmp : Op.bytesLess (⟨(eth l k).1.toArray⟩ : ByteArray).toList sn.toList = false := by rw [HSN.out, toL29, toL29]; exact hless
        obtain ⟨sx, hsx⟩ : ∃ s : ByteArray, s = ⟨(eth l k).1.toArray⟩ := ⟨_, rfl⟩
        rw [← hsx] at e0 hcmp
        clear hsx hless hkk
        have hkc : (k : Int) ≤ (cap : Int) := by omega
        have hkl2 : (k : Int) ≤ (l.length : Int) := by omega
        have hcn : ¬ cap = k := by omega
        go_wp2_with fail
        go_quiet (fail)
        have HKQ : Hid (Kept NoB wr (wr.drewN nq)) := Lib.hid ((Kept.refl NoB wr).drewN nq)
        obtain ⟨wd, hwd⟩ : ∃ wd, wd = wr.drewN nq := ⟨_, rfl⟩
        rw [← hwd] at HKQ ⊢
        have HOD := Lib.hid (HO.out.no HKQ.out)
        have HKD := Lib.hid (HK.out.trans HKQ.out (fun _ _ h => h.elim))
        have HPD := Lib.hid (HPR.out.no HKQ.out)
        clear hwd c0 c1
        obtain ⟨c0, c1⟩ := cell2_29 (HKQ.out.heap (fun h => h) HBR.out)
        have HES3 := Lib.hid (show ESl wd F (.slice (some ⟨b, o + k * 2, none⟩) (l.length - k) (cap - k)) (l.drop k) from HPD.out.drop29 k (by omega))
        have hka := (Kept.refl NoB wd).alloc (.cells #[.string sn, .int .i64 m] 24)
        have HOA := Lib.hid (HOD.out.no hka)
        have HKA := Lib.hid (HKD.out.alloc (.cells #[.string sn, .int .i64 m] 24))
        have HEB : Hid ((wd.alloc (.cells #[.string sn, .int .i64 m] 24)).heap[wd.heap.size]? = some (.cells #[.string ⟨n.toArray⟩, .int .i64 m] 24 (0, 0))) := Lib.hid (by rw [← HSN.out]; exact heap_alloc_new wd _)
        have HML : Hid (M.length ≤ 100000) := Lib.hid (by rw [HM.out, List.length_take]; have := HLE.out; omega)
        have HES4 := Lib.hid (HES3.out.no hka)
        clear hka
        go_wp2_with (first
          | (at_builtin; refine wpList_append_e Tryd.underlying22 hi0 hz0 hz1 hz2 rfl _ rfl (.tmp 62) (.tmp 64) rfl W.heap.size _ M rfl HOA.out wd.heap.size (n, m) rfl HEB.out HML.out HKA.out.size ?_; intro a7 c7 w7 ho7 hg7; have HO7 := Lib.hid ho7; have hk7 := (Kept.refl (fun i => W.heap.size ≤ i) _).grown hg7 (fun i hi => .inl (HOA.out.row29 i hi)); have HK7 := Lib.hid (HKA.out.trans hk7 (fun _ _ h => h)); have HES7 := Lib.hid (HES4.out.kept hk7 (fun i _ hf h => by have := HFF.out i hf; have h : W.heap.size ≤ i := h; omega)); clear ho7 hg7 hk7)
          | (at_builtin; refine wpList_append_es Tryd.underlying22 hi0 hz0 hz1 hz2 rfl _ rfl (.tmp 66) (.tmp 69) rfl W.heap.size _ (M ++ [(n, m)]) rfl HO7.out (.slice (some ⟨b, o + k * 2, none⟩) (l.length - k) (cap - k)) (l.drop k) F rfl HES7.out (by have := HML2.out; have := HM.out; rw [List.length_append, List.length_drop, this, List.length_take]; simp; omega) HK7.out.size ?_; intro a8 c8 w8 HO8 hk8; have HK8 := Lib.hid (HK7.out.trans hk8.out (fun _ _ h => h)); clear hk8))
        exact bodyPost_ret (v := .tuple #[.slice a8 ((M ++ [(n, m)]).length + (l.drop k).length) c8, .int .i64 0]) (by simp [results, Tryd.results8, go_sem]) rfl (by rw [HIE.out, ← HM.out]; exact ⟨_, rfl, by have := HO8.out.sl; rw [List.append_assoc] at this; exact this.mono (fun i _ h => by have h : W.heap.size ≤ i := h; have := HWW.out; omega), kept_far29 HKW.out HK8.out⟩)
      · obtain rfl : k = l.length := by have := HML2.out; omega
        have d1 : decide ((l.length : Int) < (l.length : Int)) = false := decide_eq_false (by omega)
        clear hkk
        by_cases hcl : cap = l.length
        · have hl0 : (0 : Int) ≤ (l.length : Int) := by omega
          subst hcl
          go_wp2_with fail
          go_quiet (fail)
          have HKQ : Hid (Kept NoB wr (wr.drewN nq)) := Lib.hid ((Kept.refl NoB wr).drewN nq)
          obtain ⟨wd, hwd⟩ : ∃ wd, wd = wr.drewN nq := ⟨_, rfl⟩
          rw [← hwd] at HKQ ⊢
          have HOD := Lib.hid (HO.out.no HKQ.out)
          have HKD := Lib.hid (HK.out.trans HKQ.out (fun _ _ h => h.elim))
          have HPD := Lib.hid (HPR.out.no HKQ.out)
          clear hwd c0 c1
          obtain ⟨c0, c1⟩ := cell2_29 (HKQ.out.heap (fun h => h) HBR.out)
          have HES3 := Lib.hid (show ESl wd F (.slice a 0 0) (l.drop l.length) from by rw [List.drop_of_length_le (by omega)]; exact ESl.zero29 _ _ _)
          have hka := (Kept.refl NoB wd).alloc (.cells #[.string sn, .int .i64 m] 24)
          have HOA := Lib.hid (HOD.out.no hka)
          have HKA := Lib.hid (HKD.out.alloc (.cells #[.string sn, .int .i64 m] 24))
          have HEB : Hid ((wd.alloc (.cells #[.string sn, .int .i64 m] 24)).heap[wd.heap.size]? = some (.cells #[.string ⟨n.toArray⟩, .int .i64 m] 24 (0, 0))) := Lib.hid (by rw [← HSN.out]; exact heap_alloc_new wd _)
          have HML : Hid (M.length ≤ 100000) := Lib.hid (by rw [HM.out, List.length_take]; have := HLE.out; omega)
          have HES4 := Lib.hid (HES3.out.no hka)
          clear hka
          go_wp2_with (first
            | (at_builtin; refine wpList_append_e Tryd.underlying22 hi0 hz0 hz1 hz2 rfl _ rfl (.tmp 62) (.tmp 64) rfl W.heap.size _ M rfl HOA.out wd.heap.size (n, m) rfl HEB.out HML.out HKA.out.size ?_; intro a7 c7 w7 ho7 hg7; have HO7 := Lib.hid ho7; have hk7 := (Kept.refl (fun i => W.heap.size ≤ i) _).grown hg7 (fun i hi => .inl (HOA.out.row29 i hi)); have HK7 := Lib.hid (HKA.out.trans hk7 (fun _ _ h => h)); have HES7 := Lib.hid (HES4.out.kept hk7 (fun i _ hf h => by have := HFF.out i hf; have h : W.heap.size ≤ i := h; omega)); clear ho7 hg7 hk7)
            | (at_builtin; refine wpList_append_es Tryd.underlying22 hi0 hz0 hz1 hz2 rfl _ rfl (.tmp 66) (.tmp 69) rfl W.heap.size _ (M ++ [(n, m)]) rfl HO7.out (.slice a 0 0) (l.drop l.length) F rfl HES7.out (by have := HML2.out; have := HM.out; rw [List.length_append, List.length_drop, this, List.length_take]; simp; omega) HK7.out.size ?_; intro a8 c8 w8 HO8 hk8; have HK8 := Lib.hid (HK7.out.trans hk8.out (fun _ _ h => h)); clear hk8))
          exact bodyPost_ret (v := .tuple #[.slice a8 ((M ++ [(n, m)]).length + (l.drop l.length).length) c8, .int .i64 0]) (by simp [results, Tryd.results8, go_sem]) rfl (by rw [HIE.out, ← HM.out]; exact ⟨_, rfl, by have := HO8.out.sl; rw [List.append_assoc] at this; exact this.mono (fun i _ h => by have h : W.heap.size ≤ i := h; have := HWW.out; omega), kept_far29 HKW.out HK8.out⟩)
        · obtain ⟨bb, oo, rfl⟩ : ∃ bb oo, a = some ⟨bb, oo, none⟩ := HAE.out (by omega)
          have hkc : (l.length : Int) ≤ (cap : Int) := by omega
          go_wp2_with fail
          go_quiet (fail)
          have HKQ : Hid (Kept NoB wr (wr.drewN nq)) := Lib.hid ((Kept.refl NoB wr).drewN nq)
          obtain ⟨wd, hwd⟩ : ∃ wd, wd = wr.drewN nq := ⟨_, rfl⟩
          rw [← hwd] at HKQ ⊢
          have HOD := Lib.hid (HO.out.no HKQ.out)
          have HKD := Lib.hid (HK.out.trans HKQ.out (fun _ _ h => h.elim))
          have HPD := Lib.hid (HPR.out.no HKQ.out)
          clear hwd c0 c1
          obtain ⟨c0, c1⟩ := cell2_29 (HKQ.out.heap (fun h => h) HBR.out)
          have HES3 := Lib.hid (show ESl wd F (.slice (some ⟨bb, oo + l.length * 2, none⟩) 0 (cap - l.length)) (l.drop l.length) from by have := HPD.out.drop29 l.length (by omega); rwa [Nat.sub_self] at this)
          have hka := (Kept.refl NoB wd).alloc (.cells #[.string sn, .int .i64 m] 24)
          have HOA := Lib.hid (HOD.out.no hka)
          have HKA := Lib.hid (HKD.out.alloc (.cells #[.string sn, .int .i64 m] 24))
          have HEB : Hid ((wd.alloc (.cells #[.string sn, .int .i64 m] 24)).heap[wd.heap.size]? = some (.cells #[.string ⟨n.toArray⟩, .int .i64 m] 24 (0, 0))) := Lib.hid (by rw [← HSN.out]; exact heap_alloc_new wd _)
          have HML : Hid (M.length ≤ 100000) := Lib.hid (by rw [HM.out, List.length_take]; have := HLE.out; omega)
          have HES4 := Lib.hid (HES3.out.no hka)
          clear hka
          go_wp2_with (first
            | (at_builtin; refine wpList_append_e Tryd.underlying22 hi0 hz0 hz1 hz2 rfl _ rfl (.tmp 62) (.tmp 64) rfl W.heap.size _ M rfl HOA.out wd.heap.size (n, m) rfl HEB.out HML.out HKA.out.size ?_; intro a7 c7 w7 ho7 hg7; have HO7 := Lib.hid ho7; have hk7 := (Kept.refl (fun i => W.heap.size ≤ i) _).grown hg7 (fun i hi => .inl (HOA.out.row29 i hi)); have HK7 := Lib.hid (HKA.out.trans hk7 (fun _ _ h => h)); have HES7 := Lib.hid (HES4.out.kept hk7 (fun i _ hf h => by have := HFF.out i hf; have h : W.heap.size ≤ i := h; omega)); clear ho7 hg7 hk7)
            | (at_builtin; refine wpList_append_es Tryd.underlying22 hi0 hz0 hz1 hz2 rfl _ rfl (.tmp 66) (.tmp 69) rfl W.heap.size _ (M ++ [(n, m)]) rfl HO7.out (.slice (some ⟨bb, oo + l.length * 2, none⟩) 0 (cap - l.length)) (l.drop l.length) F rfl HES7.out (by have := HML2.out; have := HM.out; rw [List.length_append, List.length_drop, this, List.length_take]; simp; omega) HK7.out.size ?_; intro a8 c8 w8 HO8 hk8; have HK8 := Lib.hid (HK7.out.trans hk8.out (fun _ _ h => h)); clear hk8))
          exact bodyPost_ret (v := .tuple #[.slice a8 ((M ++ [(n, m)]).length + (l.drop l.length).length) c8, .int .i64 0]) (by simp [results, Tryd.results8, go_sem]) rfl (by rw [HIE.out, ← HM.out]; exact ⟨_, rfl, by have := HO8.out.sl; rw [List.append_assoc] at this; exact this.mono (fun i _ h => by have h : W.heap.size ≤ i := h; have := HWW.out; omega), kept_far29 HKW.out HK8.out⟩)
end Go.Proofs.YtokafgleejcbgaaDoor
