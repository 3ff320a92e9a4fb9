/-
  Layer 29: Remove of the chapter.
-/
import Derived.Test.YtokafgleejcbgaaDoorDirAC
namespace Go.Proofs.YtokafgleejcbgaaDoor
open Go.RowKit
set_option linter.unusedVariables false

set_option maxRecDepth 100000 in
set_option maxHeartbeats 2000000 in
theorem rRemove29_any (v : Value) (l : List En) (n : List UInt8) (F : Nat → Prop) (w : World) (h : ESl w F v l) (hkeys : ∀ j, j < l.length → (eth l j).1.length ≤ 1000000) :
    Calls Tryd.prog 10 #[v, .string ⟨n.toArray⟩] w (GetE29 (remE n l).1 (remE n l).2 w) := by
  obtain ⟨i0, hi0, hz0, hz1, hz2⟩ := info_parts info_ren
  have HC := Lib.hid (rCheck29_any v l F w h hkeys)
  obtain ⟨a, cap, rfl, hmax⟩ := h.form
  unfold maxLen at hmax
  have HP := Lib.hid h
  obtain ⟨sn, hsn⟩ : ∃ s : ByteArray, s = ⟨n.toArray⟩ := ⟨_, rfl⟩
  rw [← hsn]
  have HSN := Lib.hid hsn
  clear h hkeys hsn
  by_cases hz : chkE l ≠ 0
  · have hr : remE n l = (chkE l, []) := by unfold remE; rw [if_pos hz]
    rw [hr]
    obtain ⟨er, her⟩ : ∃ q, q = chkE l := ⟨_, rfl⟩
    rw [← her] at HC hz ⊢
    have g1 : (er != 0) = true := bne_iff_ne.2 hz
    clear hr her hz
    go_enter Tryd.func10, Tryd.ntmps10
    go_wp2_with (go_at_call 24; refine HC.out.mono ?_; rintro e w1 ⟨rfl, hk⟩; have HK1 := Lib.hid hk; clear hk)
    exact bodyPost_ret (v := .tuple #[.slice none 0 0, .int .i64 er]) (by simp [results, Tryd.results10, go_sem]) rfl (GetE29.nil rfl HK1.out)
  · have hzz : chkE l = 0 := Decidable.not_not.1 hz
    have hl32 := (chkE_zero hzz).1
    have hfl := filter_rem29 (n := n) (chkE_rise hzz).1
    have HFL := Lib.hid hfl
    rw [hzz] at HC
    have hre : remE n l = if l.any (nmIs n) = true then (0, l.take (l.findIdx (nmIs n)) ++ l.drop (l.findIdx (nmIs n) + 1)) else (13, []) := by unfold remE; rw [if_neg hz]
    have HRE := Lib.hid hre
    clear hz hzz hfl hre
    go_enter Tryd.func10, Tryd.ntmps10
    go_wp2_with (go_at_call 24; refine HC.out.mono ?_; rintro e w1 ⟨rfl, hk⟩; have HK1 := Lib.hid hk; clear hk)
    go_loopw [7, 8] (fun o i wr => ∃ (k : Nat) (oa : Option Addr) (oc : Nat) (M : List En), k ≤ l.length ∧ i = .int .i64 k ∧ M = (l.take k).filter (fun p => !nmIs n p) ∧ M.length ≤ k ∧ o = .slice oa M.length oc ∧ EOwn 24 w.heap.size wr (.slice oa M.length oc) M ∧ Kept (fun i => w.heap.size ≤ i) w wr) (fun _ i _ => l.length - (RowKit.intOf i).toNat)
    case atStart => exact ⟨0, none, 0, [], Nat.zero_le _, rfl, rfl, Nat.le_refl _, rfl, EOwn.nil _ _ _, HK1.out.mono (fun _ _ h => h.elim)⟩
    case round =>
      obtain ⟨k, oa, oc, M, hk, rfl, hM, hMk, rfl, hown, hkk⟩ := hrel
      have HO := Lib.hid hown
      have HK := Lib.hid hkk
      have HM := Lib.hid hM
      clear hown hM
      by_cases hlt : k < l.length
      · have hk1 : (k : Int) < (l.length : Int) := by omega
        have hk0 : (0 : Int) ≤ (k : Int) := by omega
        obtain ⟨b, o, rfl, _, _, e0, e1⟩ := (HP.out.no (kept_new29 hkk)).at_ hlt
        have hS : (l.take (k + 1)).filter (fun p => !nmIs n p) = M ++ (if nmIs n (eth l k) = true then [] else [eth l k]) := by
          rw [etake_snoc hlt, List.filter_append, ← HM.out]
          congr 1
          rw [List.filter_cons]
          cases nmIs n (eth l k) <;> rfl
        obtain ⟨y, hy⟩ : ∃ y, y = eth l k := ⟨_, rfl⟩
        rw [← hy] at e0 e1 hS
        obtain ⟨x, z⟩ := y
        simp only at e0 e1
        have hcmp : nmIs n (x, z) = ((⟨x.toArray⟩ : ByteArray).toList == sn.toList) := by rw [HSN.out, toL29, toL29]; rfl
        obtain ⟨sx, hsx⟩ : ∃ s : ByteArray, s = ⟨x.toArray⟩ := ⟨_, rfl⟩
        rw [← hsx] at e0 hcmp
        have HSX := Lib.hid hsx
        have hka := (Kept.refl NoB wr).alloc (.cells #[.string sx, .int .i64 z] 24)
        have HOA := Lib.hid (HO.out.no hka)
        have HKA := Lib.hid (HK.out.alloc (.cells #[.string sx, .int .i64 z] 24))
        have HEB : Hid ((wr.alloc (.cells #[.string sx, .int .i64 z] 24)).heap[wr.heap.size]? = some (.cells #[.string ⟨x.toArray⟩, .int .i64 z] 24 (0, 0))) := Lib.hid (by rw [← HSX.out]; exact heap_alloc_new wr _)
        have HML : Hid (M.length ≤ 100000) := Lib.hid (by omega)
        clear hy hsx hkk hka
        cases hpy : nmIs n (x, z) with
        | true =>
          have g1 := hcmp.symm.trans hpy
          rw [if_pos hpy, List.append_nil] at hS
          have HS := Lib.hid hS
          clear hpy hcmp hS
          go_wp2_with fail
          exact ⟨⟨k + 1, oa, oc, M, by omega, by go_num, HS.out.symm, by omega, rfl, HO.out, HK.out⟩, by simp [RowKit.intOf]; omega⟩
        | false =>
          have g1 := hcmp.symm.trans hpy
          rw [if_neg (by rw [hpy]; simp)] at hS
          have HS := Lib.hid hS
          clear hpy hcmp hS
          go_wp2_with (at_builtin; refine wpList_append_e Tryd.underlying22 hi0 hz0 hz1 hz2 rfl _ rfl (.tmp 27) (.tmp 32) rfl w.heap.size _ M rfl HOA.out wr.heap.size (x, z) rfl HEB.out HML.out HKA.out.size ?_; intro a7 c7 w7 ho7 hg7; have HO7 := Lib.hid ho7; have HK7 := Lib.hid (HKA.out.trans ((Kept.refl (fun i => w.heap.size ≤ i) _).grown hg7 (fun i hi => .inl (HOA.out.row29 i hi))) (fun _ _ h => h)); clear ho7 hg7)
          refine ⟨⟨k + 1, a7, c7, M ++ [(x, z)], by omega, by go_num, HS.out.symm, by rw [List.length_append]; show M.length + 1 ≤ k + 1; omega, by rw [List.length_append]; rfl, by rw [List.length_append]; exact HO7.out, HK7.out⟩, by simp [RowKit.intOf]; omega⟩
      · obtain rfl : k = l.length := by omega
        have hM := HM.out
        rw [List.take_length, HFL.out] at hM
        have hre := HRE.out
        by_cases ha : l.any (nmIs n) = true
        · rw [if_pos ha] at hM hre
          rw [← hM] at hre
          have hlt : l.findIdx (nmIs n) < l.length := List.findIdx_lt_length_of_exists (by simpa using List.any_eq_true.1 ha)
          have hml : M.length + 1 = l.length := by rw [hM, List.length_append, List.length_take, List.length_drop]; omega
          have HR2 := Lib.hid hre
          have g1 : ((M.length : Int) == (l.length : Int)) = false := by simpa using (show ¬ (M.length : Int) = (l.length : Int) by omega)
          clear hM hre ha hlt hml hkk
          go_wp2_with fail
          exact bodyPost_ret (v := .tuple #[.slice oa M.length oc, .int .i64 0]) (by simp [results, Tryd.results10, go_sem]) rfl (by rw [HR2.out]; exact ⟨_, rfl, HO.out.sl, kept_new29 HK.out⟩)
        · rw [if_neg ha] at hM hre
          have HR2 := Lib.hid hre
          have hml : M.length = l.length := by rw [hM]
          have g1 : ((M.length : Int) == (l.length : Int)) = true := by simpa using (show (M.length : Int) = (l.length : Int) by omega)
          clear hM hre ha hml hkk
          go_wp2_with fail
          exact bodyPost_ret (v := .tuple #[.slice none 0 0, .int .i64 13]) (by simp [results, Tryd.results10, go_sem]) rfl (by rw [HR2.out]; exact GetE29.nil rfl (kept_new29 HK.out))
end Go.Proofs.YtokafgleejcbgaaDoor
