/-
  Package cmds: Parse.
-/
import Derived.Test.YtdohnobfaignpaaDoorCmdF
namespace Go.Proofs.YtdohnobfaignpaaDoor
open Go.RowKit Go.Sort Go.Lib
set_option linter.unusedVariables false

/-- A command that may be, in numbers; its text. -/
def Cm (k ch ep nd : Nat) : Prop := Vld k ch ep nd ∧ ep < 18446744073709551616
def txtOf (k ch ep nd : Nat) : List UInt8 := if k = 0 then nmL 0 else txtL k ch ep nd
theorem txtOf_len {k ch ep nd : Nat} (h : Cm k ch ep nd) : (txtOf k ch ep nd).length ≤ 100 := by
  obtain ⟨h1, h2⟩ := h
  unfold txtOf
  split
  · decide
  · unfold Vld at h1
    exact txtL_len k ch ep nd (by omega) h2 (by omega)
/-- What a text tells is the command of which it is the text. -/
theorem told_of {s : ByteArray} {k ch ep nd k' ch' ep' nd' : Nat} (h : ToldIs s k' ch' ep' nd') (hc : Cm k ch ep nd) (hs : s.data.toList = txtOf k ch ep nd) : k' = k ∧ ch' = ch ∧ ep' = ep ∧ nd' = nd := by
  have hM : MaxU = 18446744073709551615 := rfl
  obtain ⟨hk, h⟩ := h
  obtain ⟨hv, he⟩ := hc
  unfold txtOf at hs
  by_cases h0 : k = 0
  · rw [if_pos h0] at hs
    have hp := pcs_zero s hs
    have hl : (pcs s).length = 1 := by rw [← List.length_map (f := (·.data.toList)), hp]; rfl
    have hk0 := hk.of (i := 0) (by omega) (pc_of s _ hp 0 (by simp))
    unfold Vld at hv
    rcases h with ⟨h4, _⟩ | ⟨_, rfl, rfl, rfl⟩
    · omega
    · omega
  · rw [if_neg h0] at hs
    have hp := pcs_txt s k ch ep nd hs
    have hl : (pcs s).length = 4 := by rw [← List.length_map (f := (·.data.toList)), hp]; rfl
    have hk0 := hk.of (i := k) (by unfold Vld at hv; omega) (pc_of s _ hp 0 (by simp))
    rcases h with ⟨_, e1, e2, e3, a, b, c⟩ | ⟨h4, _⟩
    · rw [pc_of s _ hp 1 (by simp)] at a
      rw [pc_of s _ hp 3 (by simp)] at b
      rw [pc_of s _ hp 2 (by simp)] at c
      unfold Vld at hv
      have a1 := (num_dec ch 3 (by omega) (by omega)).one a
      have b1 := (num_dec nd 24 (by omega) (by omega)).one b
      have c1 := (num_dec ep MaxU (by omega) (by omega)).one c
      omega
    · exact absurd hl h4
/-- What Parse tells. -/
def PEnd (s : ByteArray) (w : World) (e : Ending) (w' : World) : Prop :=
  ((∃ k ch ep nd : Nat, Cm k ch ep nd ∧ s.data.toList = txtOf k ch ep nd ∧ e = .returned (.tuple #[.agg #[.int .i64 k, .int .i64 ch, .int .u64 ep, .int .i64 nd], .int .i64 0])) ∨
   ((∀ k ch ep nd : Nat, Cm k ch ep nd → s.data.toList ≠ txtOf k ch ep nd) ∧ e = .returned (.tuple #[.agg #[.int .i64 0, .int .i64 0, .int .u64 0, .int .i64 0], .int .i64 4]))) ∧ Kept NoB w w'
theorem TextOf_any (k ch ep nd : Nat) (w : World) (hv : Vars w) (h : Cm k ch ep nd) :
    Calls Tryd.prog 9 #[.agg #[.int .i64 k, .int .i64 ch, .int .u64 ep, .int .i64 nd]] w (TextEnd (txtOf k ch ep nd) 0 w) := by
  obtain ⟨h, he⟩ := h
  unfold Vld at h
  unfold txtOf
  by_cases h0 : k = 0
  · rw [if_pos h0]
    obtain rfl := h0
    obtain rfl : ch = 0 := by omega
    obtain rfl : ep = 0 := by omega
    obtain rfl : nd = 0 := by omega
    exact Text_zero w hv
  · rw [if_neg h0]
    exact CText_any k ch ep nd w hv (by omega) (by omega) (by omega) (by omega) he (by omega) (by omega)
set_option maxRecDepth 100000 in
set_option maxHeartbeats 1000000 in
theorem Parse_any (s : ByteArray) (w : World) (hs : s.size ≤ 1000000) (hv : Vars w) : Calls Tryd.prog 15 #[.string s] w (PEnd s w) := by
  have HV := Lib.hid hv
  have HT : Hid (∀ w, Vars w → Calls Tryd.prog 37 #[.string s] w (ToldEnd s w)) := Lib.hid (fun w hv => told_any s w hs hv)
  clear hv
  go_enter Tryd.func15, Tryd.ntmps15
  go_wp2_with fail
  have HK0 := Lib.hid ((Kept.refl NoB w).alloc (.cells #[.int .i64 0, .int .i64 0, .int .u64 0, .int .i64 0] 24))
  refine (HT.out _ (HV.out.kept HK0.out)).mono ?_
  rintro e w1 ⟨k, ch, ep, nd, hT, rfl, hk⟩
  have hr := hk.heap (fun h => h) (heap_alloc_new w (.cells #[.int .i64 0, .int .i64 0, .int .u64 0, .int .i64 0] 24))
  have HK1 := Lib.hid (HK0.out.trans hk (fun _ _ h => h))
  have HTI := Lib.hid hT
  have hep := hT.le.2.2.1
  have HR := Lib.hid hr
  have hlt := heap_lt hr
  clear hk hr hT HT
  have hc1 := heap_alloc_new w1 (.cells #[.int .i64 (k : Int), .int .i64 (ch : Int), .int .u64 (ep : Int), .int .i64 (nd : Int)] 24)
  have hr1 := balloc HR.out (.cells #[.int .i64 (k : Int), .int .i64 (ch : Int), .int .u64 (ep : Int), .int .i64 (nd : Int)] 24)
  have HC1 := Lib.hid hc1
  have HR1 := Lib.hid hr1
  have HK2 := Lib.hid (HK1.out.alloc (.cells #[.int .i64 (k : Int), .int .i64 (ch : Int), .int .u64 (ep : Int), .int .i64 (nd : Int)] 24))
  clear hc1 hr1
  by_cases hV : Vld k ch ep nd
  · have HX := Lib.hid (TextOf_any k ch ep nd _ (HV.out.kept HK2.out) ⟨hV, hep⟩)
    have HVL := Lib.hid hV
    clear hV
    go_wp2_with fail
    refine HX.out.mono ?_
    rintro e w2 ⟨rfl, hk⟩
    have hr2 := hk.heap (fun h => h) HR1.out
    have hc2 := hk.heap (fun h => h) HC1.out
    have HK3 := Lib.hid (HK2.out.trans hk (fun _ _ h => h))
    have HR2 := Lib.hid hr2
    have HC2 := Lib.hid hc2
    obtain ⟨r0, r1, r2, r3, f0, f1, f2, f3⟩ := cells4 hr2
    obtain ⟨b0, b1, b2, b3, _⟩ := cells4 hc2
    have hlt2 := heap_lt hr2
    clear hk hr2 hc2 HX
    by_cases heq : s.data.toList = txtOf k ch ep nd
    · have HEQ := Lib.hid heq
      have h1 : s.toList = txtOf k ch ep nd := by rw [toL]; exact heq
      obtain ⟨t, ht⟩ : ∃ t, t = txtOf k ch ep nd := ⟨_, rfl⟩
      rw [← ht] at h1 ⊢
      clear heq ht
      go_wp2
      have hfin := cmd_cells (k := k) (ch := ch) (ep := ep) (nd := nd) HR2.out
      have hkf := cmd_kept (k := k) (ch := ch) (ep := ep) (nd := nd) HK3.out (Nat.le_refl w.heap.size)
      generalize hW : World.setCell (World.setCell (World.setCell (World.setCell w2 _ _) _ _) _ _) _ _ = W at hfin hkf ⊢
      obtain ⟨r0, r1, r2, r3, _⟩ := cells4 hfin
      exact bodyPost_ret (v := .tuple #[.agg #[.int .i64 k, .int .i64 ch, .int .u64 ep, .int .i64 nd], .int .i64 0]) (by simp [results, Tryd.results15, go_sem, r0, r1, r2, r3]) rfl ⟨.inl ⟨k, ch, ep, nd, ⟨HVL.out, hep⟩, HEQ.out, rfl⟩, hkf⟩
    · have HNO : Hid (∀ k ch ep nd : Nat, Cm k ch ep nd → s.data.toList ≠ txtOf k ch ep nd) := Lib.hid (fun k' ch' ep' nd' hc h => by
        obtain ⟨rfl, rfl, rfl, rfl⟩ := told_of HTI.out hc h
        exact heq h)
      have h1 : ¬ txtOf k ch ep nd = s.toList := fun h => heq (by rw [← toL]; exact h.symm)
      obtain ⟨t, ht⟩ : ∃ t, t = txtOf k ch ep nd := ⟨_, rfl⟩
      rw [← ht] at h1 ⊢
      have h2 : (t != s.toList) = true := by simpa using h1
      have h3 : (t == s.toList) = false := by simpa using h1
      clear heq ht
      go_wp2
      have hfin := cmd_cells (k := 0) (ch := 0) (ep := 0) (nd := 0) HR2.out
      have hkf := cmd_kept (k := 0) (ch := 0) (ep := 0) (nd := 0) HK3.out (Nat.le_refl w.heap.size)
      generalize hW : World.setCell (World.setCell (World.setCell (World.setCell w2 _ _) _ _) _ _) _ _ = W at hfin hkf ⊢
      obtain ⟨r0, r1, r2, r3, _⟩ := cells4 hfin
      exact bodyPost_ret (v := .tuple #[.agg #[.int .i64 0, .int .i64 0, .int .u64 0, .int .i64 0], .int .i64 4]) (by simp [results, Tryd.results15, go_sem, r0, r1, r2, r3]) rfl ⟨.inr ⟨HNO.out, rfl⟩, hkf⟩
  · have HNO : Hid (∀ k ch ep nd : Nat, Cm k ch ep nd → s.data.toList ≠ txtOf k ch ep nd) := Lib.hid (fun k' ch' ep' nd' hc h => by
      obtain ⟨rfl, rfl, rfl, rfl⟩ := told_of HTI.out hc h
      exact hV hc.1)
    obtain ⟨x, hx⟩ : ∃ x, Chk k ch ep nd x := ⟨_, chk_is _ _ _ _⟩
    have hx0 : x ≠ 0 := fun h => hV (Chk.ok.1 (h ▸ hx))
    have HX := Lib.hid (Text_bad k ch ep nd x (w1.alloc (.cells #[.int .i64 (k : Int), .int .i64 (ch : Int), .int .u64 (ep : Int), .int .i64 (nd : Int)] 24)) (by omega) hx hx0)
    have hxb : ((x : Int) != 0) = true := by simpa using hx0
    clear hV hx hx0
    go_wp2_with fail
    refine HX.out.mono ?_
    rintro e w2 ⟨rfl, hk⟩
    have hr2 := hk.heap (fun h => h) HR1.out
    have HK3 := Lib.hid (HK2.out.trans hk (fun _ _ h => h))
    have HR2 := Lib.hid hr2
    obtain ⟨r0, r1, r2, r3, f0, f1, f2, f3⟩ := cells4 hr2
    have hlt2 := heap_lt hr2
    clear hk hr2 HX
    go_wp2
    have hfin := cmd_cells (k := 0) (ch := 0) (ep := 0) (nd := 0) HR2.out
    have hkf := cmd_kept (k := 0) (ch := 0) (ep := 0) (nd := 0) HK3.out (Nat.le_refl w.heap.size)
    generalize hW : World.setCell (World.setCell (World.setCell (World.setCell w2 _ _) _ _) _ _) _ _ = W at hfin hkf ⊢
    obtain ⟨r0, r1, r2, r3, _⟩ := cells4 hfin
    exact bodyPost_ret (v := .tuple #[.agg #[.int .i64 0, .int .i64 0, .int .u64 0, .int .i64 0], .int .i64 4]) (by simp [results, Tryd.results15, go_sem, r0, r1, r2, r3]) rfl ⟨.inr ⟨HNO.out, rfl⟩, hkf⟩
end Go.Proofs.YtdohnobfaignpaaDoor
