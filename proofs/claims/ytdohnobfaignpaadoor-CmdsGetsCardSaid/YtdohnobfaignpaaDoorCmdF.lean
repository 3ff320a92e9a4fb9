/-
  Package cmds: told, Parse.
-/
import Derived.Test.YtdohnobfaignpaaDoorCmdE
import Derived.Test.YtdohnobfaignpaaDoorRefB
namespace Go.Proofs.YtdohnobfaignpaaDoor
open Go.RowKit Go.Sort Go.Lib
set_option linter.unusedVariables false

theorem extract_le (s : ByteArray) (a b : Nat) : (s.extract a b).size ≤ s.size := by
  rw [ByteArray.size_extract]
  omega
theorem splitB_size (sep : ByteArray) (k : Nat) : ∀ (s : ByteArray), ∀ p ∈ Lib.splitB sep 0 k s, p.size ≤ s.size := by
  induction k with
  | zero => intro s p hp; simp [Lib.splitB] at hp; subst hp; exact Nat.le_refl _
  | succ k ih =>
    intro s p hp
    unfold Lib.splitB at hp
    split at hp
    · have : p = s := by simpa using hp
      rw [this]; exact Nat.le_refl _
    · rcases List.mem_cons.1 hp with rfl | hp
      · exact extract_le _ _ _
      · exact Nat.le_trans (ih _ p hp) (extract_le _ _ _)
theorem pc_size (s : ByteArray) (i : Nat) : (pc s i).size ≤ s.size := by
  unfold pc
  by_cases h : i < (pcs s).length
  · rw [List.getD_eq_getElem?_getD, List.getElem?_eq_getElem h]
    exact splitB_size _ _ s _ (List.getElem_mem h)
  · rw [List.getD_eq_getElem?_getD, List.getElem?_eq_none (by omega)]
    exact Nat.zero_le _
/-- What a text tells. -/
def ToldIs (s : ByteArray) (k ch ep nd : Nat) : Prop :=
  KindIs (pc s 0) k ∧ (((pcs s).length = 4 ∧ ∃ e1 e2 e3, NumIs (pc s 1).data.toList 3 ch e1 ∧ NumIs (pc s 3).data.toList 24 nd e2 ∧ NumIs (pc s 2).data.toList MaxU ep e3) ∨ ((pcs s).length ≠ 4 ∧ ch = 0 ∧ ep = 0 ∧ nd = 0))
theorem ToldIs.le {s : ByteArray} {k ch ep nd : Nat} (h : ToldIs s k ch ep nd) : k ≤ 5 ∧ ch ≤ 3 ∧ ep < 18446744073709551616 ∧ nd ≤ 24 := by
  have hM : MaxU = 18446744073709551615 := rfl
  obtain ⟨⟨h1, _, _⟩, ⟨_, e1, e2, e3, a, b, c⟩ | ⟨_, rfl, rfl, rfl⟩⟩ := h
  · have := a.le; have := b.le; have := c.le
    omega
  · omega
def ToldEnd (s : ByteArray) (w : World) (e : Ending) (w' : World) : Prop := ∃ k ch ep nd : Nat, ToldIs s k ch ep nd ∧ e = .returned (.agg #[.int .i64 k, .int .i64 ch, .int .u64 ep, .int .i64 nd]) ∧ Kept NoB w w'
theorem bset {w : World} {g : Nat} {cs : Array Value} {t : TypeId} {fr : Nat × Nat} (h : w.heap[g]? = some (.cells cs t fr)) (i : Nat) (u : Value) :
    (w.setCell ⟨g, i, none⟩ u).heap[g]? = some (.cells (cs.setIfInBounds i u) t fr) := by simp [World.setCell, Array.getElem?_modify, h]
theorem bset_other {w : World} {g k : Nat} {o : Obj} (h : w.heap[g]? = some o) (i : Nat) (u : Value) (hk : k ≠ g) :
    (w.setCell ⟨k, i, none⟩ u).heap[g]? = some o := by simp [World.setCell, Array.getElem?_modify, h, hk]
theorem balloc {w : World} {g : Nat} {o : Obj} (h : w.heap[g]? = some o) (x : Obj) : (w.alloc x).heap[g]? = some o := (heap_alloc_old w x (heap_lt h)).trans h
/-- A result that was laid into its block. -/
theorem cmd_cells {w : World} {b : Nat} {k ch ep nd : Int} {x0 x1 x2 x3 : Value} (h : w.heap[b]? = some (.cells #[x0, x1, x2, x3] 24 (0, 0))) :
    ((((w.setCell ⟨b, 0, none⟩ (.int .i64 k)).setCell ⟨b, 1, none⟩ (.int .i64 ch)).setCell ⟨b, 2, none⟩ (.int .u64 ep)).setCell ⟨b, 3, none⟩ (.int .i64 nd)).heap[b]? = some (.cells #[.int .i64 k, .int .i64 ch, .int .u64 ep, .int .i64 nd] 24 (0, 0)) := by
  simp [World.setCell, Array.getElem?_modify, h]
theorem cmd_kept {w0 w : World} {b : Nat} {k ch ep nd : Int} (h : Kept NoB w0 w) (hb : w0.heap.size ≤ b) :
    Kept NoB w0 ((((w.setCell ⟨b, 0, none⟩ (.int .i64 k)).setCell ⟨b, 1, none⟩ (.int .i64 ch)).setCell ⟨b, 2, none⟩ (.int .u64 ep)).setCell ⟨b, 3, none⟩ (.int .i64 nd)) :=
  (((h.new hb _ _).new hb _ _).new hb _ _).new hb _ _
theorem cells4 {w : World} {b : Nat} {k ch ep nd : Int} {t : TypeId} (h : w.heap[b]? = some (.cells #[.int .i64 k, .int .i64 ch, .int .u64 ep, .int .i64 nd] t (0, 0))) :
    w.cell? ⟨b, 0, none⟩ = some (.int .i64 k) ∧ w.cell? ⟨b, 1, none⟩ = some (.int .i64 ch) ∧ w.cell? ⟨b, 2, none⟩ = some (.int .u64 ep) ∧ w.cell? ⟨b, 3, none⟩ = some (.int .i64 nd) ∧
    w.frozen? ⟨b, 0, none⟩ = false ∧ w.frozen? ⟨b, 1, none⟩ = false ∧ w.frozen? ⟨b, 2, none⟩ = false ∧ w.frozen? ⟨b, 3, none⟩ = false :=
  ⟨cell_of_row _ _ 0 _ _ _ h, cell_of_row _ _ 1 _ _ _ h, cell_of_row _ _ 2 _ _ _ h, cell_of_row _ _ 3 _ _ _ h, by simp [World.frozen?, h], by simp [World.frozen?, h], by simp [World.frozen?, h], by simp [World.frozen?, h]⟩
set_option maxRecDepth 100000 in
set_option maxHeartbeats 1000000 in
theorem told_any (s : ByteArray) (w : World) (hs : s.size ≤ 1000000) (hv : Vars w) : Calls Tryd.prog 37 #[.string s] w (ToldEnd s w) := by
  have hl := pcs_len s
  have HZ := Lib.hid (pc_size s)
  have HV := Lib.hid hv
  have HSP : Hid (∀ w, Vars w → Calls Tryd.prog 54 #[.string s, .string ⟨#[32]⟩, .int .i64 5] w fun e w' => ∃ cap, e = .returned (.slice (some ⟨w.heap.size, 0, none⟩) (pcs s).length cap) ∧ w.heap.size < w'.heap.size ∧
      (∀ i, i < (pcs s).length → w'.cell? ⟨w.heap.size, i, none⟩ = some (.string (pc s i))) ∧ Kept NoB w w') := Lib.hid (fun w hv => Split_any s w hs hv)
  clear hv
  go_enter Tryd.func37, Tryd.ntmps37
  go_wp2_with fail
  have HK0 := Lib.hid ((Kept.refl NoB w).alloc (.cells #[.int .i64 0, .int .i64 0, .int .u64 0, .int .i64 0] 24))
  refine (HSP.out _ (HV.out.kept HK0.out)).mono ?_
  rintro e w1 ⟨cap, rfl, hlt, hc, hk⟩
  have hsz : (w.alloc (.cells #[.int .i64 0, .int .i64 0, .int .u64 0, .int .i64 0] 24)).heap.size = w.heap.size + 1 := by simp
  rw [hsz] at hc hlt
  have hr := hk.heap (fun h => h) (heap_alloc_new w (.cells #[.int .i64 0, .int .i64 0, .int .u64 0, .int .i64 0] 24))
  have HK1 := Lib.hid (HK0.out.trans hk (fun _ _ h => h))
  have HC := Lib.hid hc
  have HR := Lib.hid hr
  have c0 := hc 0 (by omega)
  have HM := Lib.hid (kindOf_any (pc s 0) w1 (HV.out.kept HK1.out))
  clear hk hc hr HSP hsz
  go_wp2_with fail
  refine HM.out.mono ?_
  rintro e w' ⟨⟨k, hk, rfl⟩, rfl⟩
  have HKI := Lib.hid hk
  clear hk
  by_cases h4 : (pcs s).length = 4
  · have hl4 : (((pcs s).length : Int) == 4) = true := by simpa using (by omega : ((pcs s).length : Int) = 4)
    have p1 := HC.out 1 (by omega)
    have p2 := HC.out 2 (by omega)
    have p3 := HC.out 3 (by omega)
    have h41 : 4 ≤ (pcs s).length := by omega
    have hq1 := HZ.out 1
    have hq2 := HZ.out 2
    have hq3 := HZ.out 3
    have HN1 : Hid (∀ w, Vars w → Calls Tryd.prog 29 #[.string (pc s 1), .int .u64 3] w (NumEnds (pc s 1).data.toList 3 w)) := Lib.hid (fun w hv => Number_any (pc s 1) 3 w (by decide) (by omega) hv)
    have HN3 : Hid (∀ w, Vars w → Calls Tryd.prog 29 #[.string (pc s 3), .int .u64 24] w (NumEnds (pc s 3).data.toList 24 w)) := Lib.hid (fun w hv => Number_any (pc s 3) 24 w (by decide) (by omega) hv)
    have HN2 : Hid (∀ w, Vars w → Calls Tryd.prog 29 #[.string (pc s 2), .int .u64 18446744073709551615] w (NumEnds (pc s 2).data.toList MaxU w)) := Lib.hid (fun w hv => Number_any (pc s 2) MaxU w (by decide) (by omega) hv)
    clear hq1 hq2 hq3
    have hc1 : w1.heap.size < (w1.alloc (.cells #[.int .i64 (k : Int), .int .i64 0, .int .u64 0, .int .i64 0] 24)).heap.size := by simp
    go_wp2_with fail
    refine (HN1.out _ (HV.out.kept (HK1.out.alloc _))).mono ?_
    rintro e w2 ⟨ch, e1, hn1, rfl, hk⟩
    have hr2 := hk.heap (fun h => h) (balloc HR.out (.cells #[.int .i64 (k : Int), .int .i64 0, .int .u64 0, .int .i64 0] 24))
    have hb2 := hk.heap (fun h => h) (heap_alloc_new w1 (.cells #[.int .i64 (k : Int), .int .i64 0, .int .u64 0, .int .i64 0] 24))
    have q2 := hk.cell (p := ⟨w.heap.size + 1, 2, none⟩) (fun h => h) (cell_alloc p2 _)
    have q3 := hk.cell (p := ⟨w.heap.size + 1, 3, none⟩) (fun h => h) (cell_alloc p3 _)
    have HK2 := Lib.hid ((HK1.out.alloc _).trans hk (fun _ _ h => h))
    have hch := hn1.le.2
    have HR2 := Lib.hid hr2
    have HB2 := Lib.hid hb2
    have HNI1 := Lib.hid hn1
    clear p1 p2 p3 hk hr2 hb2 hn1 hc1
    go_wp2_with fail
    refine (HN3.out _ (HV.out.kept HK2.out)).mono ?_
    rintro e w3 ⟨nd, e2, hn3, rfl, hk⟩
    have hr3 := hk.heap (fun h => h) HR2.out
    have hb3 := hk.heap (fun h => h) HB2.out
    have t2 := hk.cell (p := ⟨w.heap.size + 1, 2, none⟩) (fun h => h) q2
    have HK3 := Lib.hid (HK2.out.trans hk (fun _ _ h => h))
    have hnd := hn3.le.2
    have HR3 := Lib.hid hr3
    have HB3 := Lib.hid hb3
    have HNI3 := Lib.hid hn3
    have hne : w1.heap.size ≠ w.heap.size := by omega
    have hne2 : w1.heap.size ≠ w.heap.size + 1 := by omega
    obtain ⟨a0, a1, a2, a3, g0, g1, g2, g3⟩ := cells4 hb3
    have hlt3 := heap_lt hb3
    have hch0 : (ch : Int) ≤ 3 := by omega
    have hnd0 : (nd : Int) ≤ 24 := by omega
    have hch1 : (0 : Int) ≤ (ch : Int) := by omega
    have hnd1 : (0 : Int) ≤ (nd : Int) := by omega
    clear q2 q3 hk hr3 hb3 hn3
    go_wp2_with fail
    have hb4 := bset (bset HB3.out 1 (.int .i64 (ch : Int))) 3 (.int .i64 (nd : Int))
    have hr4 := bset_other (bset_other HR3.out 1 (.int .i64 (ch : Int)) hne) 3 (.int .i64 (nd : Int)) hne
    have hk4 := (HK3.out.new (b := w1.heap.size) HK1.out.size 1 (.int .i64 (ch : Int))).new (b := w1.heap.size) HK1.out.size 3 (.int .i64 (nd : Int))
    refine (HN2.out _ (HV.out.kept hk4)).mono ?_
    rintro e w5 ⟨ep, e3, hn2, rfl, hk⟩
    have hr5 := hk.heap (fun h => h) hr4
    have hb5 := hk.heap (fun h => h) hb4
    have HK5 := Lib.hid (hk4.trans hk (fun _ _ h => h))
    have hT : ToldIs s k ch ep nd := ⟨HKI.out, .inl ⟨h4, e1, e2, e3, HNI1.out, HNI3.out, hn2⟩⟩
    have HT := Lib.hid hT
    have hb6 : w5.heap[w1.heap.size]? = some (.cells #[.int .i64 (k : Int), .int .i64 (ch : Int), .int .u64 0, .int .i64 (nd : Int)] 24 (0, 0)) := hb5
    have hlt5 := heap_lt hb6
    have hlt6 := heap_lt hr5
    have hbs := bset hb6 2 (.int .u64 (ep : Int))
    have hrs := bset_other hr5 2 (.int .u64 (ep : Int)) hne
    have HRS := Lib.hid hrs
    obtain ⟨r0, r1, r2, r3, f0, f1, f2, f3⟩ := cells4 hr5
    obtain ⟨b0, b1, b2, b3, u0, u1, u2, u3⟩ := cells4 hb6
    clear a0 a1 a2 a3 g0 g1 g2 g3 t2 hk hr4 hb4 hk4 hr5 hb5 hb6 hn2 hT h4 hbs hrs hlt3
    go_wp2
    have hfin := cmd_cells (k := k) (ch := ch) (ep := ep) (nd := nd) HRS.out
    have hkf := cmd_kept (k := k) (ch := ch) (ep := ep) (nd := nd) (HK5.out.new (b := w1.heap.size) HK1.out.size 2 (.int .u64 (ep : Int))) (Nat.le_refl w.heap.size)
    generalize hW : World.setCell (World.setCell (World.setCell (World.setCell (World.setCell w5 _ _) _ _) _ _) _ _) _ _ = W at hfin hkf ⊢
    obtain ⟨r0, r1, r2, r3, _⟩ := cells4 hfin
    exact bodyPost_ret (v := .agg #[.int .i64 k, .int .i64 ch, .int .u64 ep, .int .i64 nd]) (by simp [results, Tryd.results37, go_sem, r0, r1, r2, r3]) rfl ⟨k, ch, ep, nd, HT.out, rfl, hkf⟩
  · have hl4 : (((pcs s).length : Int) == 4) = false := by simpa using (by omega : ¬ ((pcs s).length : Int) = 4)
    have HT : Hid (ToldIs s k 0 0 0) := Lib.hid ⟨HKI.out, .inr ⟨h4, rfl, rfl, rfl⟩⟩
    obtain ⟨r0, r1, r2, r3, f0, f1, f2, f3⟩ := cells4 HR.out
    have hlt0 : w.heap.size < w1.heap.size := by omega
    clear h4
    go_wp2
    generalize hW : World.alloc _ _ = W
    have hb : W.heap[w.heap.size]? = some (.cells #[.int .i64 k, .int .i64 0, .int .u64 0, .int .i64 0] 24 (0, 0)) := by rw [← hW, heap_alloc_old _ _ (heap_lt (cmd_cells HR.out))]; exact cmd_cells HR.out
    have hkk : Kept NoB w W := by rw [← hW]; exact (cmd_kept HK1.out (Nat.le_refl _)).alloc _
    obtain ⟨r0, r1, r2, r3, _⟩ := cells4 hb
    refine bodyPost_ret (v := .agg #[.int .i64 k, .int .i64 0, .int .u64 0, .int .i64 0]) (by simp [results, Tryd.results37, go_sem, r0, r1, r2, r3]) rfl ⟨k, 0, 0, 0, HT.out, rfl, hkk⟩
end Go.Proofs.YtdohnobfaignpaaDoor
