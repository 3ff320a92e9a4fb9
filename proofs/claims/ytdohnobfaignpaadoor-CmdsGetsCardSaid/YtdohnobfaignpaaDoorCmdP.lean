/-
  Package cmds: Decode.
-/
import Derived.Test.YtdohnobfaignpaaDoorCmdO
namespace Go.Proofs.YtdohnobfaignpaaDoor
open Go.RowKit Go.Sort Go.Lib
set_option linter.unusedVariables false

/-- What Decode tells of bytes. -/
def DecIs (l : List Int) (k ch ep nd e : Nat) : Prop :=
  ∃ k' ch' ep' nd' e' : Nat, GetIs ⟨l, 0⟩ k' ch' ep' nd' e' ∧
    ((e' = 0 ∧ l.length = 11 ∧ k = k' ∧ ch = ch' ∧ ep = ep' ∧ nd = nd' ∧ e = 0) ∨ (e' = 0 ∧ 11 < l.length ∧ k = 0 ∧ ch = 0 ∧ ep = 0 ∧ nd = 0 ∧ e = 4) ∨ (e' ≠ 0 ∧ k = 0 ∧ ch = 0 ∧ ep = 0 ∧ nd = 0 ∧ e = e'))
theorem DecIs.one {l : List Int} {k ch ep nd e k2 ch2 ep2 nd2 e2 : Nat} (h : DecIs l k ch ep nd e) (h2 : DecIs l k2 ch2 ep2 nd2 e2) : k = k2 ∧ ch = ch2 ∧ ep = ep2 ∧ nd = nd2 ∧ e = e2 := by
  obtain ⟨k', ch', ep', nd', e', hg, h⟩ := h
  obtain ⟨k2', ch2', ep2', nd2', e2', hg2, h2⟩ := h2
  obtain ⟨a, b, c, d, f⟩ := hg.one hg2
  omega
theorem GetIs.len {l : List Int} {k ch ep nd e : Nat} (h : GetIs ⟨l, 0⟩ k ch ep nd e) (he : e = 0) : 11 ≤ l.length ∧ Cm k ch ep nd ∧ l.take 11 = cbs k ch ep nd ∧ ISt.raw ⟨l, 0⟩ 11 = (⟨l.drop 11, 0⟩, l.take 11) := by
  rcases h with ⟨_, _, b, c⟩ | ⟨_, _, _, _, _, b⟩
  · have c' : l.take 11 = cbs k ch ep nd := c
    have hl := congrArg List.length c'
    rw [cbs_len, List.length_take] at hl
    exact ⟨by omega, b, c', by rw [show (11 : Int) = ((11 : Nat) : Int) from rfl, raw_ok' l 11 (by omega)]⟩
  · subst he
    split at b <;> omega
theorem DecIs.zero {l : List Int} {k ch ep nd e : Nat} (h : DecIs l k ch ep nd e) (he : e = 0) : Cm k ch ep nd ∧ l = cbs k ch ep nd := by
  obtain ⟨k', ch', ep', nd', e', hg, h⟩ := h
  have hl := fun h => hg.len h
  rcases h with ⟨h0, h11, rfl, rfl, rfl, rfl, _⟩ | ⟨_, _, _, _, _, _, h⟩ | ⟨h1, _, _, _, _, h⟩
  · obtain ⟨_, a, b, _⟩ := hl h0
    rw [List.take_of_length_le (by omega)] at b
    exact ⟨a, b⟩
  · omega
  · omega
theorem DecIs.of {k ch ep nd : Nat} (h : Cm k ch ep nd) : DecIs (cbs k ch ep nd) k ch ep nd 0 :=
  ⟨k, ch, ep, nd, 0, .inl ⟨rfl, rfl, h, by show (cbs k ch ep nd).take 11 = _; rw [List.take_of_length_le (by simp [cbs_len])]⟩, .inl ⟨rfl, cbs_len _ _ _ _, rfl, rfl, rfl, rfl, rfl⟩⟩
theorem DecIs.le {l : List Int} {k ch ep nd e : Nat} (h : DecIs l k ch ep nd e) : k ≤ 4 ∧ ch ≤ 3 ∧ ep < 18446744073709551616 ∧ nd ≤ 24 := by
  obtain ⟨k', ch', ep', nd', e', hg, h⟩ := h
  have := hg.le
  omega
def DecEnd (l : List Int) (w : World) (r : Ending) (w' : World) : Prop :=
  ∃ k ch ep nd e : Nat, DecIs l k ch ep nd e ∧ e < 100 ∧ r = .returned (.tuple #[.agg #[.int .i64 k, .int .i64 ch, .int .u64 ep, .int .i64 nd], .int .i64 e]) ∧ Kept NoB w w'
set_option maxRecDepth 100000 in
set_option maxHeartbeats 2000000 in
theorem Decode_any (v : Value) (l : List Int) (F : Nat → Prop) (w : World) (h : BSl w F v l) (hl : l.length ≤ 1000000) :
    Calls Tryd.prog 14 #[v] w (DecEnd l w) := by
  have HB := Lib.hid h
  have HL := Lib.hid hl
  clear h hl
  go_enter Tryd.func14, Tryd.ntmps14
  go_wp2_with fail
  have HK0 := Lib.hid ((Kept.refl NoB w).alloc (.cells #[.int .i64 0, .int .i64 0, .int .u64 0, .int .i64 0] 24))
  have HR0 := Lib.hid (heap_alloc_new w (.cells #[.int .i64 0, .int .i64 0, .int .u64 0, .int .i64 0] 24))
  refine (Of_any v l F _ (HB.out.kept HK0.out (fun _ _ h => h)) HL.out).mono ?_
  rintro e w1 ⟨g, rfl, hg1, hg2, ho, hk⟩
  have hgw : w.heap.size < g := by simp at hg1; omega
  have HR1 := Lib.hid (hk.heap (fun h => h) HR0.out)
  have HO1 := Lib.hid ho
  have HK1 := Lib.hid (HK0.out.trans hk (fun _ _ h => h))
  clear hk ho hg1
  go_wp2_with fail
  refine (CGet_any g ⟨l, 0⟩ _ w1 HO1.out (fun k h => Nat.lt_trans h.2 hg2)).mono ?_
  rintro e w2 ⟨k, ch, ep, nd, x, hG, hx, rfl, ho, hk⟩
  have HR2 := Lib.hid (hk.heap (fun h : w.heap.size = g => by omega) HR1.out)
  have HO2 := Lib.hid ho
  have HK2 := Lib.hid (HK1.out.trans (T := Only g) hk (fun i hi h => by have h : i = g := h; omega))
  have HG := Lib.hid hG
  have hle := hG.le
  obtain ⟨hk4, hc3, hep, hnd⟩ := hle
  clear hk ho hG
  obtain ⟨r0, r1, r2, r3, g0, g1, g2, g3⟩ := cells4 HR2.out
  have hlr := heap_lt HR2.out
  by_cases hx0 : x = 0
  · subst hx0
    have HO3 := Lib.hid (HO2.out.kept ((Kept.refl NoB w2).alloc (.cells #[.int .i64 (k : Int), .int .i64 (ch : Int), .int .u64 (ep : Int), .int .i64 (nd : Int)] 24)) (fun _ _ h => h) (fun h => h))
    have HK3 := Lib.hid (HK2.out.alloc (.cells #[.int .i64 (k : Int), .int .i64 (ch : Int), .int .u64 (ep : Int), .int .i64 (nd : Int)] 24))
    have hr3 := balloc HR2.out (.cells #[.int .i64 (k : Int), .int .i64 (ch : Int), .int .u64 (ep : Int), .int .i64 (nd : Int)] 24)
    have hc3' := heap_alloc_new w2 (.cells #[.int .i64 (k : Int), .int .i64 (ch : Int), .int .u64 (ep : Int), .int .i64 (nd : Int)] 24)
    have HR3 := Lib.hid hr3
    have HC3 := Lib.hid hc3'
    have hd := (HG.out.len rfl).2.2.2
    have h11 := (HG.out.len rfl).1
    have hD : ISt.done (ISt.raw ⟨l, 0⟩ 11).1 = if 11 < l.length then 4 else 0 := by
      rw [hd]
      unfold ISt.done
      simp only [List.length_drop]
      by_cases h : 11 < l.length
      · rw [if_pos (by constructor <;> first | trivial | omega), if_pos h]
      · rw [if_neg (fun x => by have := x.2; omega), if_neg h]
    have HD := Lib.hid hD
    have H11 := Lib.hid h11
    clear hd h11 hD hr3 hc3'
    go_wp2_with fail
    refine (InDone_any g _ _ _ HO3.out).mono ?_
    rintro e w3 ⟨rfl, rfl⟩
    rw [HD.out]
    obtain ⟨r0, r1, r2, r3, g0, g1, g2, g3⟩ := cells4 HR3.out
    obtain ⟨c0, c1, c2, c3, f0, f1, f2, f3⟩ := cells4 HC3.out
    generalize hW3 : World.alloc w2 _ = w3 at HR3 HC3 HK3 r0 r1 r2 r3 g0 g1 g2 g3 c0 c1 c2 c3 f0 f1 f2 f3 ⊢
    have hlr := heap_lt HR3.out
    have hlc := heap_lt HC3.out
    clear hW3 HO3
    by_cases h : 11 < l.length
    · have HL11 := Lib.hid h
      rw [if_pos h]
      clear h
      go_wp2
      have hfin := cmd_cells (k := 0) (ch := 0) (ep := 0) (nd := 0) HR3.out
      have hkf := cmd_kept (k := 0) (ch := 0) (ep := 0) (nd := 0) HK3.out (Nat.le_refl w.heap.size)
      generalize hW : World.setCell (World.setCell (World.setCell (World.setCell w3 _ _) _ _) _ _) _ _ = W2 at hfin hkf ⊢
      obtain ⟨r0, r1, r2, r3, _⟩ := cells4 hfin
      exact bodyPost_ret (v := .tuple #[.agg #[.int .i64 0, .int .i64 0, .int .u64 0, .int .i64 0], .int .i64 4]) (by simp [results, Tryd.results14, go_sem, r0, r1, r2, r3]) rfl ⟨0, 0, 0, 0, 4, ⟨k, ch, ep, nd, 0, HG.out, .inr (.inl ⟨rfl, HL11.out, rfl, rfl, rfl, rfl, rfl⟩)⟩, by decide, rfl, hkf⟩
    · have HL11 := Lib.hid h
      rw [if_neg h]
      clear h
      go_wp2
      have hfin := cmd_cells (k := k) (ch := ch) (ep := ep) (nd := nd) HR3.out
      have hkf := cmd_kept (k := k) (ch := ch) (ep := ep) (nd := nd) HK3.out (Nat.le_refl w.heap.size)
      generalize hW : World.setCell (World.setCell (World.setCell (World.setCell w3 _ _) _ _) _ _) _ _ = W2 at hfin hkf ⊢
      obtain ⟨r0, r1, r2, r3, _⟩ := cells4 hfin
      exact bodyPost_ret (v := .tuple #[.agg #[.int .i64 k, .int .i64 ch, .int .u64 ep, .int .i64 nd], .int .i64 0]) (by simp [results, Tryd.results14, go_sem, r0, r1, r2, r3]) rfl ⟨k, ch, ep, nd, 0, ⟨k, ch, ep, nd, 0, HG.out, .inl ⟨rfl, by have := HL11.out; have := H11.out; omega, rfl, rfl, rfl, rfl, rfl⟩⟩, by decide, rfl, hkf⟩
  · have HX0 := Lib.hid hx0
    have hxb : ((x : Int) != 0) = true := by simpa using hx0
    have hxe : ((x : Int) == 0) = false := by simpa using hx0
    clear hx0
    go_wp2
    generalize hW : World.alloc _ _ = W2
    have hfin : W2.heap[w.heap.size]? = some (.cells #[.int .i64 (0 : Int), .int .i64 (0 : Int), .int .u64 (0 : Int), .int .i64 (0 : Int)] 24 (0, 0)) := by rw [← hW, heap_alloc_old _ _ (heap_lt (cmd_cells HR2.out))]; exact cmd_cells HR2.out
    have hkf : Kept NoB w W2 := by rw [← hW]; exact (cmd_kept HK2.out (Nat.le_refl _)).alloc _
    obtain ⟨r0, r1, r2, r3, _⟩ := cells4 hfin
    exact bodyPost_ret (v := .tuple #[.agg #[.int .i64 0, .int .i64 0, .int .u64 0, .int .i64 0], .int .i64 x]) (by simp [results, Tryd.results14, go_sem, r0, r1, r2, r3]) rfl ⟨0, 0, 0, 0, x, ⟨k, ch, ep, nd, x, HG.out, .inr (.inr ⟨HX0.out, rfl, rfl, rfl, rfl, rfl⟩)⟩, hx, rfl, hkf⟩
end Go.Proofs.YtdohnobfaignpaaDoor
