/-
  What the plain functions of the chapter's package (catenaryref01) do: Text, and the reading of bytes.
-/
import Derived.Test.YtgkkiijoblphfaaRef
import Derived.Test.YtgkkiijoblphfaaInB
import Derived.Laws.ResultCell
namespace Go.Proofs.Ytgkkiijoblphfaa
open Go.RowKit

/-- The value is a reader's state: what is left, and the error. -/
def RAt (w : World) (F : Nat → Prop) (v : Value) (s : ISt) : Prop := s.ok ∧ ∃ b, v = .agg #[b, .int .i64 s.err] ∧ BSl w F b s.l
theorem RAt.kept {S F : Nat → Prop} {w w' : World} {v : Value} {s : ISt} (h : RAt w F v s) (hk : Kept S w w') (hs : ∀ k, F k → ¬ S k) : RAt w' F v s := by
  obtain ⟨h1, b, h2, h3⟩ := h
  exact ⟨h1, b, h2, h3.kept hk hs⟩

/-- Fail. -/
theorem Fail_any (v : Value) (s : ISt) (e : Int) (F : Nat → Prop) (w : World) (h : RAt w F v s) (he : 0 < e) (he2 : e < 100) :
    Calls Try.prog 25 #[v, .int .i64 e] w fun r w' => ∃ v', r = .returned v' ∧ RAt w' F v' (s.fail e) ∧ Kept NoB w w' := by
  have HR := Lib.hid h
  obtain ⟨hok, b, rfl, hb⟩ := h
  obtain ⟨a, cap, rfl, _⟩ := hb
  by_cases h0 : s.err = 0
  · have hb : (s.err != 0) = false := by rw [h0]; rfl
    have H0 := Lib.hid h0
    clear h0 hok
    go_enter Try.func25, Try.ntmps25
    go_wp2
    refine bodyPost_ret (v := .agg #[.slice none 0 0, .int .i64 e]) (by simp [results, Try.results25, go_sem]) rfl ⟨_, rfl, ?_, ((Kept.refl _ _).alloc _).alloc _⟩
    have hf : s.fail e = ⟨[], e⟩ := if_pos H0.out
    rw [hf]
    exact ⟨⟨fun _ => rfl, by show 0 ≤ e; omega, he2⟩, _, rfl, BSl.nil _ _⟩
  · have hb : (s.err != 0) = true := by rw [bne_iff_ne]; exact h0
    have H0 := Lib.hid h0
    clear h0 hok
    go_enter Try.func25, Try.ntmps25
    go_wp2
    refine bodyPost_ret (v := .agg #[.slice a s.l.length cap, .int .i64 s.err]) (by simp [results, Try.results25, go_sem]) rfl ⟨_, rfl, ?_, ((Kept.refl _ _).alloc _).alloc _⟩
    have hf : s.fail e = s := if_neg H0.out
    rw [hf]
    exact HR.out.kept (S := NoB) (((Kept.refl _ _).alloc _).alloc _) (fun _ _ h => h)

theorem res_block {w w1 : World} {o1 : Obj} {cs : Array Value} {t : TypeId} (hk : Kept NoB ((w.alloc o1).alloc (.cells cs t)) w1) : w1.heap[w.heap.size + 1]? = some (.cells cs t (0, 0)) := by
  have h := heap_alloc_new (w.alloc o1) (.cells cs t)
  have e : (w.alloc o1).heap.size = w.heap.size + 1 := by simp
  rw [e] at h
  exact hk.heap (fun h => h) h
theorem blk_frozen {w : World} {g : Nat} {cs : Array Value} {t : TypeId} (h : w.heap[g]? = some (.cells cs t (0, 0))) (o : Nat) : w.frozen? ⟨g, o, none⟩ = false := by simp [World.frozen?, h]
def Ge (n : Nat) : Nat → Prop := fun k => n ≤ k
theorem Kept.ge {n : Nat} {a w : World} (h : Kept (Ge n) a w) {b : Nat} (hb : n ≤ b) (o : Nat) (u : Value) : Kept (Ge n) a (w.setCell ⟨b, o, none⟩ u) := h.setCell (p := ⟨b, o, none⟩) (.inl hb) u
theorem Kept.new {a w : World} (h : Kept NoB a w) {b : Nat} (hb : a.heap.size ≤ b) (o : Nat) (u : Value) : Kept NoB a (w.setCell ⟨b, o, none⟩ u) := h.setCell (p := ⟨b, o, none⟩) (.inr hb) u

set_option maxRecDepth 100000 in
/-- Raw. -/
theorem RRaw_any (v : Value) (s : ISt) (n : Int) (F : Nat → Prop) (w : World) (h : RAt w F v s) (hF : ∀ k, F k → k < w.heap.size) (hn : n ≤ 9223372036854775807) :
    Calls Try.prog 10 #[v, .int .i64 n] w fun r w' => ∃ v' b, r = .returned (.tuple #[v', b]) ∧ RAt w' F v' (s.raw n).1 ∧ BSl w' F b (s.raw n).2 ∧ Kept NoB w w' := by
  have HR := Lib.hid h
  have HF := Lib.hid (show ∀ k, F k → ¬ Ge w.heap.size k from fun k hk h => by have h1 := hF k hk; have h2 : w.heap.size ≤ k := h; omega)
  obtain ⟨hok, b, rfl, hb⟩ := h
  obtain ⟨a, cap, rfl, hc, hm, hnn, hr⟩ := hb
  have HNN := Lib.hid hnn
  have HRD := Lib.hid hr
  clear hnn hr hF
  by_cases h0 : s.err = 0
  · have hb : (s.err != 0) = false := by rw [h0]; rfl
    have H0 := Lib.hid h0
    clear h0 hok
    by_cases hneg : n < 0
    · have HU := Lib.hid (show s.raw n = (s.fail 1, []) by unfold ISt.raw ISt.fail; rw [if_pos H0.out, if_pos hneg, if_pos H0.out])
      go_enter Try.func10, Try.ntmps10
      go_wp2_with fail
      refine (Fail_any _ s 1 F _ (HR.out.kept (S := NoB) (((Kept.refl _ _).alloc _).alloc _) (fun _ _ h => h)) (by omega) (by omega)).mono ?_
      rintro e w1 ⟨v', rfl, hv', hk1⟩
      have HV := Lib.hid hv'
      have hk2 : Kept NoB w w1 := (((Kept.refl NoB w).alloc _).alloc _).trans hk1 (fun _ _ h => h)
      obtain ⟨_, b', rfl, a', cap', rfl, _⟩ := hv'
      have hb1 := res_block hk1
      have d0 : w1.cell? ⟨w.heap.size + 1, 0, none⟩ = some (.slice none 0 0) := cell_of_row w1 _ 0 _ _ _ hb1
      have d1 : w1.cell? ⟨w.heap.size + 1, 1, none⟩ = some (.int .i64 0) := cell_of_row w1 _ 1 _ _ _ hb1
      have e0 := blk_frozen hb1 0
      have e1 := blk_frozen hb1 1
      have HK := Lib.hid hk2
      clear hb1 hk1 hk2
      generalize (s.fail 1).l.length = m at *
      generalize (s.fail 1).err = er at *
      go_wp2
      refine bodyPost_ret (v := .tuple #[.agg #[.slice a' m cap', .int .i64 er], .slice none 0 0]) (by simp [results, Try.results10, go_sem, d0, d1]) rfl ⟨_, _, rfl, ?_, ?_, ?_⟩
      · rw [HU.out]
        exact HV.out.kept (S := Ge w.heap.size) (((Kept.refl _ _).ge (by omega) _ _).ge (by omega) _ _) HF.out
      · rw [HU.out]; exact BSl.nil _ _
      · exact (HK.out.new (by omega) _ _).new (by omega) _ _
    · obtain ⟨k, rfl⟩ := Int.eq_ofNat_of_zero_le (show 0 ≤ n by omega)
      clear hneg
      by_cases hlong : s.l.length < k
      · have HU := Lib.hid (show s.raw k = (s.fail 3, []) by unfold ISt.raw ISt.fail; rw [if_pos H0.out, if_neg (by omega), if_pos (by omega), if_pos H0.out])
        go_enter Try.func10, Try.ntmps10
        go_wp2_with fail
        refine (Fail_any _ s 3 F _ (HR.out.kept (S := NoB) (((Kept.refl _ _).alloc _).alloc _) (fun _ _ h => h)) (by omega) (by omega)).mono ?_
        rintro e w1 ⟨v', rfl, hv', hk1⟩
        have HV := Lib.hid hv'
        have hk2 : Kept NoB w w1 := (((Kept.refl NoB w).alloc _).alloc _).trans hk1 (fun _ _ h => h)
        obtain ⟨_, b', rfl, a', cap', rfl, _⟩ := hv'
        have hb1 := res_block hk1
        have d0 : w1.cell? ⟨w.heap.size + 1, 0, none⟩ = some (.slice none 0 0) := cell_of_row w1 _ 0 _ _ _ hb1
        have d1 : w1.cell? ⟨w.heap.size + 1, 1, none⟩ = some (.int .i64 0) := cell_of_row w1 _ 1 _ _ _ hb1
        have e0 := blk_frozen hb1 0
        have e1 := blk_frozen hb1 1
        have HK := Lib.hid hk2
        clear hb1 hk1 hk2
        generalize (s.fail 3).l.length = m at *
        generalize (s.fail 3).err = er at *
        go_wp2
        refine bodyPost_ret (v := .tuple #[.agg #[.slice a' m cap', .int .i64 er], .slice none 0 0]) (by simp [results, Try.results10, go_sem, d0, d1]) rfl ⟨_, _, rfl, ?_, ?_, ?_⟩
        · rw [HU.out]
          exact HV.out.kept (S := Ge w.heap.size) (((Kept.refl _ _).ge (by omega) _ _).ge (by omega) _ _) HF.out
        · rw [HU.out]; exact BSl.nil _ _
        · exact (HK.out.new (by omega) _ _).new (by omega) _ _
      · have HU := Lib.hid (show s.raw k = (⟨s.l.drop k, 0⟩, s.l.take k) by unfold ISt.raw; rw [if_pos H0.out, if_neg (by omega), if_neg (by omega), Int.toNat_natCast])
        have hle : k ≤ s.l.length := by omega
        have hle2 : (k : Int) ≤ (s.l.length : Int) := by omega
        have hcut := Lib.hid (bsl_drop (n := k) hc hm HNN.out HRD.out)
        have htake := Lib.hid (bsl_take (n := k) hc hm HNN.out HRD.out hle)
        have hk0 : (0 : Int) ≤ (k : Int) := by omega
        by_cases hcap : cap = k
        · have hcut2 : Hid (BSl w F (.slice a (s.l.length - k) 0) (s.l.drop k)) := by
            have := hcut.out
            rw [if_pos hcap, show cap - k = 0 by omega] at this
            exact this
          have htake2 : Hid (BSl w F (.slice a k k) (s.l.take k)) := by
            have := htake.out
            rw [hcap] at this
            exact this
          have hk : Kept NoB w (((w.alloc (.cells #[.slice a s.l.length k, .int .i64 s.err] 29)).alloc (.cells #[.slice a (s.l.length - k) 0, .int .i64 0] 29)).drew) := (((Kept.refl _ _).alloc _).alloc _).drew
          have HK := Lib.hid hk
          clear hlong hk
          go_enter Try.func10, Try.ntmps10
          go_wp2_with fail
          go_region
          go_wp2
          refine bodyPost_ret (v := .tuple #[.agg #[.slice a (s.l.length - k) 0, .int .i64 0], .slice a k k]) (by simp [results, Try.results10, go_sem]) rfl ⟨_, _, rfl, ?_, ?_, HK.out⟩
          · rw [HU.out]
            exact ⟨⟨fun h => absurd rfl h, Int.le_refl _, by show (0 : Int) < 100; omega⟩, _, rfl, hcut2.out.kept HK.out (fun _ _ h => h)⟩
          · rw [HU.out]; exact htake2.out.kept HK.out (fun _ _ h => h)
        · have hcut2 : Hid (BSl w F (.slice (a.map (·.add k)) (s.l.length - k) (cap - k)) (s.l.drop k)) := by
            have := hcut.out
            rw [if_neg hcap] at this
            exact this
          have hk : Kept NoB w (((w.alloc (.cells #[.slice a s.l.length cap, .int .i64 s.err] 29)).alloc (.cells #[.slice (a.map (·.add k)) (s.l.length - k) (cap - k), .int .i64 0] 29)).drew) := (((Kept.refl _ _).alloc _).alloc _).drew
          have HK := Lib.hid hk
          clear hlong hk
          go_enter Try.func10, Try.ntmps10
          go_wp2_with fail
          go_region
          go_wp2
          refine bodyPost_ret (v := .tuple #[.agg #[.slice (a.map (·.add k)) (s.l.length - k) (cap - k), .int .i64 0], .slice a k cap]) (by simp [results, Try.results10, go_sem]) rfl ⟨_, _, rfl, ?_, ?_, HK.out⟩
          · rw [HU.out]
            exact ⟨⟨fun h => absurd rfl h, Int.le_refl _, by show (0 : Int) < 100; omega⟩, _, rfl, hcut2.out.kept HK.out (fun _ _ h => h)⟩
          · rw [HU.out]; exact htake.out.kept HK.out (fun _ _ h => h)
  · have hb : (s.err != 0) = true := by rw [bne_iff_ne]; exact h0
    have HU := Lib.hid (show s.raw n = (s, []) by unfold ISt.raw; rw [if_neg h0])
    clear h0 hok
    go_enter Try.func10, Try.ntmps10
    go_wp2
    refine bodyPost_ret (v := .tuple #[.agg #[.slice a s.l.length cap, .int .i64 s.err], .slice none 0 0]) (by simp [results, Try.results10, go_sem]) rfl ⟨_, _, rfl, ?_, ?_, ?_⟩
    · rw [HU.out]
      exact HR.out.kept (S := NoB) (((Kept.refl _ _).alloc _).alloc _) (fun _ _ h => h)
    · rw [HU.out]; exact BSl.nil _ _
    · exact ((Kept.refl _ _).alloc _).alloc _
end Go.Proofs.Ytgkkiijoblphfaa
