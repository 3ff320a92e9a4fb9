/-
  What the plain functions of the chapter's package (catenaryref01) do: Text, and the reading of bytes. What the plain functions of the chapter's package (catenaryref01) do: Upto, Get, Read, Bool and Done. What the plain functions of the chapter's package (catenaryref01) do: Get, Read, Bool and Done.
-/
import Derived.Test.YtiifkcjngajegaaRef
import Derived.Test.YtiifkcjngajegaaInB
import Derived.Laws.ResultCell
import Derived.StillTactics
namespace Go.Proofs.Ytiifkcjngajegaa
open Go.RowKit

set_option maxRecDepth 100000 in
/-- Text, of at most 65535 bytes. -/
theorem RText_any (v : Value) (l : List Int) (F : Nat → Prop) (w : World) (h : BSl w F v l) (hl : l.length ≤ 65535) :
    Calls Try.prog 63 #[v] w fun e w' => ∃ v', e = .returned (.tuple #[v', .int .i64 0]) ∧ Own w' (fun k => w.heap.size ≤ k) v' (be l.length 2 ++ l) ∧ Kept NoB w w' := by
  obtain ⟨i0, hi0, hz0, hz1, hz2⟩ := info_parts Try.info5
  have HB := Lib.hid h
  obtain ⟨a, cap, rfl, _⟩ := h
  have hw1 : IntKind.u64.wrap (l.length : Int) = (l.length : Int) := IntWalk.u64_in _ (by omega)
  go_enter Try.func63, Try.ntmps63
  go_wp2_with fail
  refine (Big_any l.length 2 _ (by omega) (by omega) (by show l.length < 256 ^ 2; omega)).mono ?_
  rintro e w1 ⟨u, rfl, hu, hk1⟩
  have HU := Lib.hid hu
  obtain ⟨oa, oc, rfl⟩ := own_form hu.2.1
  have hown := hu.2.1
  have HL := Lib.hid (be_len l.length 2)
  clear hu
  go_wp2_with (at_builtin; refine wpList_append_bsl _ rfl (.tmp 10) (.tmp 11) _ rfl 5 i0 _ Try.underlying22 hi0 hz0 hz1 hz2 rfl (.slice oa (be l.length 2).length oc) (be l.length 2).length (be l.length 2) rfl hown F _ l rfl (HB.out.kept hk1 (fun _ _ h => h)) (by rw [HL.out]; omega) ?_; intro a' c' w2 hown1 hg1 hat1)
  have hsz := hk1.size
  have R := HU.out.grow (G := fun k => w.heap.size ≤ k) HB.out.isB (fun k _ h => h) (fun k h => by omega) hown1 hg1 hat1
  go_ret2
  exact ⟨_, rfl, R.1, hk1.trans R.2 (fun i hi h => by omega)⟩

/-- The value is a reader's state: what is left, and the error. -/
def RAt (w : World) (F : Nat → Prop) (v : Value) (s : ISt) : Prop := s.ok ∧ ∃ b, v = .agg #[b, .int .i64 s.err] ∧ BSl w F b s.l
theorem RAt.kept {S F : Nat → Prop} {w w' : World} {v : Value} {s : ISt} (h : RAt w F v s) (hk : Kept S w w') (hs : ∀ k, F k → ¬ S k) : RAt w' F v s := by
  obtain ⟨h1, b, h2, h3⟩ := h
  exact ⟨h1, b, h2, h3.kept hk hs⟩

/-- Fail. -/
theorem Fail_any (v : Value) (s : ISt) (e : Int) (F : Nat → Prop) (w : World) (h : RAt w F v s) (he : 0 < e) (he2 : e < 100) :
    Calls Try.prog 70 #[v, .int .i64 e] w fun r w' => ∃ v', r = .returned v' ∧ RAt w' F v' (s.fail e) ∧ Kept NoB w w' := by
  have HR := Lib.hid h
  obtain ⟨hok, b, rfl, hb⟩ := h
  obtain ⟨a, cap, rfl, _⟩ := hb
  by_cases h0 : s.err = 0
  · have hb : (s.err != 0) = false := by rw [h0]; rfl
    have H0 := Lib.hid h0
    clear h0 hok
    go_enter Try.func70, Try.ntmps70
    go_wp2
    refine bodyPost_ret (v := .agg #[.slice none 0 0, .int .i64 e]) (by simp [results, Try.results70, go_sem]) rfl ⟨_, rfl, ?_, ((Kept.refl _ _).alloc _).alloc _⟩
    have hf : s.fail e = ⟨[], e⟩ := if_pos H0.out
    rw [hf]
    exact ⟨⟨fun _ => rfl, by show 0 ≤ e; omega, he2⟩, _, rfl, BSl.nil _ _⟩
  · have hb : (s.err != 0) = true := by rw [bne_iff_ne]; exact h0
    have H0 := Lib.hid h0
    clear h0 hok
    go_enter Try.func70, Try.ntmps70
    go_wp2
    refine bodyPost_ret (v := .agg #[.slice a s.l.length cap, .int .i64 s.err]) (by simp [results, Try.results70, go_sem]) rfl ⟨_, rfl, ?_, ((Kept.refl _ _).alloc _).alloc _⟩
    have hf : s.fail e = s := if_neg H0.out
    rw [hf]
    exact HR.out.kept (S := NoB) (((Kept.refl _ _).alloc _).alloc _) (fun _ _ h => h)

theorem res_block {w w1 : World} {o1 : Obj} {cs : Array Value} {t : TypeId} (hk : Kept NoB ((w.alloc o1).alloc (.cells cs t)) w1) : w1.heap[w.heap.size + 1]? = some (.cells cs t (0, 0)) := by
  have h := heap_alloc_new (w.alloc o1) (.cells cs t)
  have e : (w.alloc o1).heap.size = w.heap.size + 1 := by simp
  rw [e] at h
  exact hk.heap (fun h => h) h
theorem blk_frozen {w : World} {g : Nat} {cs : Array Value} {t : TypeId} (h : w.heap[g]? = some (.cells cs t (0, 0))) (o : Nat) : w.frozen? ⟨g, o, none⟩ = false := by simp [World.frozen?, h]
def Ge (n : Nat) : Nat → Prop := fun k => n ≤ k
theorem Kept.ge {n : Nat} {a w : World} (h : Kept (Ge n) a w) {b : Nat} (hb : n ≤ b) (o : Nat) (u : Value) : Kept (Ge n) a (w.setCell ⟨b, o, none⟩ u) := h.setCell (p := ⟨b, o, none⟩) (.inl hb) u
theorem Kept.new {a w : World} (h : Kept NoB a w) {b : Nat} (hb : a.heap.size ≤ b) (o : Nat) (u : Value) : Kept NoB a (w.setCell ⟨b, o, none⟩ u) := h.setCell (p := ⟨b, o, none⟩) (.inr hb) u

set_option maxRecDepth 100000 in
/-- Raw. -/
theorem RRaw_any (v : Value) (s : ISt) (n : Int) (F : Nat → Prop) (w : World) (h : RAt w F v s) (hF : ∀ k, F k → k < w.heap.size) (hn : n ≤ 9223372036854775807) :
    Calls Try.prog 71 #[v, .int .i64 n] w fun r w' => ∃ v' b, r = .returned (.tuple #[v', b]) ∧ RAt w' F v' (s.raw n).1 ∧ BSl w' F b (s.raw n).2 ∧ Kept NoB w w' := by
  have HR := Lib.hid h
  have HF := Lib.hid (show ∀ k, F k → ¬ Ge w.heap.size k from fun k hk h => by have h1 := hF k hk; have h2 : w.heap.size ≤ k := h; omega)
  obtain ⟨hok, b, rfl, hb⟩ := h
  obtain ⟨a, cap, rfl, hc, hm, hnn, hr⟩ := hb
  have HNN := Lib.hid hnn
  have HRD := Lib.hid hr
  clear hnn hr hF
  by_cases h0 : s.err = 0
  · have hb : (s.err != 0) = false := by rw [h0]; rfl
    have H0 := Lib.hid h0
    clear h0 hok
    by_cases hneg : n < 0
    · have HU := Lib.hid (show s.raw n = (s.fail 1, []) by unfold ISt.raw ISt.fail; rw [if_pos H0.out, if_pos hneg, if_pos H0.out])
      go_enter Try.func71, Try.ntmps71
      go_wp2_with fail
      refine (Fail_any _ s 1 F _ (HR.out.kept (S := NoB) (((Kept.refl _ _).alloc _).alloc _) (fun _ _ h => h)) (by omega) (by omega)).mono ?_
      rintro e w1 ⟨v', rfl, hv', hk1⟩
      have HV := Lib.hid hv'
      have hk2 : Kept NoB w w1 := (((Kept.refl NoB w).alloc _).alloc _).trans hk1 (fun _ _ h => h)
      obtain ⟨_, b', rfl, a', cap', rfl, _⟩ := hv'
      have hb1 := res_block hk1
      have d0 : w1.cell? ⟨w.heap.size + 1, 0, none⟩ = some (.slice none 0 0) := cell_of_row w1 _ 0 _ _ _ hb1
      have d1 : w1.cell? ⟨w.heap.size + 1, 1, none⟩ = some (.int .i64 0) := cell_of_row w1 _ 1 _ _ _ hb1
      have e0 := blk_frozen hb1 0
      have e1 := blk_frozen hb1 1
      have HK := Lib.hid hk2
      clear hb1 hk1 hk2
      generalize (s.fail 1).l.length = m at *
      generalize (s.fail 1).err = er at *
      go_wp2
      refine bodyPost_ret (v := .tuple #[.agg #[.slice a' m cap', .int .i64 er], .slice none 0 0]) (by simp [results, Try.results71, go_sem, d0, d1]) rfl ⟨_, _, rfl, ?_, ?_, ?_⟩
      · rw [HU.out]
        exact HV.out.kept (S := Ge w.heap.size) (((Kept.refl _ _).ge (by omega) _ _).ge (by omega) _ _) HF.out
      · rw [HU.out]; exact BSl.nil _ _
      · exact (HK.out.new (by omega) _ _).new (by omega) _ _
    · obtain ⟨k, rfl⟩ := Int.eq_ofNat_of_zero_le (show 0 ≤ n by omega)
      clear hneg
      by_cases hlong : s.l.length < k
      · have HU := Lib.hid (show s.raw k = (s.fail 3, []) by unfold ISt.raw ISt.fail; rw [if_pos H0.out, if_neg (by omega), if_pos (by omega), if_pos H0.out])
        go_enter Try.func71, Try.ntmps71
        go_wp2_with fail
        refine (Fail_any _ s 3 F _ (HR.out.kept (S := NoB) (((Kept.refl _ _).alloc _).alloc _) (fun _ _ h => h)) (by omega) (by omega)).mono ?_
        rintro e w1 ⟨v', rfl, hv', hk1⟩
        have HV := Lib.hid hv'
        have hk2 : Kept NoB w w1 := (((Kept.refl NoB w).alloc _).alloc _).trans hk1 (fun _ _ h => h)
        obtain ⟨_, b', rfl, a', cap', rfl, _⟩ := hv'
        have hb1 := res_block hk1
        have d0 : w1.cell? ⟨w.heap.size + 1, 0, none⟩ = some (.slice none 0 0) := cell_of_row w1 _ 0 _ _ _ hb1
        have d1 : w1.cell? ⟨w.heap.size + 1, 1, none⟩ = some (.int .i64 0) := cell_of_row w1 _ 1 _ _ _ hb1
        have e0 := blk_frozen hb1 0
        have e1 := blk_frozen hb1 1
        have HK := Lib.hid hk2
        clear hb1 hk1 hk2
        generalize (s.fail 3).l.length = m at *
        generalize (s.fail 3).err = er at *
        go_wp2
        refine bodyPost_ret (v := .tuple #[.agg #[.slice a' m cap', .int .i64 er], .slice none 0 0]) (by simp [results, Try.results71, go_sem, d0, d1]) rfl ⟨_, _, rfl, ?_, ?_, ?_⟩
        · rw [HU.out]
          exact HV.out.kept (S := Ge w.heap.size) (((Kept.refl _ _).ge (by omega) _ _).ge (by omega) _ _) HF.out
        · rw [HU.out]; exact BSl.nil _ _
        · exact (HK.out.new (by omega) _ _).new (by omega) _ _
      · have HU := Lib.hid (show s.raw k = (⟨s.l.drop k, 0⟩, s.l.take k) by unfold ISt.raw; rw [if_pos H0.out, if_neg (by omega), if_neg (by omega), Int.toNat_natCast])
        have hle : k ≤ s.l.length := by omega
        have hle2 : (k : Int) ≤ (s.l.length : Int) := by omega
        have hcut := Lib.hid (bsl_drop (n := k) hc hm HNN.out HRD.out)
        have htake := Lib.hid (bsl_take (n := k) hc hm HNN.out HRD.out hle)
        have hk0 : (0 : Int) ≤ (k : Int) := by omega
        by_cases hcap : cap = k
        · have hcut2 : Hid (BSl w F (.slice a (s.l.length - k) 0) (s.l.drop k)) := by
            have := hcut.out
            rw [if_pos hcap, show cap - k = 0 by omega] at this
            exact this
          have htake2 : Hid (BSl w F (.slice a k k) (s.l.take k)) := by
            have := htake.out
            rw [hcap] at this
            exact this
          have hk : Kept NoB w (((w.alloc (.cells #[.slice a s.l.length k, .int .i64 s.err] 85)).alloc (.cells #[.slice a (s.l.length - k) 0, .int .i64 0] 85)).drew) := (((Kept.refl _ _).alloc _).alloc _).drew
          have HK := Lib.hid hk
          clear hlong hk
          go_enter Try.func71, Try.ntmps71
          go_wp2_with fail
          go_region
          go_wp2
          refine bodyPost_ret (v := .tuple #[.agg #[.slice a (s.l.length - k) 0, .int .i64 0], .slice a k k]) (by simp [results, Try.results71, go_sem]) rfl ⟨_, _, rfl, ?_, ?_, HK.out⟩
          · rw [HU.out]
            exact ⟨⟨fun h => absurd rfl h, Int.le_refl _, by show (0 : Int) < 100; omega⟩, _, rfl, hcut2.out.kept HK.out (fun _ _ h => h)⟩
          · rw [HU.out]; exact htake2.out.kept HK.out (fun _ _ h => h)
        · have hcut2 : Hid (BSl w F (.slice (a.map (·.add k)) (s.l.length - k) (cap - k)) (s.l.drop k)) := by
            have := hcut.out
            rw [if_neg hcap] at this
            exact this
          have hk : Kept NoB w (((w.alloc (.cells #[.slice a s.l.length cap, .int .i64 s.err] 85)).alloc (.cells #[.slice (a.map (·.add k)) (s.l.length - k) (cap - k), .int .i64 0] 85)).drew) := (((Kept.refl _ _).alloc _).alloc _).drew
          have HK := Lib.hid hk
          clear hlong hk
          go_enter Try.func71, Try.ntmps71
          go_wp2_with fail
          go_region
          go_wp2
          refine bodyPost_ret (v := .tuple #[.agg #[.slice (a.map (·.add k)) (s.l.length - k) (cap - k), .int .i64 0], .slice a k cap]) (by simp [results, Try.results71, go_sem]) rfl ⟨_, _, rfl, ?_, ?_, HK.out⟩
          · rw [HU.out]
            exact ⟨⟨fun h => absurd rfl h, Int.le_refl _, by show (0 : Int) < 100; omega⟩, _, rfl, hcut2.out.kept HK.out (fun _ _ h => h)⟩
          · rw [HU.out]; exact htake.out.kept HK.out (fun _ _ h => h)
  · have hb : (s.err != 0) = true := by rw [bne_iff_ne]; exact h0
    have HU := Lib.hid (show s.raw n = (s, []) by unfold ISt.raw; rw [if_neg h0])
    clear h0 hok
    go_enter Try.func71, Try.ntmps71
    go_wp2
    refine bodyPost_ret (v := .tuple #[.agg #[.slice a s.l.length cap, .int .i64 s.err], .slice none 0 0]) (by simp [results, Try.results71, go_sem]) rfl ⟨_, _, rfl, ?_, ?_, ?_⟩
    · rw [HU.out]
      exact HR.out.kept (S := NoB) (((Kept.refl _ _).alloc _).alloc _) (fun _ _ h => h)
    · rw [HU.out]; exact BSl.nil _ _
    · exact ((Kept.refl _ _).alloc _).alloc _
end Go.Proofs.Ytiifkcjngajegaa
namespace Go.Proofs.Ytiifkcjngajegaa
open Go.RowKit

set_option maxRecDepth 100000 in
/-- Upto. -/
theorem RUpto_any (v : Value) (s : ISt) (width most : Int) (F : Nat → Prop) (w : World) (h : RAt w F v s) (hF : ∀ k, F k → k < w.heap.size) :
    Calls Try.prog 44 #[v, .int .i64 width, .int .u64 most] w fun r w' => ∃ v', r = .returned (.tuple #[v', .int .u64 (s.upto width most).2]) ∧ RAt w' F v' (s.upto width most).1 ∧ Kept NoB w w' := by
  have HR := Lib.hid h
  have HF0 := Lib.hid hF
  have HF := Lib.hid (show ∀ k, F k → ¬ Ge w.heap.size k from fun k hk h => by have h1 := hF k hk; have h2 : w.heap.size ≤ k := h; omega)
  obtain ⟨hok, b, rfl, hb⟩ := h
  obtain ⟨a, cap, rfl, _⟩ := hb
  clear hF
  by_cases hw : width < 1 ∨ 8 < width
  · have HU := Lib.hid (show s.upto width most = (s.fail 1, 0) from if_pos hw)
    rcases hw with hw | hw
    all_goals
      have hw2 : 1 ≤ width ∨ width < 1 := by omega
      go_enter Try.func44, Try.ntmps44
      go_wp2_with fail
      refine (Fail_any _ s 1 F _ (HR.out.kept (S := NoB) (((Kept.refl _ _).alloc _).alloc _) (fun _ _ h => h)) (by omega) (by omega)).mono ?_
      rintro e w1 ⟨v', rfl, hv', hk1⟩
      have HV := Lib.hid hv'
      have hk2 : Kept NoB w w1 := (((Kept.refl NoB w).alloc _).alloc _).trans hk1 (fun _ _ h => h)
      obtain ⟨_, b', rfl, a', cap', rfl, _⟩ := hv'
      have hb1 := res_block hk1
      have d0 : w1.cell? ⟨w.heap.size + 1, 0, none⟩ = some (.slice none 0 0) := cell_of_row w1 _ 0 _ _ _ hb1
      have d1 : w1.cell? ⟨w.heap.size + 1, 1, none⟩ = some (.int .i64 0) := cell_of_row w1 _ 1 _ _ _ hb1
      have e0 := blk_frozen hb1 0
      have e1 := blk_frozen hb1 1
      have HK := Lib.hid hk2
      clear hb1 hk1 hk2
      generalize (s.fail 1).l.length = m at *
      generalize (s.fail 1).err = er at *
      go_wp2
      refine bodyPost_ret (v := .tuple #[.agg #[.slice a' m cap', .int .i64 er], .int .u64 0]) (by simp [results, Try.results44, go_sem, d0, d1]) rfl ⟨.agg #[.slice a' m cap', .int .i64 er], ?_, ?_, ?_⟩
      · rw [HU.out]
      · rw [HU.out]
        exact HV.out.kept (S := Ge w.heap.size) (((Kept.refl _ _).ge (by omega) _ _).ge (by omega) _ _) HF.out
      · exact (HK.out.new (by omega) _ _).new (by omega) _ _
  · have HU := Lib.hid (show s.upto width most = _ from if_neg hw)
    obtain ⟨k, rfl⟩ := Int.eq_ofNat_of_zero_le (show 0 ≤ width by omega)
    have hk1 : 1 ≤ k := by omega
    have hk8 : k ≤ 8 := by omega
    have hd : (decide ((k : Int) < 1) || decide (8 < (k : Int))) = false := by
      rw [decide_eq_false (by omega), decide_eq_false (by omega)]; rfl
    have HRaw := Lib.hid (fun w h1 h2 => RRaw_any (.agg #[.slice a s.l.length cap, .int .i64 s.err]) s k F w h1 h2 (by omega))
    have hl8 : (s.raw k).2.length ≤ 8 := by have := s.raw_len k; omega
    clear hw
    have HS1 := Lib.hid (s.raw_ok hok k)
    generalize (s.raw k).1 = s1 at *
    generalize (s.raw k).2 = l1 at *
    go_enter Try.func44, Try.ntmps44
    go_wp2_with fail
    refine (HRaw.out _ (HR.out.kept (S := NoB) (((Kept.refl _ _).alloc _).alloc _) (fun _ _ h => h)) (fun k hk => by have := HF0.out k hk; simp; omega)).mono ?_
    rintro e w1 ⟨v', b1, rfl, hv', hb1, hq1⟩
    have HV := Lib.hid hv'
    have HB1 := Lib.hid hb1
    have HK := Lib.hid ((((Kept.refl NoB w).alloc _).alloc _).trans hq1 (fun _ _ h => h))
    obtain ⟨_, b', rfl, a', cap', rfl, _⟩ := hv'
    obtain ⟨a2, cap2, rfl, _⟩ := hb1
    have hblk := res_block hq1
    have hsz : w.heap.size + 1 < w1.heap.size := heap_lt hblk
    have d0 : w1.cell? ⟨w.heap.size + 1, 0, none⟩ = some (.slice none 0 0) := cell_of_row w1 _ 0 _ _ _ hblk
    have d1 : w1.cell? ⟨w.heap.size + 1, 1, none⟩ = some (.int .i64 0) := cell_of_row w1 _ 1 _ _ _ hblk
    have e0 := blk_frozen hblk 0
    have e1 := blk_frozen hblk 1
    clear hblk hq1
    obtain ⟨n1, hn1⟩ : ∃ n1, n1 = s1.l.length := ⟨_, rfl⟩
    rw [← hn1]
    have HN1 := Lib.hid hn1
    clear hn1
    by_cases he : s1.err = 0
    · have heb : (s1.err != 0) = false := by rw [he]; rfl
      have HE := Lib.hid he
      clear he
      by_cases hlt : most < (num l1 : Int)
      · go_wp2_with fail
        refine (Num_any _ l1 F _ (HB1.out.kept (S := NoB) ((Kept.refl _ _).alloc _) (fun _ _ h => h)) hl8).mono ?_
        rintro e w2 ⟨rfl, rfl⟩
        go_wp2_with fail
        refine (Fail_any _ s1 4 F _ (by rw [HN1.out]; exact HV.out.kept (S := NoB) ((Kept.refl _ _).alloc _) (fun _ _ h => h)) (by omega) (by omega)).mono ?_
        rintro e w2 ⟨v2, rfl, hv2, hq2⟩
        have HV2 := Lib.hid hv2
        have hq3 : Kept NoB w1 w2 := ((Kept.refl NoB w1).alloc _).trans hq2 (fun _ _ h => h)
        have HK2 := Lib.hid (HK.out.trans hq3 (fun _ _ h => h))
        have c0 := hq3.cell (fun h => h) d0
        have c1 := hq3.cell (fun h => h) d1
        have g0 : w2.frozen? ⟨w.heap.size + 1, 0, none⟩ = false := (World.frozen?_of_block (hq3.block _ hsz (fun h => h))).trans e0
        have g1 : w2.frozen? ⟨w.heap.size + 1, 1, none⟩ = false := (World.frozen?_of_block (hq3.block _ hsz (fun h => h))).trans e1
        have hf : s1.fail 4 = ⟨[], 4⟩ := if_pos HE.out
        rw [hf] at hv2 HV2
        obtain ⟨_, b2, rfl, a3, cap3, rfl, _⟩ := hv2
        clear hq3 hq2 hf d0 d1 e0 e1
        go_wp2
        refine bodyPost_ret (v := .tuple #[.agg #[.slice a3 0 cap3, .int .i64 4], .int .u64 0]) (by simp [results, Try.results44, go_sem, c0, c1]) rfl ⟨.agg #[.slice a3 0 cap3, .int .i64 4], ?_, ?_, ?_⟩
        · rw [HU.out, if_pos HE.out, if_pos hlt]
        · rw [HU.out, if_pos HE.out, if_pos hlt]
          exact HV2.out.kept (S := Ge w.heap.size) (((Kept.refl _ _).ge (by omega) _ _).ge (by omega) _ _) HF.out
        · exact (HK2.out.new (by omega) _ _).new (by omega) _ _
      · go_wp2_with fail
        refine (Num_any _ l1 F _ (HB1.out.kept (S := NoB) ((Kept.refl _ _).alloc _) (fun _ _ h => h)) hl8).mono ?_
        rintro e w2 ⟨rfl, rfl⟩
        go_wp2_with fail
        go_region_with (go_at_call 72; refine (Num_any _ l1 F _ (by exact HB1.out.kept (S := NoB) (((Kept.refl _ _).alloc _).drew) (fun _ _ h => h)) hl8).mono ?_; rintro e w2 ⟨rfl, rfl⟩)
        all_goals
          go_wp2
          refine bodyPost_ret (v := .tuple #[.agg #[.slice a' n1 cap', .int .i64 s1.err], .int .u64 (num l1)]) (by simp [results, Try.results44, go_sem, d0, d1, hsz]) rfl ⟨.agg #[.slice a' n1 cap', .int .i64 s1.err], ?_, ?_, ?_⟩
          · rw [HU.out, if_pos HE.out, if_neg (by omega)]
          · rw [HU.out, if_pos HE.out, if_neg (by omega), HN1.out]
            exact HV.out.kept (S := Ge w.heap.size) ((((Kept.refl _ _).ge (by omega) _ _).ge (by omega) _ _).alloc _).drew HF.out
          · exact (((HK.out.new (by omega) _ _).new (by omega) _ _).alloc _).drew
    · have heb : (s1.err != 0) = true := by rw [bne_iff_ne]; exact he
      have HE := Lib.hid he
      clear he
      go_wp2
      refine bodyPost_ret (v := .tuple #[.agg #[.slice a' n1 cap', .int .i64 s1.err], .int .u64 0]) (by simp [results, Try.results44, go_sem, d0, d1, hsz]) rfl ⟨.agg #[.slice a' n1 cap', .int .i64 s1.err], ?_, ?_, ?_⟩
      · rw [HU.out, if_neg HE.out]
      · rw [HU.out, if_neg HE.out, HN1.out]
        exact HV.out.kept (S := Ge w.heap.size) ((((Kept.refl _ _).ge (by omega) _ _).ge (by omega) _ _).alloc _) HF.out
      · exact ((HK.out.new (by omega) _ _).new (by omega) _ _).alloc _
end Go.Proofs.Ytiifkcjngajegaa
namespace Go.Proofs.Ytiifkcjngajegaa
open Go.RowKit

theorem after_call {w w1 : World} {o1 : Obj} (hk : Kept NoB ((w.alloc o1).alloc (.cells #[.slice none 0 0, .int .i64 0] 85)) w1) :
    w1.cell? ⟨w.heap.size + 1, 0, none⟩ = some (.slice none 0 0) ∧ w1.cell? ⟨w.heap.size + 1, 1, none⟩ = some (.int .i64 0) ∧ w1.frozen? ⟨w.heap.size + 1, 0, none⟩ = false ∧ w1.frozen? ⟨w.heap.size + 1, 1, none⟩ = false ∧
      w.heap.size + 1 < w1.heap.size ∧ Kept NoB w w1 := by
  have hb := res_block hk
  exact ⟨cell_of_row w1 _ 0 _ _ _ hb, cell_of_row w1 _ 1 _ _ _ hb, blk_frozen hb 0, blk_frozen hb 1, heap_lt hb, (((Kept.refl NoB w).alloc _).alloc _).trans hk (fun _ _ h => h)⟩
theorem notGe {F : Nat → Prop} {n : Nat} (hF : ∀ k, F k → k < n) : ∀ k, F k → ¬ Ge n k := fun k hk h => by
  have h1 := hF k hk
  have h2 : n ≤ k := h
  omega
theorem ISt.get_le (s : ISt) (hb : IsB s.l) (width : Int) : 0 ≤ (s.get width).2 ∧ (s.get width).2 ≤ 18446744073709551615 := by
  unfold ISt.get
  split
  · exact ⟨Int.le_refl _, by show (0 : Int) ≤ 18446744073709551615; omega⟩
  · rename_i hw
    have hl := s.raw_len width
    have hB : IsB (s.raw width).2 := by
      unfold ISt.raw
      split
      · split
        · exact IsB.nil
        · split
          · exact IsB.nil
          · exact hb.take _
      · exact IsB.nil
    have h1 := num_lt _ hB
    have h3 : 256 ^ (s.raw width).2.length ≤ 256 ^ 8 := Nat.pow_le_pow_right (by decide) (by omega)
    show (0 : Int) ≤ (num (s.raw width).2 : Int) ∧ (num (s.raw width).2 : Int) ≤ 18446744073709551615
    omega
theorem ISt.upto_all (s : ISt) (hb : IsB s.l) (width : Int) : s.upto width 18446744073709551615 = s.get width := by
  rw [s.upto_get width _ (by omega), if_neg (by have := s.get_le hb width; omega)]

set_option maxRecDepth 100000 in
/-- Get. -/
theorem RGet_any (v : Value) (s : ISt) (width : Int) (F : Nat → Prop) (w : World) (h : RAt w F v s) (hF : ∀ k, F k → k < w.heap.size) :
    Calls Try.prog 45 #[v, .int .i64 width] w fun r w' => ∃ v', r = .returned (.tuple #[v', .int .u64 (s.get width).2]) ∧ RAt w' F v' (s.get width).1 ∧ Kept NoB w w' := by
  have HR := Lib.hid h
  have HF0 := Lib.hid hF
  have HF := Lib.hid (notGe hF)
  obtain ⟨hok, b, rfl, hb⟩ := h
  have HU := Lib.hid (s.upto_all hb.isB width)
  obtain ⟨a, cap, rfl, _⟩ := hb
  clear hF
  go_enter Try.func45, Try.ntmps45
  go_wp2_with fail
  refine (RUpto_any _ s width _ F _ (HR.out.kept (S := NoB) (((Kept.refl _ _).alloc _).alloc _) (fun _ _ h => h)) (fun k hk => by have := HF0.out k hk; simp; omega)).mono ?_
  rintro e w1 ⟨v', rfl, hv', hk1⟩
  have HV := Lib.hid hv'
  obtain ⟨_, b', rfl, a', cap', rfl, _⟩ := hv'
  obtain ⟨d0, d1, e0, e1, hsz, hk2⟩ := after_call hk1
  have HK := Lib.hid hk2
  clear hk1 hk2
  rw [HU.out] at HV ⊢
  generalize hs1 : (s.get width).1 = s1 at *
  generalize hn1 : (s.get width).2 = n1 at *
  have HS1 := Lib.hid hs1
  have HN1 := Lib.hid hn1
  clear hs1 hn1
  obtain ⟨m, hm⟩ : ∃ m, m = s1.l.length := ⟨_, rfl⟩
  rw [← hm]
  have HM := Lib.hid hm
  clear hm
  go_wp2
  refine bodyPost_ret (v := .tuple #[.agg #[.slice a' m cap', .int .i64 s1.err], .int .u64 n1]) (by simp [results, Try.results45, go_sem, d0, d1]) rfl ⟨.agg #[.slice a' m cap', .int .i64 s1.err], by rw [HN1.out], ?_, ?_⟩
  · rw [HS1.out, HM.out]
    exact HV.out.kept (S := Ge w.heap.size) (((Kept.refl _ _).ge (by omega) _ _).ge (by omega) _ _) HF.out
  · exact (HK.out.new (by omega) _ _).new (by omega) _ _

/-- Done. -/
theorem RDone_any (v : Value) (s : ISt) (F : Nat → Prop) (w : World) (h : RAt w F v s) :
    Calls Try.prog 46 #[v] w fun r w' => r = .returned (.int .i64 s.done) ∧ Kept NoB w w' := by
  obtain ⟨hok, b, rfl, hb⟩ := h
  obtain ⟨a, cap, rfl, _⟩ := hb
  by_cases he : s.err = 0
  · have heb : (s.err == 0) = true := by rw [he]; rfl
    have HE := Lib.hid he
    by_cases hl : 0 < s.l.length
    · have HD := Lib.hid (show s.done = 4 from if_pos ⟨he, hl⟩)
      have hl2 : (0 : Int) < (s.l.length : Int) := by omega
      clear he
      go_enter Try.func46, Try.ntmps46
      go_wp2
      go_ret
      rw [HD.out]
      exact ⟨rfl, (Kept.refl _ _).alloc _⟩
    · have HD := Lib.hid (show s.done = 0 by unfold ISt.done; rw [if_neg (fun h => hl h.2), he])
      have hl2 : decide ((0 : Int) < (s.l.length : Int)) = false := decide_eq_false (by omega)
      clear he
      go_enter Try.func46, Try.ntmps46
      go_wp2
      go_ret
      rw [HD.out, ← HE.out]
      exact ⟨rfl, (Kept.refl _ _).alloc _⟩
  · have heb : (s.err == 0) = false := by simpa using he
    have HD := Lib.hid (show s.done = s.err from if_neg (fun h => he h.1))
    clear he
    go_enter Try.func46, Try.ntmps46
    go_wp2
    go_ret
    rw [HD.out]
    exact ⟨rfl, (Kept.refl _ _).alloc _⟩

theorem Kept.facts {g : Nat} {w1 w2 : World} {a b : Value} (hq : Kept NoB w1 w2) (hl : g < w1.heap.size) (d0 : w1.cell? ⟨g, 0, none⟩ = some a) (d1 : w1.cell? ⟨g, 1, none⟩ = some b) (e0 : w1.frozen? ⟨g, 0, none⟩ = false) (e1 : w1.frozen? ⟨g, 1, none⟩ = false) :
    w2.cell? ⟨g, 0, none⟩ = some a ∧ w2.cell? ⟨g, 1, none⟩ = some b ∧ w2.frozen? ⟨g, 0, none⟩ = false ∧ w2.frozen? ⟨g, 1, none⟩ = false :=
  ⟨hq.cell (fun h => h) d0, hq.cell (fun h => h) d1, (World.frozen?_of_block (hq.block _ hl (fun h => h))).trans e0, (World.frozen?_of_block (hq.block _ hl (fun h => h))).trans e1⟩

theorem ISt.text_eq (s : ISt) (most : Int) : s.text most = (if (s.get 2).1.err = 0 then (if most < (s.get 2).2 then (⟨[], 6⟩, []) else (s.get 2).1.raw (s.get 2).2) else ((s.get 2).1, [])) := rfl

set_option maxRecDepth 100000 in
/-- Read: a text. -/
theorem RRead_any (v : Value) (s : ISt) (most : Int) (F : Nat → Prop) (w : World) (h : RAt w F v s) (hF : ∀ k, F k → k < w.heap.size) :
    Calls Try.prog 64 #[v, .int .i64 most] w fun r w' => ∃ v' b, r = .returned (.tuple #[v', b]) ∧ RAt w' F v' (s.text most).1 ∧ BSl w' F b (s.text most).2 ∧ Kept NoB w w' := by
  have HR := Lib.hid h
  have HF0 := Lib.hid hF
  have HF := Lib.hid (notGe hF)
  obtain ⟨hok, b, rfl, hb⟩ := h
  obtain ⟨hn0, hn1⟩ := s.get2_lt hb.isB
  obtain ⟨a, cap, rfl, _⟩ := hb
  have HT := Lib.hid (s.text_eq most)
  have HGet := Lib.hid (fun w h1 h2 => RGet_any (.agg #[.slice a s.l.length cap, .int .i64 s.err]) s 2 F w h1 h2)
  clear hF
  generalize (s.get 2).1 = s1 at *
  generalize (s.get 2).2 = n1 at *
  have hwr : IntKind.i64.wrap n1 = n1 := IntWalk.i64_in _ (by omega)
  go_enter Try.func64, Try.ntmps64
  go_wp2_with fail
  refine (HGet.out _ (HR.out.kept (S := NoB) (((Kept.refl _ _).alloc _).alloc _) (fun _ _ h => h)) (fun k hk => by have := HF0.out k hk; simp; omega)).mono ?_
  rintro e w1 ⟨v', rfl, hv', hk1⟩
  have HV := Lib.hid hv'
  obtain ⟨hok1, b', rfl, a', cap', rfl, _⟩ := hv'
  obtain ⟨d0, d1, e0, e1, hsz, hk2⟩ := after_call hk1
  have HK := Lib.hid hk2
  have HOK1 := Lib.hid hok1
  clear hk1 hk2 hok1
  obtain ⟨m, hm⟩ : ∃ m, m = s1.l.length := ⟨_, rfl⟩
  rw [← hm]
  have HM := Lib.hid hm
  clear hm
  by_cases he : s1.err = 0
  · have heb : (s1.err != 0) = false := by rw [he]; rfl
    have HE := Lib.hid he
    clear he
    by_cases hlt : most < n1
    · have HT2 : Hid (s.text most = (⟨[], 6⟩, [])) := by
        have := HT.out
        rw [if_pos HE.out, if_pos hlt] at this
        exact this
      go_wp2_with fail
      refine (Fail_any _ s1 6 F _ (by rw [HM.out]; exact HV.out.kept (S := NoB) ((Kept.refl _ _).alloc _) (fun _ _ h => h)) (by omega) (by omega)).mono ?_
      rintro e w2 ⟨v2, rfl, hv2, hq2⟩
      have hq3 : Kept NoB w1 w2 := ((Kept.refl NoB w1).alloc _).trans hq2 (fun _ _ h => h)
      have HK2 := Lib.hid (HK.out.trans hq3 (fun _ _ h => h))
      obtain ⟨c0, c1, g0, g1⟩ := hq3.facts hsz d0 d1 e0 e1
      have hf : s1.fail 6 = ⟨[], 6⟩ := if_pos HE.out
      rw [hf] at hv2
      have HV2 := Lib.hid hv2
      obtain ⟨_, b2, rfl, a3, cap3, rfl, _⟩ := hv2
      clear hq3 hq2 hf d0 d1 e0 e1
      go_wp2
      refine bodyPost_ret (v := .tuple #[.agg #[.slice a3 0 cap3, .int .i64 6], .slice none 0 0]) (by simp [results, Try.results64, go_sem, c0, c1]) rfl ⟨.agg #[.slice a3 0 cap3, .int .i64 6], .slice none 0 0, rfl, ?_, ?_, ?_⟩
      · rw [HT2.out]
        exact HV2.out.kept (S := Ge w.heap.size) (((Kept.refl _ _).ge (by omega) _ _).ge (by omega) _ _) HF.out
      · rw [HT2.out]; exact BSl.nil _ _
      · exact (HK2.out.new (by omega) _ _).new (by omega) _ _
    · have HT2 : Hid (s.text most = s1.raw n1) := by
        have := HT.out
        rw [if_pos HE.out, if_neg hlt] at this
        exact this
      go_wp2_with fail
      refine (RRaw_any _ s1 n1 F _ (by rw [HM.out]; exact HV.out.kept (S := NoB) ((Kept.refl _ _).alloc _) (fun _ _ h => h)) (fun k hk => by have := HF0.out k hk; simp; omega) (by omega)).mono ?_
      rintro e w2 ⟨v2, b2, rfl, hv2, hb2, hq2⟩
      have hq3 : Kept NoB w1 w2 := ((Kept.refl NoB w1).alloc _).trans hq2 (fun _ _ h => h)
      have HK2 := Lib.hid (HK.out.trans hq3 (fun _ _ h => h))
      obtain ⟨c0, c1, g0, g1⟩ := hq3.facts hsz d0 d1 e0 e1
      have HV2 := Lib.hid hv2
      have HB2 := Lib.hid hb2
      obtain ⟨_, b3, rfl, a3, cap3, rfl, _⟩ := hv2
      obtain ⟨a4, cap4, rfl, _⟩ := hb2
      clear hq3 hq2 d0 d1 e0 e1
      generalize hs2 : (s1.raw n1).1 = s2 at *
      generalize hl2 : (s1.raw n1).2 = l2 at *
      have HS2 := Lib.hid hs2
      have HL2 := Lib.hid hl2
      clear hs2 hl2
      generalize hm2 : s2.l.length = m2 at *
      generalize hm3 : l2.length = m3 at *
      have HM2 := Lib.hid hm2
      have HM3 := Lib.hid hm3
      clear hm2 hm3
      go_wp2
      refine bodyPost_ret (v := .tuple #[.agg #[.slice a3 m2 cap3, .int .i64 s2.err], .slice a4 m3 cap4]) (by simp [results, Try.results64, go_sem, c0, c1]) rfl ⟨.agg #[.slice a3 m2 cap3, .int .i64 s2.err], .slice a4 m3 cap4, rfl, ?_, ?_, ?_⟩
      · rw [HT2.out, HS2.out]
        exact HV2.out.kept (S := Ge w.heap.size) (((Kept.refl _ _).ge (by omega) _ _).ge (by omega) _ _) HF.out
      · rw [HT2.out, HL2.out]
        exact HB2.out.kept (S := Ge w.heap.size) (((Kept.refl _ _).ge (by omega) _ _).ge (by omega) _ _) HF.out
      · exact (HK2.out.new (by omega) _ _).new (by omega) _ _
  · have heb : (s1.err != 0) = true := by rw [bne_iff_ne]; exact he
    have HT2 : Hid (s.text most = (s1, [])) := by
      have := HT.out
      rw [if_neg he] at this
      exact this
    clear he
    go_wp2
    refine bodyPost_ret (v := .tuple #[.agg #[.slice a' m cap', .int .i64 s1.err], .slice none 0 0]) (by simp [results, Try.results64, go_sem, d0, d1, hsz]) rfl ⟨.agg #[.slice a' m cap', .int .i64 s1.err], .slice none 0 0, rfl, ?_, ?_, ?_⟩
    · rw [HT2.out, HM.out]
      exact HV.out.kept (S := Ge w.heap.size) ((((Kept.refl _ _).ge (by omega) _ _).ge (by omega) _ _).alloc _) HF.out
    · rw [HT2.out]; exact BSl.nil _ _
    · exact ((HK.out.new (by omega) _ _).new (by omega) _ _).alloc _
end Go.Proofs.Ytiifkcjngajegaa
