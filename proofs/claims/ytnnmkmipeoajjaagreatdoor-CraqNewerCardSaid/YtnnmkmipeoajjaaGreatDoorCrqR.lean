/-
  Over a store that has grown: End, Last, Now, Then, Trim; two of them.
-/
import Derived.Test.YtnnmkmipeoajjaaGreatDoorCrqP
namespace Go.Proofs.YtnnmkmipeoajjaaGreatDoor
open Go.RowKit
set_option linter.unusedVariables false
set_option linter.unusedSimpArgs false

theorem SEnd_any (w : World) (S : Nat → Prop) (g bm t : Nat) (s : Sp) (h : StS w S g bm t s) : Calls Tryz.prog 26 #[.pointer (some ⟨g, 0, none⟩)] w fun e w' => e = .returned (.int .u64 s.en) ∧ w = w' := by
  obtain ⟨M, h1, _⟩ := h
  exact TEnd_any w g bm t s.en M s.R h1
theorem StS.block {w : World} {S : Nat → Prop} {g bm t : Nat} {s : Sp} (h : StS w S g bm t s) {k : Int} (h0 : 0 ≤ k) (h1 : k ≤ 4294967295) : ∃ x v F, TBlk w (.pointer (some ⟨g, 0, none⟩)) k x ∧ TellsV w x v ∧ VsAt w F v (s.l k) ∧ Asc (s.l k) := by
  obtain ⟨M, h2, h3, _⟩ := h
  have := h2.block h0 h1
  rw [h3 k] at this
  exact this
def SLastP (w : World) (r : Int) (e : Ending) (w' : World) : Prop := ∃ q ua un uc, e = .returned (.agg #[.int .u64 r, .int .u64 q, .slice ua un uc]) ∧ Kept NoB w w'
theorem SLast_any (w : World) (S : Nat → Prop) (g bm t : Nat) (s : Sp) (k : Int) (h : StS w S g bm t s) (h0 : 0 ≤ k) (h1 : k ≤ 4294967295) (hd : (lastV (s.l k)).d.length ≤ 1000000) : Calls Tryz.prog 37 #[.pointer (some ⟨g, 0, none⟩), .int .u32 k] w (SLastP w (lastV (s.l k)).r) := by
  obtain ⟨x, v, F, hb, ht, hv, _⟩ := h.block h0 h1
  refine (TLast_any w _ k x v _ F hb ht hv hd).mono ?_
  rintro e w' ⟨v', rfl, ⟨u, rfl, hu⟩, hk⟩
  obtain ⟨va, vc, rfl⟩ := own_form hu.2.1
  exact ⟨_, _, _, _, rfl, hk⟩
def SNowP (w : World) (b : Bool) (r0 : Int) (e : Ending) (w' : World) : Prop := ∃ r q ua un uc, e = .returned (.tuple #[.agg #[.int .u64 r, .int .u64 q, .slice ua un uc], .bool b]) ∧ (b = true → r = r0) ∧ Kept NoB w w'
set_option maxRecDepth 100000 in
theorem SNow_any (w : World) (S : Nat → Prop) (g bm t : Nat) (s : Sp) (k done : Int) (h : StS w S g bm t s) (h0 : 0 ≤ k) (h1 : k ≤ 4294967295) (hd : (lastV (s.l k)).d.length ≤ 1000000) : Calls Tryz.prog 31 #[.pointer (some ⟨g, 0, none⟩), .int .u32 k, .int .u64 done] w (SNowP w (!dirtyB (s.l k) done) (lastV (s.l k)).r) := by
  obtain ⟨x, v, F, hb, ht, hv, _⟩ := h.block h0 h1
  cases hdr : dirtyB (s.l k) done with
  | true =>
    refine (CNow_dirty w _ k done x v _ F hb ht hv hdr).mono ?_
    rintro e w' ⟨rfl, hk⟩
    exact ⟨_, _, _, _, _, rfl, (fun h => by cases h), hk⟩
  | false =>
    have hk0 := (Kept.refl NoB w).alloc (.cells #[.int .u64 0, .int .u64 0, .slice none 0 0] 75)
    have hdd := TDirty_any _ _ k done x v _ F (fun w' hk => hb w' (hk0.trans hk (fun _ _ h => h))) (ht.no hk0) (hv.no hk0)
    rw [hdr] at hdd
    have HD := Lib.hid hdd
    have HL := Lib.hid (fun (W : World) (hk : Kept NoB w W) => SLast_any W S g bm t s k (h.no hk) h0 h1 hd)
    have HK := Lib.hid hk0
    have HB := Lib.hid (heap_alloc_new w (.cells #[.int .u64 0, .int .u64 0, .slice none 0 0] 75))
    obtain ⟨r0, hr0⟩ : ∃ r0, r0 = (lastV (s.l k)).r := ⟨_, rfl⟩
    rw [← hr0] at HL ⊢
    clear hb ht hv hk0 hd hdd h hr0 hdr
    go_enter Tryz.func31, Tryz.ntmps31
    go_wp2_with fail
    refine HD.out.mono ?_
    rintro e w1 ⟨rfl, hk1⟩
    have HK1 := Lib.hid (HK.out.trans hk1 (fun _ _ h => h))
    have HB1 := Lib.hid (hk1.heap (fun h => h) HB.out)
    clear hk1
    go_wp2_with fail
    refine (HL.out _ HK1.out).mono ?_
    rintro e w3 ⟨q, ua, un, uc, rfl, hk3⟩
    have HK3 := Lib.hid (HK1.out.trans hk3 (fun _ _ h => h))
    have HB3 := Lib.hid (hk3.heap (fun h => h) HB1.out)
    obtain ⟨r1, r2, r3⟩ := cells3v HB3.out
    have z := blkV_frozen HB3.out
    clear hk3
    go_wp2
    clear r1 r2 r3 z
    obtain ⟨r1, r2, r3⟩ := cells3v (three15_at HB3.out (.int .u64 r0) (.int .u64 q) (.slice ua un uc))
    have hK := HK3.out.three15 (b := w.heap.size) (.inr (Nat.le_refl _)) 0 (.int .u64 r0) (.int .u64 q) (.slice ua un uc)
    unfold three15 at r1 r2 r3 hK
    simp only [Nat.zero_add] at r1 r2 r3 hK
    generalize hW : World.setCell _ _ _ = W3 at r1 r2 r3 hK ⊢
    exact bodyPost_ret (v := .tuple #[.agg #[.int .u64 r0, .int .u64 q, .slice ua un uc], .bool true]) (by simp [results, Tryz.results31, go_sem, r1, r2, r3]) rfl ⟨r0, q, ua, un, uc, rfl, fun _ => rfl, hK⟩
def SThenP (w : World) (r ver : Int) (e : Ending) (w' : World) : Prop := ∃ q ua un uc, e = .returned (.tuple #[.agg #[.int .u64 r, .int .u64 q, .slice ua un uc], .bool (r != 0 || ver == 0)]) ∧ Kept NoB w w'
theorem SThen_any (w : World) (S : Nat → Prop) (g bm t : Nat) (s : Sp) (k ver done : Int) (h : StS w S g bm t s) (h0 : 0 ≤ k) (h1 : k ≤ 4294967295) (hl : (s.l k).length ≤ 100000) : Calls Tryz.prog 33 #[.pointer (some ⟨g, 0, none⟩), .int .u32 k, .int .u64 ver, .int .u64 done] w (SThenP w (pickV (s.l k) ver done).r ver) := by
  obtain ⟨x, v, F, hb, ht, hv, hasc⟩ := h.block h0 h1
  refine (CThen_any w _ k ver done x v _ F hb ht hv hasc hl).mono ?_
  rintro e w' ⟨v', rfl, ⟨u, rfl, hu⟩, hk⟩
  obtain ⟨va, vc, rfl⟩ := own_form hu.2.1
  exact ⟨_, _, _, _, rfl, hk⟩
theorem ls_trim (M : List Ke) (done k : Int) : lsK (M.map (trmK done)) k = trimV (lsK M k) done := by
  unfold lsK atK
  induction M with
  | nil => simp [trimV]
  | cons y M ih =>
    rw [List.map_cons, List.find?_cons, List.find?_cons]
    show Option.getD (Option.map _ (match (y.s == k) with | true => some (trmK done y) | false => _)) [] = _
    cases (y.s == k)
    · exact ih
    · rfl
theorem trimV_ne {l : List Vn} (h : l ≠ []) (d : Int) : trimV l d ≠ [] := by
  have h0 : 0 < l.length := List.length_pos_iff.2 h
  have h1 := cnt_le l d
  intro e
  have := congrArg List.length e
  rw [trimV_len] at this
  unfold trimN at this
  simp at this
  omega
def trimSp (s : Sp) (d : Int) : Sp := ⟨s.en, fun k => trimV (s.l k) d, s.m, s.R⟩
theorem STrim_any (w : World) (S : Nat → Prop) (g bm t : Nat) (s : Sp) (n : Nat) (done : Int) (h : StS w S g bm t s) (hg : Gr s n) (hn : n ≤ 1000) : Calls Tryz.prog 29 #[.pointer (some ⟨g, 0, none⟩), .int .u64 done] w fun e w' => (∃ ev, e = .returned ev) ∧ StS w' S g bm t (trimSp s done) ∧ Kept S w w' := by
  obtain ⟨M, h1, h2, h3, h4, h5⟩ := h
  refine (TTrim_any w g bm t s.en M s.R done h1 (by have := hg.m; omega) (fun x hx => ?_)).mono ?_
  · have := hg.len x.s
    rw [← h2 x.s] at this
    unfold lsK at this
    rw [atK_mem h1.mp.1 hx] at this
    have this : x.l.length ≤ n := this
    omega
  · rintro e w' ⟨rfl, hs, hk⟩
    refine ⟨⟨_, rfl⟩, ⟨M.map (trmK done), hs, fun k => by rw [ls_trim, h2]; rfl, by rw [List.length_map]; exact h3, fun y hy => ?_, fun k hk2 => ?_⟩, hk.mono (fun k _ h => h5 k h)⟩
    · obtain ⟨z, hz, rfl⟩ := List.mem_map.1 hy
      exact trimV_ne (h4 z hz) done
    · refine h5 k ?_
      rcases hk2 with h | h | h | ⟨y, hy, h⟩
      · exact .inl h
      · exact .inr (.inl h)
      · exact .inr (.inr (.inl h))
      · obtain ⟨z, hz, rfl⟩ := List.mem_map.1 hy
        exact .inr (.inr (.inr ⟨z, hz, h⟩))
def s220 : Sp := ⟨0, fun _ => [], 0, []⟩
def s222 : Sp := apSp (apSp s220 u221) u222
theorem gr220 : Gr s220 0 := ⟨Nat.le_refl _, fun k => Nat.le_refl _, fun k j h => absurd h (by simp [s220]), fun k x h => by simp [s220] at h, fun k x h => by simp [s220] at h, Int.le_refl _⟩
theorem gr222 : Gr s222 2 := (gr220.ap (by decide) u221).ap (by decide) u222
def TwoS (w : World) (e : Ending) (w' : World) : Prop :=
  ∃ g bm t S, e = .returned (.pointer (some ⟨g, 0, none⟩)) ∧ StS w' S g bm t s222 ∧ (∀ k, S k → w.heap.size ≤ k ∧ k < w'.heap.size) ∧ Kept NoB w w'
set_option maxRecDepth 100000 in
theorem twoS_any (w : World) (ht : Tab10 w) : Calls Tryz.prog 81 #[] w (TwoS w) := by
  have HT := Lib.hid ht
  have HN := Lib.hid (TNew_any w)
  clear ht
  go_enter Tryz.func81, Tryz.ntmps81
  go_wp2_with fail
  refine HN.out.mono ?_
  rintro e w1 ⟨g, bm, t, rfl, hs, hg, hbm, htt, hk⟩
  have hst : StS w1 (fun k => w.heap.size ≤ k ∧ k < w1.heap.size) g bm t s220 := ⟨[], hs, fun k => rfl, rfl, (fun y h => by cases h), fun k h => ⟨(by
    rcases h with h | h | h | ⟨y, h, _⟩
    · omega
    · omega
    · omega
    · cases h), hs.bnd k h⟩⟩
  have HA := Lib.hid (TApply_any w1 _ g bm t s220 0 _ u221 NoB hst gr220 (by decide) ⟨_, rfl, BSl.nil _ _⟩ (fun k h => h.elim) (HT.out.kept hk (fun h => h)) fit221)
  have HK := Lib.hid hk
  clear hs hk hst
  go_wp2_with fail
  refine HA.out.mono ?_
  rintro e w2 ⟨⟨ev, rfl⟩, hs2, hk2⟩
  have hk2' : Kept NoB w w2 := HK.out.trans hk2 (fun i hi h => by omega)
  have HA2 := Lib.hid (TApply_any w2 _ g bm t _ 1 _ u222 NoB hs2 (gr220.ap (by decide) u221) (by decide) ⟨_, rfl, BSl.nil _ _⟩ (fun k h => h.elim) (HT.out.kept hk2' (fun h => h)) fit222)
  have HK2 := Lib.hid hk2'
  have hz1 := HK.out.size
  have hz2 := hk2.size
  clear hs2 hk2 hk2'
  go_wp2_with fail
  refine HA2.out.mono ?_
  rintro e w3 ⟨⟨ev, rfl⟩, hs3, hk3⟩
  have hk3' : Kept NoB w w3 := HK2.out.trans hk3 (fun i hi h => by rcases h with h | h <;> omega)
  have HK3 := Lib.hid hk3'
  have HS3 := Lib.hid hs3
  have hz3 := hk3.size
  clear hs3 hk3 hk3'
  go_wp2
  go_ret
  exact ⟨g, bm, t, _, rfl, HS3.out, (fun k hk => by rcases hk with (hk | hk) | hk <;> omega), HK3.out⟩
end Go.Proofs.YtnnmkmipeoajjaaGreatDoor
