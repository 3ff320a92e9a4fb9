/-
  What bytes.Clone, and the calls Raw, Text, Bool and Done of a fix.Out do.
-/
import Derived.Test.YtiifkcjngajegaaOut
import Derived.Test.YtiifkcjngajegaaBytes
namespace Go.Proofs.Ytiifkcjngajegaa
open Go.RowKit

set_option maxRecDepth 100000 in
/-- bytes.Clone. -/
theorem Clone_any (v : Value) (l : List Int) (F : Nat → Prop) (w : World) (h : BSl w F v l) (hl : l.length ≤ 1000000) :
    Calls Try.prog 57 #[v] w fun e w' => ∃ v', e = .returned v' ∧ BSl w' (fun k => w.heap.size ≤ k) v' l ∧ Kept NoB w w' := by
  obtain ⟨i0, hi0, hz0, hz1, hz2⟩ := info_parts Try.info5
  have HB := Lib.hid h
  obtain ⟨a, cap, rfl, hc, hm, hn, hr⟩ := h
  have hq := fun (w : World) => Lib.run_eql_slice_nil (P := Try.prog) w 22 5 a l.length cap 0 0 Try.underlying22
  rcases a with _ | ad
  · have h0 := hn rfl
    subst h0
    have hl : l = [] := List.eq_nil_of_length_eq_zero (by omega)
    subst hl
    simp only [Option.isNone, List.length_nil] at hq
    go_enter Try.func57, Try.ntmps57
    go_wp2
    go_ret
    exact ⟨_, rfl, BSl.nil _ _, Kept.refl _ _⟩
  · simp only [Option.isNone] at hq
    clear hr hn
    go_enter Try.func57, Try.ntmps57
    go_wp2_with (at_builtin; refine wpList_append_bsl _ rfl (.tmp 5) (.tmp 6) _ rfl 5 i0 _ Try.underlying22 hi0 hz0 hz1 hz2 rfl (.slice (some ⟨w.heap.size, 0, none⟩) 0 0) 0 [] rfl (World.ownsRow_made w #[] 0 (Nat.zero_le _) (by decide) rfl) F _ l rfl (HB.out.kept ((Kept.refl NoB _).alloc _) (fun _ _ h => h)) (by omega) ?_; intro a' c' w1 hown1 hg1 hat1)
    go_ret
    have hk1 : Kept NoB w w1 := ((Kept.refl _ _).alloc _).grown hg1 (fun k hk => .inr (by simp [Value.ownBlock] at hk; omega))
    simp only [Nat.zero_add, List.nil_append] at hown1 hat1
    refine ⟨.slice a' l.length c', rfl, BSl.ofOwn hown1 (HB.out.isB) (fun k hk => ?_), hk1⟩
    rcases hat1 with e | e <;> rw [e] at hk <;> simp [Value.ownBlock] at hk <;> omega

/-- What an append to the Out's bytes and the store behind it leave. -/
theorem OutAt.grow {w w0 w1 : World} {F G : Nat → Prop} {g : Nat} {s : OSt} {a : Option Addr} {cap : Nat} {v' : Value} {l : List Int} (h : OutAt w F g s) (hl : IsB l) (he : s.err = 0)
    (hv : w.heap[g]? = some (.cells #[.slice a s.bs.length cap, .int .i64 s.most, .int .i64 s.err] 124 (0, 0))) (hF : ∀ k, Value.ownBlock (.slice a s.bs.length cap) = some k → F k)
    (hne : some g ≠ Value.ownBlock (.slice a s.bs.length cap)) (hG : ∀ k, k < w.heap.size → F k → G k) (hG2 : ∀ k, w.heap.size ≤ k → G k) (h0 : Kept NoB w w0) (hz : w0.heap.size = w.heap.size)
    (hown : w1.ownsRow 0 5 1 v' (s.bs.length + l.length) ((s.bs ++ l).map (Value.int .u8))) (hg : w0.grownBy w1 (Value.ownBlock (.slice a s.bs.length cap)))
    (hat : v'.ownBlock = Value.ownBlock (.slice a s.bs.length cap) ∨ v'.ownBlock = some w0.heap.size) :
    OutAt (w1.setCell ⟨g, 0, none⟩ v') G g ⟨s.bs ++ l, s.most, 0⟩ ∧ Kept F w (w1.setCell ⟨g, 0, none⟩ v') := by
  have hk : Kept (fun k => some k = Value.ownBlock (.slice a s.bs.length cap)) w w1 := (h0.mono (fun _ _ h => h.elim)).grown hg (fun k hk => .inl hk.symm)
  have hgl := heap_lt hv
  refine ⟨h.store hk hne (hG g hgl h.1) (h.2.1.append hl) he (by rw [List.length_append]; exact hown) (fun k hk2 => ?_), ?_⟩
  · rcases hat with e | e
    · rw [e] at hk2
      rcases Nat.lt_or_ge k w.heap.size with hlt | hge
      · exact hG k hlt (hF k hk2)
      · exact hG2 k hge
    · rw [e] at hk2
      injection hk2 with hk2
      subst hk2
      exact hG2 _ (by omega)
  · exact ((h0.mono (fun _ _ h => h.elim)).grown hg (fun k hk => .inl (hF k hk))).setCell (.inl h.1) _

def textErr (l : List Int) : Int := if 65535 < l.length then 4 else 0

set_option maxRecDepth 100000 in
/-- Text. -/
theorem Text_any (g : Nat) (s : OSt) (bv : Value) (l : List Int) (F G : Nat → Prop) (w : World) (h : OutAt w F g s) (hb : BSl w G bv l) (hFG : ∀ k, G k → ¬ F k) (hs : s.bs.length ≤ 900000) (hl : l.length ≤ 1000000) :
    Calls Try.prog 54 #[.pointer (some ⟨g, 0, none⟩), bv] w fun r w' =>
      r = .returned (.tuple #[]) ∧ OutAt w' (fun k => F k ∨ w.heap.size ≤ k) g (s.emit (textErr l) (be l.length 2 ++ l)) ∧ Kept F w w' := by
  obtain ⟨i0, hi0, hz0, hz1, hz2⟩ := info_parts Try.info5
  have HO := Lib.hid h
  have HB := Lib.hid hb
  obtain ⟨a, cap, rfl, hc, _, _, _⟩ := hb
  clear h
  have hlen : ((be l.length 2 ++ l).length : Int) = 2 + (l.length : Int) := by simp [be_len]
  by_cases hlong : 65535 < l.length
  · have hp : textErr l = 4 := if_pos hlong
    rw [hp, OSt.emit_err _ _ _ (by decide)]
    clear hp
    go_enter Try.func54, Try.ntmps54
    go_wp2_with fail
    refine (fail_any g s 4 F _ HO.out (by omega) (by omega)).mono ?_
    rintro e w1 ⟨rfl, hO1, hk1⟩
    have HO1 := Lib.hid hO1
    clear hO1
    go_wp2
    go_end0
    exact ⟨rfl, HO1.out.mono (fun _ _ h => .inl h), hk1⟩
  · have hp : textErr l = 0 := if_neg hlong
    rw [hp]
    clear hp
    by_cases hf : s.fitB (2 + (l.length : Int)) = true
    · have HE := Lib.hid (OSt.emit_fit s (be l.length 2 ++ l) (by rw [hlen]; exact hf))
      have HL := Lib.hid hlen
      clear hlen
      go_enter Try.func54, Try.ntmps54
      go_wp2_with fail
      refine (fits_any g s (2 + (l.length : Int)) F _ HO.out (by omega) (by omega) (by omega)).mono ?_
      rintro e w1 ⟨rfl, hO1, hq1⟩
      have hfit := HE.out.2.1
      rw [HL.out] at hfit
      rw [hfit] at hO1
      have HO1 := Lib.hid hO1
      clear hO1 hfit
      go_wp2_with fail
      refine (number_any g s l.length 2 F _ HO1.out HE.out.2.2 (by omega) (by omega) (by omega) (by omega)).mono ?_
      rintro e w2 ⟨rfl, hO2, hq2⟩
      rw [Int.toNat_natCast] at hO2
      have hsz1 := hq1.size
      have hsz2 := hq2.size
      obtain ⟨s2, hs2⟩ : ∃ s2 : OSt, s2 = ⟨s.bs ++ be l.length 2, s.most, 0⟩ := ⟨_, rfl⟩
      rw [← hs2] at hO2
      have he2 : s2.err = 0 := by rw [hs2]
      have hl2 : s2.bs.length ≤ 900002 := by rw [hs2]; simp [be_len]; omega
      have HS2 := Lib.hid hs2
      have HE2 := Lib.hid he2
      have HO2 := Lib.hid hO2
      obtain ⟨a1, cap1, c0, c1, c2, hfz, hown, hF, hhp, hg⟩ := hO2.cells
      have f0 := hfz 0
      have hne : some g ≠ (Value.slice a1 s2.bs.length cap1).ownBlock := own_ne hown hhp (by decide)
      have hgl : g < w2.heap.size := heap_lt hhp
      have HHP := Lib.hid hhp
      have HHF := Lib.hid hF
      clear hO2 hhp hfz c1 c2 hF hs2 he2
      go_wp2_with (at_builtin; refine wpList_append_bsl _ rfl (.tmp 28) (.tmp 29) _ rfl 5 i0 _ Try.underlying22 hi0 hz0 hz1 hz2 rfl (.slice a1 s2.bs.length cap1) s2.bs.length s2.bs rfl hown G _ l rfl ((HB.out.kept hq1 hFG).kept hq2 hFG) (by omega) ?_; intro a' c' w3 hown2 hg2 hat2; have d0 : w3.cell? ⟨g, 0, none⟩ = some (.slice a1 s2.bs.length cap1) := (hg2.cell_far ⟨g, 0, none⟩ hgl hne).trans c0; have e0 : w3.frozen? ⟨g, 0, none⟩ = false := (hg2.frozen_far ⟨g, 0, none⟩ hgl hne).trans f0)
      go_end0
      have R := HO2.out.grow (G := fun k => F k ∨ w.heap.size ≤ k) HB.out.isB HE2.out HHP.out HHF.out hne (fun k _ h => h.imp id (fun h => by omega)) (fun k hk => .inr (by omega)) (Kept.refl _ _) rfl hown2 hg2 hat2
      rw [HE.out.1, ← List.append_assoc]
      have hR := R.1
      have h1 : (⟨s2.bs ++ l, s2.most, 0⟩ : OSt) = ⟨s.bs ++ be l.length 2 ++ l, s.most, 0⟩ := by rw [HS2.out]
      rw [h1] at hR
      exact ⟨rfl, hR, (hq1.trans hq2 (fun _ _ h => h)).trans R.2 (fun i hi h => h.elim id (fun h => by omega))⟩
    · have hf' : s.fitB (2 + (l.length : Int)) = false := by simpa using hf
      have HE := Lib.hid (OSt.emit_nofit s (be l.length 2 ++ l) (by rw [hlen]; exact hf'))
      have HL := Lib.hid hlen
      clear hf hlen
      go_enter Try.func54, Try.ntmps54
      go_wp2_with fail
      refine (fits_any g s (2 + (l.length : Int)) F _ HO.out (by omega) (by omega) (by omega)).mono ?_
      rintro e w1 ⟨rfl, hO1, hq1⟩
      have HO1 := Lib.hid hO1
      clear hO1
      go_wp2
      go_end0
      rw [HE.out, HL.out]
      exact ⟨rfl, HO1.out.mono (fun _ _ h => .inl h), hq1⟩

set_option maxRecDepth 100000 in
/-- Done. -/
theorem Done_any (g : Nat) (s : OSt) (F : Nat → Prop) (w : World) (h : OutAt w F g s) (hs : s.bs.length ≤ 1000000) :
    Calls Try.prog 50 #[.pointer (some ⟨g, 0, none⟩)] w fun r w' =>
      ∃ v', r = .returned (.tuple #[v', .int .i64 s.err]) ∧ BSl w' (fun k => w.heap.size ≤ k) v' s.bs ∧ Kept NoB w w' := by
  have HO := Lib.hid h
  obtain ⟨a1, cap1, c0, c1, c2, hfz, hown, hF, hhp, hg⟩ := h.cells
  have HB := Lib.hid (BSl.ofOwn hown h.2.1 hF)
  have hgl : g < w.heap.size := heap_lt hhp
  clear h c1 hfz hown hF hhp
  go_enter Try.func50, Try.ntmps50
  go_wp2_with fail
  go_region_held3 (fun w' => w'.cell? ⟨g, 0, none⟩ = some (.slice a1 s.bs.length cap1) ∧ w'.cell? ⟨g, 2, none⟩ = some (.int .i64 s.err))
    (first | go_keep | (go_split_ands; exact ⟨hk1.cell (p := ⟨g, 0, none⟩) (fun h => h) (by assumption), hk1.cell (p := ⟨g, 2, none⟩) (fun h => h) (by assumption)⟩))
    ((go_at_call 57; refine (Clone_any _ s.bs F _ (HB.out.kept (Kept.refl NoB _).drew (fun _ _ h => h)) hs).mono ?_; rintro e w1 ⟨v', rfl, hv', hk1⟩))
  go_wp2
  go_ret2
  exact ⟨v', rfl, hv'.mono (fun _ _ h => h), hk1.os, hk1.tape, hk1.output, hk1.size, hk1.block⟩
end Go.Proofs.Ytiifkcjngajegaa
