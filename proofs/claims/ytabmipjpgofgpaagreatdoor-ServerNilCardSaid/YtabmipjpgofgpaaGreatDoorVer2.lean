/-
  Package vers: Trim.
-/
import Derived.Test.YtabmipjpgofgpaaGreatDoorVer1
namespace Go.Proofs.YtabmipjpgofgpaaGreatDoor
open Go.RowKit
set_option linter.unusedVariables false

theorem VTrim_nil (w : World) (done : Int) : Calls Tryz.prog 60 #[.pointer none, .int .u64 done] w fun e w' => e = .returned (.int .i64 0) ∧ Kept NoB w w' := by
  have HU := Lib.hid (Vupto_any w (.pointer none) (.slice none 0 0) [] done NoB (TellsV.nil w) (VsAt.nil w NoB) Asc.nil (by decide))
  have hc : cnt [] done = 0 := rfl
  rw [hc] at HU
  clear hc
  go_enter Tryz.func60, Tryz.ntmps60
  go_wp2_with fail
  refine HU.out.mono ?_
  rintro e w1 ⟨a, rfl, _, hk⟩
  have HK := Lib.hid hk
  clear hk
  go_wp2
  go_ret
  exact ⟨rfl, HK.out⟩
/-- What Trim leaves. -/
def TrimEndV (w : World) (g : Nat) (G : Nat → Prop) (l : List Vn) (done : Int) (e : Ending) (w' : World) : Prop :=
  e = .returned (.int .i64 (trimN l done)) ∧ BkAt w' g G (trimV l done) ∧ Kept G w w'
set_option maxRecDepth 100000 in
theorem VTrim_any (w : World) (g : Nat) (G : Nat → Prop) (l : List Vn) (done : Int) (h : BkAt w g G l) (hl : l.length ≤ 100000) : Calls Tryz.prog 60 #[.pointer (some ⟨g, 0, none⟩), .int .u64 done] w (TrimEndV w g G l done) := by
  have HA := Lib.hid h.asc
  obtain ⟨a0, c0, hc, hv⟩ := h.vs
  have HU := Lib.hid (Vupto_any w _ _ l done G (TellsV.of hc) hv h.asc hl)
  have HH := Lib.hid h
  have hle := cnt_le l done
  obtain ⟨m, hm⟩ : ∃ m, m = cnt l done := ⟨_, rfl⟩
  rw [← hm] at HU hle
  have HM := Lib.hid hm
  clear h hc hv hm
  by_cases h2 : 2 ≤ m
  · obtain ⟨v, ps, b1, b2, b3, b4, b5, b6, b7⟩ := HH.out
    have hpl : ps.length = l.length := by rw [← b3, List.length_map]
    obtain ⟨r, c, rfl⟩ : ∃ r c, v = .slice (some ⟨r, 0, none⟩) ps.length c := by
      rcases b2.2 with ⟨_, h0⟩ | ⟨r, cap, cur, hv, _⟩
      · omega
      · exact ⟨r, cap, hv⟩
    have hgr : r ≠ g := by
      intro e
      subst e
      rcases b2.2 with ⟨hv, _⟩ | ⟨r', cap, cur, hv, _, hr, _⟩
      · cases hv
      · injection hv with hv
        injection hv with hv
        injection hv with hv _ _
        subst hv
        rw [b1] at hr
        injection hr with hr
        injection hr with _ hr _
        exact absurd hr (by decide)
    have hk0 : 0 < m - 1 := by omega
    have B1 := Lib.hid b1
    have B2 := Lib.hid b2
    have B3 := Lib.hid b3
    have B4 := Lib.hid b4
    have B5 := Lib.hid b5
    have B6 := Lib.hid b6
    have HPL := Lib.hid hpl
    obtain ⟨k, hk⟩ : ∃ k, k = m - 1 := ⟨_, rfl⟩
    have hkm : m = k + 1 := by omega
    rw [← hk] at hk0
    subst hkm
    have hs : ((k + 1 : Nat) : Int) - 1 = (k : Int) := by omega
    have hkk : (0 : Int) < (k : Int) := by omega
    have hml : (k : Int) ≤ 100000 := by omega
    clear b1 b2 b3 b4 b5 b6 b7 hpl hk
    go_enter Tryz.func60, Tryz.ntmps60
    go_wp2_with fail
    refine HU.out.mono ?_
    rintro e w1 ⟨a, rfl, _, hk⟩
    have HK := Lib.hid hk
    have c1 := cell_of_row _ _ 0 _ _ _ (hk.heap (fun h => h) B1.out)
    have z1 := blkV_frozen (hk.heap (fun h => h) B1.out)
    have HD := Lib.hid (VDelete_any w1 r c k ps _ (B2.out.no hk) (B4.out.kept hk (fun _ _ h => h)) hk0 (by have := HPL.out; omega) (by have := HPL.out; omega))
    have HW1 := Lib.hid (hk.heap (fun h => h) B1.out)
    clear hk
    go_wp2_with fail
    refine HD.out.mono ?_
    rintro e w2 ⟨rfl, ho2, hk2⟩
    have HO2 := Lib.hid ho2
    have HK2 := Lib.hid hk2
    have h2 := hk2.heap (fun h : g = r => hgr h.symm) HW1.out
    have HW2 := Lib.hid h2
    have c2 := cell_of_row _ _ 0 _ _ _ h2
    have z2 := blkV_frozen h2
    clear ho2 hk2 c1 z1 h2
    go_wp2
    go_ret
    have hle2 : k ≤ ps.length := by have := HPL.out; omega
    have hkt : trimN l done = k := by unfold trimN; rw [← HM.out]; omega
    have hdl : (ps.drop k).length = ps.length - k := List.length_drop
    refine ⟨by rw [hkt]; rfl, ?_, ?_⟩
    · refine ⟨.slice (some ⟨r, 0, none⟩) (ps.length - k) c, ps.drop k, blkV_set HW2.out 0 _, ?_, ?_, ?_, B5.out, fun i hi => ?_, HA.out.drop _⟩
      · refine VOw.kept (S := fun k => k = g) HO2.out ((Kept.refl (fun k => k = g) _).setCell (p := ⟨g, 0, none⟩) (.inl (by show g = g; rfl)) _) (fun i hi h => ?_)
        injection hi with hi
        exact hgr (hi.trans h)
      · unfold trimV
        rw [hkt, List.map_drop, B3.out]
      · have hd := (B4.out.kept HK.out (fun _ _ h => h)).kept HK2.out (fun i hi h => hi.2.2 (by rw [show i = r from h]; rfl))
        have hd2 : DatIn w2 (fun i => G i ∧ i ≠ g ∧ some i ≠ (Value.slice (some ⟨r, 0, none⟩) (ps.length - k) c).ownBlock) (ps.drop k) := fun p hp => (hd p (List.mem_of_mem_drop hp)).mono (fun _ _ h => h)
        exact hd2.kept (S := fun k => k = g) ((Kept.refl (fun k => k = g) _).setCell (p := ⟨g, 0, none⟩) (.inl (by show g = g; rfl)) _) (fun i hi h => hi.2.1 h)
      · exact B6.out i hi
    · exact ((HK.out.mono (T := G) (fun _ _ h => absurd h (fun h => h))).trans HK2.out (fun i hi h => B6.out i (by rw [show i = r from h]; rfl))).setCell (p := ⟨g, 0, none⟩) (.inl B5.out) _
  · go_enter Tryz.func60, Tryz.ntmps60
    go_wp2_with fail
    refine HU.out.mono ?_
    rintro e w1 ⟨a, rfl, _, hk⟩
    have HK := Lib.hid hk
    have hn : trimN l done = 0 := by unfold trimN; rw [← HM.out]; omega
    have HN := Lib.hid hn
    have HN2 : Hid (trimV l done = l) := Lib.hid (by unfold trimV; rw [hn]; rfl)
    clear hk hn
    by_cases h0 : m = 0
    · have hlt : (m : Int) - 1 < 0 := by omega
      clear h0
      go_wp2
      go_ret
      exact ⟨by rw [HN.out]; rfl, by rw [HN2.out]; exact HH.out.no HK.out, HK.out.mono (fun _ _ h => absurd h (fun h => h))⟩
    · have h1 : (m : Int) - 1 = 0 := by omega
      have H1 := Lib.hid h1
      have hlt : 0 ≤ (m : Int) - 1 := by omega
      have hlt2 : (m : Int) - 1 ≤ 0 := by omega
      clear h1 h0
      go_wp2
      go_ret
      exact ⟨by rw [HN.out]; exact congrArg (fun i => Ending.returned (.int .i64 i)) H1.out, by rw [HN2.out]; exact HH.out.no HK.out, HK.out.mono (fun _ _ h => absurd h (fun h => h))⟩
end Go.Proofs.YtabmipjpgofgpaaGreatDoor
