/-
  Package vers: Trim. Package vers: follows, Put.
-/
import Derived.Test.YtnnmkmipeoajjaaGreatDoorVer1
import Derived.Deep.AppendLies
import Derived.IntWalk
namespace Go.Proofs.YtnnmkmipeoajjaaGreatDoor
open Go.RowKit
set_option linter.unusedVariables false

theorem VTrim_nil (w : World) (done : Int) : Calls Tryz.prog 95 #[.pointer none, .int .u64 done] w fun e w' => e = .returned (.int .i64 0) ∧ Kept NoB w w' := by
  have HU := Lib.hid (Vupto_any w (.pointer none) (.slice none 0 0) [] done NoB (TellsV.nil w) (VsAt.nil w NoB) Asc.nil (by decide))
  have hc : cnt [] done = 0 := rfl
  rw [hc] at HU
  clear hc
  go_enter Tryz.func95, Tryz.ntmps95
  go_wp2_with fail
  refine HU.out.mono ?_
  rintro e w1 ⟨a, rfl, _, hk⟩
  have HK := Lib.hid hk
  clear hk
  go_wp2
  go_ret
  exact ⟨rfl, HK.out⟩
/-- What Trim leaves. -/
def TrimEndV (w : World) (g : Nat) (G : Nat → Prop) (l : List Vn) (done : Int) (e : Ending) (w' : World) : Prop :=
  e = .returned (.int .i64 (trimN l done)) ∧ BkAt w' g G (trimV l done) ∧ Kept G w w'
set_option maxRecDepth 100000 in
theorem VTrim_any (w : World) (g : Nat) (G : Nat → Prop) (l : List Vn) (done : Int) (h : BkAt w g G l) (hl : l.length ≤ 100000) : Calls Tryz.prog 95 #[.pointer (some ⟨g, 0, none⟩), .int .u64 done] w (TrimEndV w g G l done) := by
  have HA := Lib.hid h.asc
  obtain ⟨a0, c0, hc, hv⟩ := h.vs
  have HU := Lib.hid (Vupto_any w _ _ l done G (TellsV.of hc) hv h.asc hl)
  have HH := Lib.hid h
  have hle := cnt_le l done
  obtain ⟨m, hm⟩ : ∃ m, m = cnt l done := ⟨_, rfl⟩
  rw [← hm] at HU hle
  have HM := Lib.hid hm
  clear h hc hv hm
  by_cases h2 : 2 ≤ m
  · obtain ⟨v, ps, b1, b2, b3, b4, b5, b6, b7⟩ := HH.out
    have hpl : ps.length = l.length := by rw [← b3, List.length_map]
    obtain ⟨r, c, rfl⟩ : ∃ r c, v = .slice (some ⟨r, 0, none⟩) ps.length c := by
      rcases b2.2 with ⟨_, h0⟩ | ⟨r, cap, cur, hv, _⟩
      · omega
      · exact ⟨r, cap, hv⟩
    have hgr : r ≠ g := by
      intro e
      subst e
      rcases b2.2 with ⟨hv, _⟩ | ⟨r', cap, cur, hv, _, hr, _⟩
      · cases hv
      · injection hv with hv
        injection hv with hv
        injection hv with hv _ _
        subst hv
        rw [b1] at hr
        injection hr with hr
        injection hr with _ hr _
        exact absurd hr (by decide)
    have hk0 : 0 < m - 1 := by omega
    have B1 := Lib.hid b1
    have B2 := Lib.hid b2
    have B3 := Lib.hid b3
    have B4 := Lib.hid b4
    have B5 := Lib.hid b5
    have B6 := Lib.hid b6
    have HPL := Lib.hid hpl
    obtain ⟨k, hk⟩ : ∃ k, k = m - 1 := ⟨_, rfl⟩
    have hkm : m = k + 1 := by omega
    rw [← hk] at hk0
    subst hkm
    have hs : ((k + 1 : Nat) : Int) - 1 = (k : Int) := by omega
    have hkk : (0 : Int) < (k : Int) := by omega
    have hml : (k : Int) ≤ 100000 := by omega
    clear b1 b2 b3 b4 b5 b6 b7 hpl hk
    go_enter Tryz.func95, Tryz.ntmps95
    go_wp2_with fail
    refine HU.out.mono ?_
    rintro e w1 ⟨a, rfl, _, hk⟩
    have HK := Lib.hid hk
    have c1 := cell_of_row _ _ 0 _ _ _ (hk.heap (fun h => h) B1.out)
    have z1 := blkV_frozen (hk.heap (fun h => h) B1.out)
    have HD := Lib.hid (VDelete_any w1 r c k ps _ (B2.out.no hk) (B4.out.kept hk (fun _ _ h => h)) hk0 (by have := HPL.out; omega) (by have := HPL.out; omega))
    have HW1 := Lib.hid (hk.heap (fun h => h) B1.out)
    clear hk
    go_wp2_with fail
    refine HD.out.mono ?_
    rintro e w2 ⟨rfl, ho2, hk2⟩
    have HO2 := Lib.hid ho2
    have HK2 := Lib.hid hk2
    have h2 := hk2.heap (fun h : g = r => hgr h.symm) HW1.out
    have HW2 := Lib.hid h2
    have c2 := cell_of_row _ _ 0 _ _ _ h2
    have z2 := blkV_frozen h2
    clear ho2 hk2 c1 z1 h2
    go_wp2
    go_ret
    have hle2 : k ≤ ps.length := by have := HPL.out; omega
    have hkt : trimN l done = k := by unfold trimN; rw [← HM.out]; omega
    have hdl : (ps.drop k).length = ps.length - k := List.length_drop
    refine ⟨by rw [hkt]; rfl, ?_, ?_⟩
    · refine ⟨.slice (some ⟨r, 0, none⟩) (ps.length - k) c, ps.drop k, blkV_set HW2.out 0 _, ?_, ?_, ?_, B5.out, fun i hi => ?_, HA.out.drop _⟩
      · refine VOw.kept (S := fun k => k = g) HO2.out ((Kept.refl (fun k => k = g) _).setCell (p := ⟨g, 0, none⟩) (.inl (by show g = g; rfl)) _) (fun i hi h => ?_)
        injection hi with hi
        exact hgr (hi.trans h)
      · unfold trimV
        rw [hkt, List.map_drop, B3.out]
      · have hd := (B4.out.kept HK.out (fun _ _ h => h)).kept HK2.out (fun i hi h => hi.2.2 (by rw [show i = r from h]; rfl))
        have hd2 : DatIn w2 (fun i => G i ∧ i ≠ g ∧ some i ≠ (Value.slice (some ⟨r, 0, none⟩) (ps.length - k) c).ownBlock) (ps.drop k) := fun p hp => (hd p (List.mem_of_mem_drop hp)).mono (fun _ _ h => h)
        exact hd2.kept (S := fun k => k = g) ((Kept.refl (fun k => k = g) _).setCell (p := ⟨g, 0, none⟩) (.inl (by show g = g; rfl)) _) (fun i hi h => hi.2.1 h)
      · exact B6.out i hi
    · exact ((HK.out.mono (T := G) (fun _ _ h => absurd h (fun h => h))).trans HK2.out (fun i hi h => B6.out i (by rw [show i = r from h]; rfl))).setCell (p := ⟨g, 0, none⟩) (.inl B5.out) _
  · go_enter Tryz.func95, Tryz.ntmps95
    go_wp2_with fail
    refine HU.out.mono ?_
    rintro e w1 ⟨a, rfl, _, hk⟩
    have HK := Lib.hid hk
    have hn : trimN l done = 0 := by unfold trimN; rw [← HM.out]; omega
    have HN := Lib.hid hn
    have HN2 : Hid (trimV l done = l) := Lib.hid (by unfold trimV; rw [hn]; rfl)
    clear hk hn
    by_cases h0 : m = 0
    · have hlt : (m : Int) - 1 < 0 := by omega
      clear h0
      go_wp2
      go_ret
      exact ⟨by rw [HN.out]; rfl, by rw [HN2.out]; exact HH.out.no HK.out, HK.out.mono (fun _ _ h => absurd h (fun h => h))⟩
    · have h1 : (m : Int) - 1 = 0 := by omega
      have H1 := Lib.hid h1
      have hlt : 0 ≤ (m : Int) - 1 := by omega
      have hlt2 : (m : Int) - 1 ≤ 0 := by omega
      clear h1 h0
      go_wp2
      go_ret
      exact ⟨by rw [HN.out]; exact congrArg (fun i => Ending.returned (.int .i64 i)) H1.out, by rw [HN2.out]; exact HH.out.no HK.out, HK.out.mono (fun _ _ h => absurd h (fun h => h))⟩
end Go.Proofs.YtnnmkmipeoajjaaGreatDoor
namespace Go.Proofs.YtnnmkmipeoajjaaGreatDoor
open Go.RowKit
set_option linter.unusedVariables false

theorem VFollows_any (w : World) (x0 x1 y0 y1 : Int) (u t : Value) (h0 : 0 < x0) (h1 : x0 ≤ 18446744073709551615) (h2 : 0 ≤ y0) (h3 : y0 ≤ 18446744073709551615) : Calls Tryz.prog 266 #[.agg #[.int .u64 x0, .int .u64 x1, u], .agg #[.int .u64 y0, .int .u64 y1, t]] w fun e w' => e = .returned (.bool (decide (x0 = y0 + 1 ∧ y1 < x1))) ∧ Kept NoB w w' := by
  obtain ⟨z, hz⟩ : ∃ z, z = IntKind.u64.wrap (y0 + 1) := ⟨_, rfl⟩
  have hzz : (x0 == z) = decide (x0 = y0 + 1) := by
    rw [hz, Bool.eq_iff_iff, beq_iff_eq, decide_eq_true_eq]
    unfold IntKind.wrap
    simp [IntKind.bits, IntKind.signed]
    omega
  have hz' := hz.symm
  have HK := Lib.hid (((Kept.refl NoB w).alloc (.cells #[.int .u64 x0, .int .u64 x1, u] 75)).alloc (.cells #[.int .u64 y0, .int .u64 y1, t] 75))
  clear hz h0 h1 h2 h3
  by_cases hq : y1 < x1
  · by_cases hr : x0 = y0 + 1
    · have hb : decide (x0 = y0 + 1 ∧ y1 < x1) = true := decide_eq_true ⟨hr, hq⟩
      rw [hb]
      rw [decide_eq_true hr] at hzz
      clear hb hr
      go_enter Tryz.func266, Tryz.ntmps266
      go_wp2
      go_ret
      exact ⟨rfl, HK.out⟩
    · have hb : decide (x0 = y0 + 1 ∧ y1 < x1) = false := decide_eq_false (fun h => hr h.1)
      rw [hb]
      rw [decide_eq_false hr] at hzz
      clear hb hr
      go_enter Tryz.func266, Tryz.ntmps266
      go_wp2
      go_ret
      exact ⟨rfl, HK.out⟩
  · have hb : decide (x0 = y0 + 1 ∧ y1 < x1) = false := decide_eq_false (fun h => hq h.2)
    rw [hb]
    obtain ⟨bb, hbb⟩ : ∃ b, b = decide (x0 = y0 + 1) := ⟨_, rfl⟩
    rw [← hbb] at hzz
    have hqb : decide (y1 < x1) = false := decide_eq_false hq
    clear hb hbb
    go_enter Tryz.func266, Tryz.ntmps266
    go_wp2
    all_goals
      go_ret
      exact ⟨rfl, HK.out⟩
theorem VPut_nil (w : World) (x : Value) (n : Vn) (F : Nat → Prop) (h : VnV w F x n) : Calls Tryz.prog 211 #[.pointer none, x] w fun e w' => e = .returned (.int .i64 2) ∧ Kept NoB w w' := by
  obtain ⟨u, rfl, hd⟩ := h
  obtain ⟨ua, uc, rfl, _⟩ := hd
  have HK := Lib.hid ((Kept.refl NoB w).alloc (.cells #[.int .u64 n.r, .int .u64 n.q, .slice ua n.d.length uc] 75))
  go_enter Tryz.func211, Tryz.ntmps211
  go_wp2
  go_ret
  exact ⟨rfl, HK.out⟩
/-- What Put leaves. -/
def PutEndV (w : World) (g : Nat) (G : Nat → Prop) (l : List Vn) (x : Vn) (e : Ending) (w' : World) : Prop :=
  e = .returned (.int .i64 (putXV l x)) ∧ BkAt w' g (fun k => G k ∨ w.heap.size ≤ k) (putLV l x) ∧ Kept G w w'
theorem PutEndV.bad {w w' : World} {g : Nat} {G : Nat → Prop} {l : List Vn} {x : Vn} {n : Int} (hb : BkAt w g G l) (hk : Kept NoB w w') (hn : putXV l x = n) (h0 : n ≠ 0) : PutEndV w g G l x (.returned (.int .i64 n)) w' := by
  refine ⟨by rw [hn], ?_, hk.mono (fun _ _ h => absurd h (fun h => h))⟩
  unfold putLV
  rw [hn, if_neg h0]
  exact (hb.no hk).mono (fun _ _ h => .inl h)
theorem put_end15 {w W w4 w5 : World} {g gg cap1 N c : Nat} {a va : Option Addr} {vc : Nat} {G : Nat → Prop} {l : List Vn} {ps : List (Vn × Value)} {x0 x1 : Int} {x2 : List Int}
    (B2 : VOw 75 0 w (.slice a N c) ps) (B3 : ps.map Prod.fst = l) (B4 : DatIn w (fun k => G k ∧ k ≠ g ∧ some k ≠ (Value.slice a N c).ownBlock) ps) (B5 : G g) (B6 : ∀ k, (Value.slice a N c).ownBlock = some k → G k) (HA : Asc l) (hf : FitV ⟨x0, x1, x2⟩) (hp : putXV l ⟨x0, x1, x2⟩ = 0)
    (hkw : Kept NoB w W) (HWG : W.heap[g]? = some (.cells #[.slice a N c] 251 (0, 0))) (hgw : g < w.heap.size) (hk4 : Kept NoB W.drew w4) (hv4 : Own w4 (fun k => W.heap.size ≤ k) (.slice va x2.length vc) x2)
    (hgrow : (w4.alloc (.cells #[.int .u64 x0, .int .u64 x1, .slice va x2.length vc] 75)).grownBy w5 (Value.slice a N c).ownBlock) (hat : (Value.slice a N c).ownBlock = some gg ∨ gg = w4.heap.size + 1)
    (hown5 : w5.ownsRow 0 75 3 (.slice (some ⟨gg, 0, none⟩) (ps.length + 1) cap1) (ps.length + 1) (vcl ps ++ [.int .u64 x0, .int .u64 x1, .slice va x2.length vc])) (hne : some g ≠ (Value.slice a N c).ownBlock) :
    PutEndV w g G l ⟨x0, x1, x2⟩ (.returned (.int .i64 0)) (w5.setCell ⟨g, 0, none⟩ (.slice (some ⟨gg, 0, none⟩) (ps.length + 1) cap1)) := by
  have k4 : Kept NoB w w4 := (hkw.drew).trans hk4 (fun _ _ h => h)
  have k5b : Kept (fun k => some k = (Value.slice a N c).ownBlock) w4 w5 := ((Kept.refl _ _).alloc _).grown hgrow (fun k hk => .inl hk.symm)
  have k5 : Kept (fun k => some k = (Value.slice a N c).ownBlock) w w5 := (k4.mono (fun _ _ h => absurd h (fun h => h))).trans k5b (fun _ _ h => h)
  have hs4 := k4.size
  have hsW := hkw.size
  have hs45 : W.heap.size ≤ w4.heap.size := hk4.size
  have hgg : gg ≠ g := by
    rintro rfl
    rcases hat with h | h
    · exact hne h.symm
    · omega
  have hG5 : w5.heap[g]? = some (.cells #[.slice a N c] 251 (0, 0)) := k5b.heap (fun h => hne h) (hk4.heap (fun h => h) (show W.drew.heap[g]? = _ from HWG))
  have hset : Kept (fun k => k = g) w5 (w5.setCell ⟨g, 0, none⟩ (.slice (some ⟨gg, 0, none⟩) (ps.length + 1) cap1)) := (Kept.refl (fun k => k = g) _).setCell (p := ⟨g, 0, none⟩) (.inl (by show g = g; rfl)) _
  have hog : ∀ k, (Value.slice a N c).ownBlock = some k → k < w.heap.size := fun k hk => (B2.base k hk).2
  have hO5 : VOw 75 0 w5 (.slice (some ⟨gg, 0, none⟩) (ps.length + 1) cap1) (ps ++ [(⟨x0, x1, x2⟩, .slice va x2.length vc)]) := by
    unfold VOw
    rw [vcl_app, List.length_append]
    exact hown5
  refine ⟨by rw [hp], ⟨.slice (some ⟨gg, 0, none⟩) (ps.length + 1) cap1, ps ++ [(⟨x0, x1, x2⟩, .slice va x2.length vc)], blkV_set hG5 0 _, hO5.kept hset (fun k hk h => ?_), ?_, fun p hm => ?_, .inl B5, fun k hk => ?_, HA.put hf⟩, ?_⟩
  · injection hk with hk
    exact hgg (hk.trans h)
  · unfold putLV
    rw [hp, if_pos rfl, List.map_append, B3]
    rfl
  · refine BSl.kept (S := fun k => k = g) ?_ hset (fun k hk h => hk.2.1 h)
    rcases List.mem_append.1 hm with hm | hm
    · refine BSl.kept (S := fun k => some k = (Value.slice a N c).ownBlock) ((B4 p hm).mono (G := fun k => (G k ∨ w.heap.size ≤ k) ∧ k ≠ g ∧ some k ≠ (Value.slice (some ⟨gg, 0, none⟩) (ps.length + 1) cap1).ownBlock ∧ some k ≠ (Value.slice a N c).ownBlock) (fun k hk h => ⟨.inl h.1, h.2.1, fun e => ?_, h.2.2⟩)) k5 (fun k hk h => hk.2.2.2 h) |>.mono (fun k _ h => ⟨h.1, h.2.1, h.2.2.1⟩)
      injection e with e
      replace e : k = gg := e
      subst e
      rcases hat with hat | hat
      · exact h.2.2 hat.symm
      · omega
    · obtain rfl : p = (⟨x0, x1, x2⟩, .slice va x2.length vc) := by simpa using hm
      have hb : BSl w4 (fun k => W.heap.size ≤ k) (.slice va x2.length vc) x2 := BSl.ofOwn hv4.2.1 hv4.1 hv4.2.2
      refine BSl.kept (S := fun k => some k = (Value.slice a N c).ownBlock) (hb.mono (G := fun k => (G k ∨ w.heap.size ≤ k) ∧ k ≠ g ∧ some k ≠ (Value.slice (some ⟨gg, 0, none⟩) (ps.length + 1) cap1).ownBlock ∧ some k ≠ (Value.slice a N c).ownBlock) (fun k hk h => ⟨.inr (by omega), by omega, fun e => ?_, fun e => ?_⟩)) k5b (fun k hk h => hk.2.2.2 h) |>.mono (fun k _ h => ⟨h.1, h.2.1, h.2.2.1⟩)
      · injection e with e
        replace e : k = gg := e
        subst e
        rcases hat with hat | hat
        · have := hog _ hat; omega
        · omega
      · have := hog _ e.symm; omega
  · injection hk with hk
    replace hk : gg = k := hk
    subst hk
    rcases hat with hat | hat
    · exact .inl (B6 _ hat)
    · exact .inr (by omega)
  · exact (k5.mono (fun k _ h => B6 k h.symm)).trans hset (fun k _ h => by rw [show k = g from h]; exact B5)
set_option maxRecDepth 100000 in
set_option maxHeartbeats 1000000 in
theorem VPut_any (w : World) (g : Nat) (G F : Nat → Prop) (l : List Vn) (x : Value) (n : Vn) (h : BkAt w g G l) (hx : VnV w F x n) (hf : FitV n) (hl : l.length ≤ 1000) (hdl : n.d.length ≤ 1000000) : Calls Tryz.prog 211 #[.pointer (some ⟨g, 0, none⟩), x] w (PutEndV w g G l n) := by
  obtain ⟨i0, hi0, hz0', hz1, hz2⟩ := info_parts info_vers
  obtain ⟨u, rfl, hd⟩ := hx
  obtain ⟨x0, x1, x2⟩ := n
  obtain ⟨hf1, hf2, hf3, hf4⟩ := hf
  simp only at hd hdl hf1 hf2 hf3 hf4 ⊢
  have HD := Lib.hid hd
  obtain ⟨ua, uc, rfl, huc, hucm, _⟩ := hd
  have HH := Lib.hid h
  obtain ⟨v, ps, b1, b2, b3, b4, b5, b6, b7⟩ := h
  have hpl : ps.length = l.length := by rw [← b3, List.length_map]
  obtain ⟨a, c, rfl⟩ := b2.form
  obtain ⟨N, hN⟩ : ∃ N, N = ps.length := ⟨_, rfl⟩
  rw [← hN] at b1 b2 b4 b6
  have HNE : Hid (some g ≠ (Value.slice a N c).ownBlock) := Lib.hid (own_ne b2 b1 (by decide))
  have B1 := Lib.hid b1
  have B2 := Lib.hid b2
  have B3 := Lib.hid b3
  have B4 := Lib.hid b4
  have B5 := Lib.hid b5
  have B6 := Lib.hid b6
  have HA := Lib.hid b7
  have HPL := Lib.hid hpl
  have HN := Lib.hid hN
  have HGW := Lib.hid (heap_lt b1)
  have hpl1 : ps.length ≤ 1000 := by omega
  have HKX := Lib.hid ((Kept.refl NoB w).alloc (.cells #[.int .u64 x0, .int .u64 x1, .slice ua x2.length uc] 75))
  have HXX := Lib.hid (heap_alloc_new w (.cells #[.int .u64 x0, .int .u64 x1, .slice ua x2.length uc] 75))
  obtain ⟨d0, d1, d2⟩ := cells3v HXX.out
  have c1 := cell_of_row _ _ 0 _ _ _ (HKX.out.heap (fun h => h) b1)
  clear b1 b2 b3 b4 b5 b6 b7 hpl hN
  by_cases e1 : 2048 < x2.length
  · have HP : Hid (putXV l ⟨x0, x1, x2⟩ = 6) := Lib.hid (by unfold putXV; rw [if_pos e1])
    have g1 : (2048 : Int) < (x2.length : Int) := by omega
    clear e1
    go_enter Tryz.func211, Tryz.ntmps211
    go_wp2
    go_ret
    exact PutEndV.bad HH.out HKX.out HP.out (by decide)
  have g1 : (x2.length : Int) ≤ 2048 := by omega
  by_cases e2 : x0 = 0 ∨ x1 = 0
  · have HP : Hid (putXV l ⟨x0, x1, x2⟩ = 1) := Lib.hid (by unfold putXV; rw [if_neg e1, if_pos e2])
    clear e1
    by_cases e3 : x0 = 0
    · have q0 : (x0 == 0) = true := by simpa using e3
      clear e2 e3
      go_enter Tryz.func211, Tryz.ntmps211
      go_wp2
      go_ret
      exact PutEndV.bad HH.out HKX.out HP.out (by decide)
    · have q0 : (x0 == 0) = false := by simpa using e3
      have q1 : (x1 == 0) = true := by rcases e2 with e2 | e2; exact absurd e2 e3; simpa using e2
      clear e2 e3
      go_enter Tryz.func211, Tryz.ntmps211
      go_wp2
      go_ret
      exact PutEndV.bad HH.out HKX.out HP.out (by decide)
  have q0 : (x0 == 0) = false := by rw [beq_eq_false_iff_ne]; exact fun h => e2 (.inl h)
  have q1 : (x1 == 0) = false := by rw [beq_eq_false_iff_ne]; exact fun h => e2 (.inr h)
  have hx0 : 0 < x0 := by omega
  by_cases e4 : l = []
  · have HP : Hid (putXV l ⟨x0, x1, x2⟩ = 0) := Lib.hid (by unfold putXV; rw [if_neg e1, if_neg e2, if_neg (by rw [e4]; simp)])
    obtain rfl : N = 0 := by rw [HN.out, HPL.out, e4]; rfl
    clear e1 e2 e4
    go_enter Tryz.func211, Tryz.ntmps211
    go_wp2
    go_quiet (fail)
    go_wp2_with fail
    obtain ⟨W, hW⟩ : ∃ W, W = (w.alloc (.cells #[.int .u64 x0, .int .u64 x1, .slice ua x2.length uc] 75)).drewN nq := ⟨_, rfl⟩
    rw [← hW]
    have HKW : Hid (Kept NoB w W) := Lib.hid (by rw [hW]; exact (HKX.out.drewN nq))
    have HWG : Hid (W.heap[g]? = some (.cells #[.slice a 0 c] 251 (0, 0))) := Lib.hid (HKW.out.heap (fun h => h) B1.out)
    have HWX : Hid (W.heap[w.heap.size]? = some (.cells #[.int .u64 x0, .int .u64 x1, .slice ua x2.length uc] 75 (0, 0))) := Lib.hid (by rw [hW]; exact HXX.out)
    clear hW
    have hp0 := cell_of_row _ _ 0 _ _ _ HWG.out
    have hz0 := blkV_frozen HWG.out
    obtain ⟨hd0, hd1, hd2⟩ := cells3v HWX.out
    clear d0 d1 d2 c1
    have HU := Lib.hid (HD.out.kept HKW.out (fun _ _ h => h))
    have hown := Lib.hid (B2.out.no HKW.out)
    have HCO : Hid (∀ w', Kept NoB W w' → Calls Tryz.prog 161 #[.agg #[.int .u64 x0, .int .u64 x1, .slice ua x2.length uc]] w' fun e w'' => ∃ va vc, e = .returned (.agg #[.int .u64 x0, .int .u64 x1, .slice va x2.length vc]) ∧ Own w'' (fun k => W.heap.size ≤ k) (.slice va x2.length vc) x2 ∧ Kept NoB w' w'') := Lib.hid (fun w' hk =>
      (VCopyOf_any w' _ ⟨x0, x1, x2⟩ F ⟨_, rfl, HU.out.kept hk (fun _ _ h => h)⟩ (by show x2.length ≤ 1000000; omega)).mono fun e w'' ⟨v', h1, ⟨u', hu, h2⟩, h3⟩ => by
        obtain ⟨va, vc, rfl⟩ := own_form h2.2.1
        exact ⟨va, vc, by rw [h1, hu], h2.mono (fun k _ h => Nat.le_trans hk.size h), h3⟩)
    have hgl : g < W.heap.size := heap_lt HWG.out
    go_region_law (first
      | (go_simp; go_at_call 161; (with_reducible refine (HCO.out _ ((Kept.refl NoB W).drew)).mono ?_); rintro e w4 ⟨va, vc, rfl, hv4, hk4⟩; have HV4 := Lib.hid hv4; have HK4 := Lib.hid hk4; have hB4 := Lib.hid (show W.heap.size ≤ w4.heap.size from hk4.size); have k0 : w4.cell? ⟨g, 0, none⟩ = some (.slice a 0 c) := hk4.cell (p := ⟨g, 0, none⟩) (fun h => h) (cell_drew hp0); have kz := blkV_frozen (hk4.heap (fun h => h) (show W.drew.heap[g]? = _ from HWG.out)); have k0a := cell_alloc k0 (.cells #[.int .u64 x0, .int .u64 x1, .slice va x2.length vc] 75); have hown4 := Lib.hid (hown.out.no (((Kept.refl NoB W).drew).trans hk4 (fun _ _ h => h))); clear hv4 hk4)
      | (refine step_append_lies _ (by rfl) _ _ _ (by rfl) 0 75 i0 _ 3 40 Tryz.underlying247 hi0 hz0' hz1 hz2 rfl (by omega) (.slice a 0 c) ps.length (vcl ps) (by rfl) (hown4.out.alloc _) ⟨w4.heap.size, 0, none⟩ 1 1 [.int .u64 x0, .int .u64 x1, .slice va x2.length vc] (by rfl) (by rfl) (World.news_of_block (cs := #[.int .u64 x0, .int .u64 x1, .slice va x2.length vc]) (t := 75) (fr := (0, 0)) (heap_alloc_new w4 _)) (by simp [Value.oneCell']) (by omega) (by unfold maxLen; omega) (by omega) (Nat.zero_le _) (w4.heap.size + 1) (by simp) ?_; intro gg cap1 w5 hown5 hgrow hat hlt5; have HGR := Lib.hid hgrow; have HO5 := Lib.hid hown5; have HAT := Lib.hid hat; have j0 : w5.cell? ⟨g, 0, none⟩ = some (.slice a 0 c) := (hgrow.cell_far ⟨g, 0, none⟩ (by have := hB4.out; simp; omega) HNE.out).trans (cell_alloc k0 _); have jz : w5.frozen? ⟨g, 0, none⟩ = false := (hgrow.frozen_far ⟨g, 0, none⟩ (by have := hB4.out; simp; omega) HNE.out).trans (frozen_alloc (by have := hB4.out; show g < _; omega) (kz 0) _); clear hown5 hgrow hat))
    all_goals
      go_wp2
      go_ret
      exact put_end15 B2.out B3.out B4.out B5.out B6.out HA.out ⟨hf1, hf2, hf3, hf4⟩ (by rw [HP.out]) HKW.out HWG.out HGW.out HK4.out HV4.out HGR.out HAT.out HO5.out HNE.out
  · have hN0 : 0 < N := by rw [HN.out, HPL.out]; exact List.length_pos_iff.2 e4
    have hN1 : N ≤ 1000 := by rw [HN.out]; exact hpl1
    obtain ⟨⟨y0, y1, y2⟩, hy⟩ : ∃ y, y = lastV l := ⟨_, rfl⟩
    have hyf : 0 ≤ y0 ∧ y0 ≤ 18446744073709551615 := by
      have := HA.out.fit (l.length - 1)
      unfold lastV at hy
      rw [← hy] at this
      exact ⟨this.1, this.2.1⟩
    obtain ⟨bb, hbb⟩ : ∃ b, b = decide (x0 = y0 + 1 ∧ y1 < x1) := ⟨_, rfl⟩
    have HP : Hid (putXV l ⟨x0, x1, x2⟩ = if bb = true then 0 else 12) := Lib.hid (by
      unfold putXV
      rw [if_neg e1, if_neg e2, ← hy]
      have : 0 < l.length := List.length_pos_iff.2 e4
      rw [hbb]
      simp only [decide_eq_true_eq]
      by_cases hc : x0 = y0 + 1 ∧ y1 < x1
      · rw [if_neg (fun h => h.2 hc), if_pos hc]
      · rw [if_pos ⟨this, hc⟩, if_neg hc])
    have HLO : Hid (∀ w', Kept NoB w w' → Calls Tryz.prog 162 #[.slice a N c] w' fun e w'' => ∃ u' n' c', e = .returned (.agg #[.int .u64 y0, .int .u64 y1, .slice u' n' c']) ∧ Kept NoB w' w'') := Lib.hid (fun w' hk => by
      have hvs := (B2.out.vs (F := G) B6.out (B4.out.mono (fun k _ h => h.1))).no hk
      rw [B3.out] at hvs
      refine (VLastOf_any w' _ l G hvs).mono ?_
      rintro e w'' ⟨v', rfl, ⟨u, rfl, hu⟩, h2⟩
      obtain ⟨u', c', rfl, _⟩ := hu
      rw [← hy]
      exact ⟨_, _, _, rfl, h2⟩)
    have HFO : Hid (∀ (w' : World) u' n' c', Calls Tryz.prog 266 #[.agg #[.int .u64 x0, .int .u64 x1, .slice ua x2.length uc], .agg #[.int .u64 y0, .int .u64 y1, .slice u' n' c']] w' fun e w'' => e = .returned (.bool bb) ∧ Kept NoB w' w'') := Lib.hid (fun w' u' n' c' => by
      rw [hbb]
      exact VFollows_any w' x0 x1 y0 y1 _ _ hx0 (by omega) hyf.1 hyf.2)
    clear e1 e2 e4 hy hyf hbb
    go_enter Tryz.func211, Tryz.ntmps211
    go_wp2_with fail
    obtain ⟨W0, hW0⟩ : ∃ W0, W0 = w.alloc (.cells #[.int .u64 x0, .int .u64 x1, .slice ua x2.length uc] 75) := ⟨_, rfl⟩
    rw [← hW0] at HKX HXX d0 d1 d2 c1 ⊢
    clear hW0
    have HKQ := Lib.hid HKX.out.drew
    go_region_held3 (fun w' => w'.cell? ⟨g, 0, none⟩ = some (.slice a N c) ∧ w'.cell? ⟨w.heap.size, 0, none⟩ = some (.int .u64 x0) ∧ w'.cell? ⟨w.heap.size, 1, none⟩ = some (.int .u64 x1) ∧ w'.cell? ⟨w.heap.size, 2, none⟩ = some (.slice ua x2.length uc))
      (first
        | (with_reducible exact ⟨cell_drew c1, cell_drew d0, cell_drew d1, cell_drew d2⟩)
        | (with_reducible exact ⟨k0, k1, k2, k3⟩)
        | (with_reducible exact ⟨m0, m1, m2, m3⟩)
        | go_keep)
      (first
        | (go_at_call 162; (with_reducible refine (HLO.out _ HKQ.out).mono ?_); rintro e w3 ⟨u', n', c', rfl, hk3⟩; have HKA := Lib.hid (HKQ.out.trans hk3 (fun _ _ h => h)); have HXA := Lib.hid (hk3.heap (fun h => h) HXX.out); have k0 := hk3.cell (p := ⟨g, 0, none⟩) (fun h => h) c1; have k1 := hk3.cell (p := ⟨w.heap.size, 0, none⟩) (fun h => h) d0; have k2 := hk3.cell (p := ⟨w.heap.size, 1, none⟩) (fun h => h) d1; have k3 := hk3.cell (p := ⟨w.heap.size, 2, none⟩) (fun h => h) d2; clear hk3)
        | (go_at_call 266; (with_reducible refine (HFO.out _ _ _ _).mono ?_); rintro e w4 ⟨rfl, hk4⟩; have HKB := Lib.hid (HKA.out.trans hk4 (fun _ _ h => h)); have HXB := Lib.hid (hk4.heap (fun h => h) HXA.out); have m0 := hk4.cell (p := ⟨g, 0, none⟩) (fun h => h) k0; have m1 := hk4.cell (p := ⟨w.heap.size, 0, none⟩) (fun h => h) k1; have m2 := hk4.cell (p := ⟨w.heap.size, 1, none⟩) (fun h => h) k2; have m3 := hk4.cell (p := ⟨w.heap.size, 2, none⟩) (fun h => h) k3; clear hk4))
    cases bb
    · go_wp2_with fail
      go_ret
      exact PutEndV.bad HH.out HKB.out (by rw [HP.out]; rfl) (by decide)
    · go_wp2_with fail
      obtain ⟨W, hW⟩ : ∃ W, W = w4 := ⟨_, rfl⟩
      rw [← hW]
      have HKW : Hid (Kept NoB w W) := Lib.hid (by rw [hW]; exact HKB.out)
      have HWG : Hid (W.heap[g]? = some (.cells #[.slice a N c] 251 (0, 0))) := Lib.hid (HKW.out.heap (fun h => h) B1.out)
      have HWX : Hid (W.heap[w.heap.size]? = some (.cells #[.int .u64 x0, .int .u64 x1, .slice ua x2.length uc] 75 (0, 0))) := Lib.hid (by rw [hW]; exact HXB.out)
      clear hW
      have hp0 := cell_of_row _ _ 0 _ _ _ HWG.out
      have hz0 := blkV_frozen HWG.out
      obtain ⟨hd0, hd1, hd2⟩ := cells3v HWX.out
      clear d0 d1 d2 c1
      have HU := Lib.hid (HD.out.kept HKW.out (fun _ _ h => h))
      have hown := Lib.hid (B2.out.no HKW.out)
      have HCO : Hid (∀ w', Kept NoB W w' → Calls Tryz.prog 161 #[.agg #[.int .u64 x0, .int .u64 x1, .slice ua x2.length uc]] w' fun e w'' => ∃ va vc, e = .returned (.agg #[.int .u64 x0, .int .u64 x1, .slice va x2.length vc]) ∧ Own w'' (fun k => W.heap.size ≤ k) (.slice va x2.length vc) x2 ∧ Kept NoB w' w'') := Lib.hid (fun w' hk =>
        (VCopyOf_any w' _ ⟨x0, x1, x2⟩ F ⟨_, rfl, HU.out.kept hk (fun _ _ h => h)⟩ (by show x2.length ≤ 1000000; omega)).mono fun e w'' ⟨v', h1, ⟨u', hu, h2⟩, h3⟩ => by
          obtain ⟨va, vc, rfl⟩ := own_form h2.2.1
          exact ⟨va, vc, by rw [h1, hu], h2.mono (fun k _ h => Nat.le_trans hk.size h), h3⟩)
      have hgl : g < W.heap.size := heap_lt HWG.out
      go_region_law (first
        | (go_simp; go_at_call 161; (with_reducible refine (HCO.out _ ((Kept.refl NoB W).drew)).mono ?_); rintro e w4 ⟨va, vc, rfl, hv4, hk4⟩; have HV4 := Lib.hid hv4; have HK4 := Lib.hid hk4; have hB4 := Lib.hid (show W.heap.size ≤ w4.heap.size from hk4.size); have k0 : w4.cell? ⟨g, 0, none⟩ = some (.slice a N c) := hk4.cell (p := ⟨g, 0, none⟩) (fun h => h) (cell_drew hp0); have kz := blkV_frozen (hk4.heap (fun h => h) (show W.drew.heap[g]? = _ from HWG.out)); have k0a := cell_alloc k0 (.cells #[.int .u64 x0, .int .u64 x1, .slice va x2.length vc] 75); have hown4 := Lib.hid (hown.out.no (((Kept.refl NoB W).drew).trans hk4 (fun _ _ h => h))); clear hv4 hk4)
        | (refine step_append_lies _ (by rfl) _ _ _ (by rfl) 0 75 i0 _ 3 40 Tryz.underlying247 hi0 hz0' hz1 hz2 rfl (by omega) (.slice a N c) ps.length (vcl ps) (by rfl) (hown4.out.alloc _) ⟨w4.heap.size, 0, none⟩ 1 1 [.int .u64 x0, .int .u64 x1, .slice va x2.length vc] (by rfl) (by rfl) (World.news_of_block (cs := #[.int .u64 x0, .int .u64 x1, .slice va x2.length vc]) (t := 75) (fr := (0, 0)) (heap_alloc_new w4 _)) (by simp [Value.oneCell']) (by omega) (by unfold maxLen; omega) (by omega) (Nat.zero_le _) (w4.heap.size + 1) (by simp) ?_; intro gg cap1 w5 hown5 hgrow hat hlt5; have HGR := Lib.hid hgrow; have HO5 := Lib.hid hown5; have HAT := Lib.hid hat; have j0 : w5.cell? ⟨g, 0, none⟩ = some (.slice a N c) := (hgrow.cell_far ⟨g, 0, none⟩ (by have := hB4.out; simp; omega) HNE.out).trans (cell_alloc k0 _); have jz : w5.frozen? ⟨g, 0, none⟩ = false := (hgrow.frozen_far ⟨g, 0, none⟩ (by have := hB4.out; simp; omega) HNE.out).trans (frozen_alloc (by have := hB4.out; show g < _; omega) (kz 0) _); clear hown5 hgrow hat))
      all_goals
        go_wp2
        go_ret
        exact put_end15 B2.out B3.out B4.out B5.out B6.out HA.out ⟨hf1, hf2, hf3, hf4⟩ (by rw [HP.out]; rfl) HKW.out HWG.out HGW.out HK4.out HV4.out HGR.out HAT.out HO5.out HNE.out
end Go.Proofs.YtnnmkmipeoajjaaGreatDoor
