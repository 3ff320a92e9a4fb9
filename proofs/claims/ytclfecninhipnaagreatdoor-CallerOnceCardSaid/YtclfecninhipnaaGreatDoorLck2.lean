/-
  Package letter: Same, against the zero letter. Package letter: Check, of any letter. Package role: fenced, admitted. letter.Check in one piece; package role: Fence. catenarylaw14.Far: has a letter more than is looked at? A letter that came in, opened.
-/
import Derived.Test.YtclfecninhipnaaGreatDoorLck1
import Derived.Test.YtclfecninhipnaaGreatDoorCnf3
import Derived.Deep.WholeRow
import Derived.Test.YtclfecninhipnaaGreatDoorRol1
import Derived.Test.YtclfecninhipnaaGreatDoorUpd2
import Derived.Test.YtclfecninhipnaaGreatDoorRol2
namespace Go.Proofs.YtclfecninhipnaaGreatDoor
open Go.RowKit
set_option linter.unusedVariables false
set_option linter.unusedSimpArgs false

/-- Is all of a letter, but its head, zero? -/
def lz (y : LV) (c : LC) : Bool :=
  decide (y.ch = 0 ∧ y.ep = 0 ∧ y.ba = 0 ∧ y.nu = 0 ∧ y.se = 0 ∧ y.dn = 0 ∧ y.ve = 0 ∧ y.sl = 0 ∧ y.ke = 0 ∧ y.co = 0) && (decide (y.ck = 0 ∧ y.cc = 0 ∧ y.ce = 0 ∧ y.cn = 0) && (sameC (lcf y c) cf0 && (decide (c.vs.length = 0) && (decide (c.us.length = 0) && decide (c.ds = [])))))
set_option maxRecDepth 100000 in
theorem equalVotes_z (w : World) (v : Value) (l : List Vt) (H : Nat → Prop) (h : VRd w H v l) : Calls Tryz.prog 65 #[v, .slice none 0 0] w (YesNoK (decide (l.length = 0)) w) := by
  obtain ⟨a, c, rfl⟩ := h.form
  rcases Nat.eq_zero_or_pos l.length with h0 | h0
  · rw [h0]
    clear h h0
    go_enter Tryz.func65, Tryz.ntmps65
    go_wp2
    go_loopw [13] (fun i wr => i = .int .i64 0 ∧ Kept NoB w wr) (fun _ _ => 0)
    case atStart => exact ⟨rfl, Kept.refl _ _⟩
    case round =>
      obtain ⟨rfl, hk⟩ := hrel
      go_wp2
      go_ret
      exact ⟨rfl, hk⟩
  · have g1 : ((l.length : Int) == 0) = false := by (simp; intro h; rw [h] at h0; exact absurd h0 (by simp))
    have g2 : ((l.length : Int) != 0) = true := by (simp; intro h; rw [h] at h0; exact absurd h0 (by simp))
    have HR : Hid (decide (l.length = 0) = false) := Lib.hid (decide_eq_false (by omega))
    clear h h0
    go_enter Tryz.func65, Tryz.ntmps65
    go_wp2
    go_ret
    exact ⟨by rw [HR.out]; rfl, Kept.refl _ _⟩
set_option maxRecDepth 100000 in
theorem equalUps_z (w : World) (f : FuncId) (v : Value) (l : List Up) (H : Nat → Prop) (h : UsAt w H v l) : Calls Tryz.prog 66 #[v, .slice none 0 0, .func (.func f) #[] #[]] w (YesNoK (decide (l.length = 0)) w) := by
  obtain ⟨a, c, rfl⟩ := h.form
  rcases Nat.eq_zero_or_pos l.length with h0 | h0
  · rw [h0]
    clear h h0
    go_enter Tryz.func66, Tryz.ntmps66
    go_wp2
    go_loopw [17] (fun i wr => i = .int .i64 0 ∧ Kept NoB w wr) (fun _ _ => 0)
    case atStart => exact ⟨rfl, Kept.refl _ _⟩
    case round =>
      obtain ⟨rfl, hk⟩ := hrel
      go_wp2
      go_ret
      exact ⟨rfl, hk⟩
  · have g1 : ((l.length : Int) == 0) = false := by (simp; intro h; rw [h] at h0; exact absurd h0 (by simp))
    have g2 : ((l.length : Int) != 0) = true := by (simp; intro h; rw [h] at h0; exact absurd h0 (by simp))
    have HR : Hid (decide (l.length = 0) = false) := Lib.hid (decide_eq_false (by omega))
    clear h h0
    go_enter Tryz.func66, Tryz.ntmps66
    go_wp2
    go_ret
    exact ⟨by rw [HR.out]; rfl, Kept.refl _ _⟩
set_option maxRecDepth 100000 in
set_option maxHeartbeats 8000000 in
theorem LSame_z0 (w : World) (ch ep ba nu se dn ve sl ke co ck cc ce cn gc ge : Int) (gn : Value) (gf : Bool) (gj : Int) (vo up da : Value) (c : LC) (H : Nat → Prop) (h : LtM w H ⟨0, 0, 0, ch, ep, ba, nu, se, dn, ve, sl, ke, co, ck, cc, ce, cn, gc, ge, gn, gf, gj, vo, up, da⟩ c) (hnf : c.ns.length ≤ 1000) :
    Calls Tryz.prog 40 #[.agg #[.int .i64 0, .int .i64 0, .int .i64 0, .int .i64 ch, .int .u64 ep, .int .u64 ba, .int .u64 nu, .int .u64 se, .int .u64 dn, .int .u64 ve, .int .i64 sl, .int .u32 ke, .int .i64 co, .int .i64 ck, .int .i64 cc, .int .u64 ce, .int .i64 cn, .int .i64 gc, .int .u64 ge, gn, .bool gf, .int .i64 gj, vo, up, da], .agg #[.int .i64 0, .int .i64 0, .int .i64 0, .int .i64 0, .int .u64 0, .int .u64 0, .int .u64 0, .int .u64 0, .int .u64 0, .int .u64 0, .int .i64 0, .int .u32 0, .int .i64 0, .int .i64 0, .int .i64 0, .int .u64 0, .int .i64 0, .int .i64 0, .int .u64 0, .slice none 0 0, .bool false, .int .i64 0, .slice none 0 0, .slice none 0 0, .slice none 0 0]] w (YesNoK (lz ⟨0, 0, 0, ch, ep, ba, nu, se, dn, ve, sl, ke, co, ck, cc, ce, cn, gc, ge, gn, gf, gj, vo, up, da⟩ c) w) := by
  obtain ⟨y, hy⟩ : ∃ y : LV, y = ⟨0, 0, 0, ch, ep, ba, nu, se, dn, ve, sl, ke, co, ck, cc, ce, cn, gc, ge, gn, gf, gj, vo, up, da⟩ := ⟨_, rfl⟩
  obtain ⟨rb, hrb⟩ : ∃ rb, rb = lz y c := ⟨_, rfl⟩
  have HRB : Hid (rb = (decide (ch = 0 ∧ ep = 0 ∧ ba = 0 ∧ nu = 0 ∧ se = 0 ∧ dn = 0 ∧ ve = 0 ∧ sl = 0 ∧ ke = 0 ∧ co = 0) && (decide (ck = 0 ∧ cc = 0 ∧ ce = 0 ∧ cn = 0) && (sameC (lcf y c) cf0 && (decide (c.vs.length = 0) && (decide (c.us.length = 0) && decide (c.ds = []))))))) := Lib.hid (by rw [hrb, hy]; rfl)
  rw [← hy, ← hrb]
  clear hrb
  obtain ⟨hns, hvs, hus, hds, _, _, _, _, hge0, hge1⟩ := h
  simp only at hns hvs hus hds hge0 hge1
  have HCF : Hid (∀ w', Kept NoB w w' → CfV w' H (.agg #[.int .i64 gc, .int .u64 ge, gn, .bool gf, .int .i64 gj]) (lcf y c)) := Lib.hid (fun w' hk => by subst hy; exact ⟨gn, rfl, hns.kept hk (fun _ _ _ h => h), hge0, hge1, hnf⟩)
  have HCS := Lib.hid (fun (w' : World) (hk : Kept NoB w w') => CfSame_any (.agg #[.int .i64 gc, .int .u64 ge, gn, .bool gf, .int .i64 gj]) (.agg #[.int .i64 0, .int .u64 0, .slice none 0 0, .bool false, .int .i64 0]) (lcf y c) cf0 H NoB w' (HCF.out w' hk) ⟨_, rfl, NSl.nil _ _, by decide, by decide, by decide⟩)
  have HVS := Lib.hid (fun (w' : World) (hk : Kept NoB w w') => equalVotes_z w' vo c.vs H (hvs.no hk))
  have HUS := Lib.hid (fun (w' : World) (hk : Kept NoB w w') f => equalUps_z w' f up c.us H (hus.no hk))
  have HDS := Lib.hid (fun (w' : World) (hk : Kept NoB w w') => Equal17 da (.slice none 0 0) c.ds [] H NoB w' (hds.kept hk (fun _ _ h => h)) (BSl.nil _ _))
  obtain ⟨ga, gcp, rfl, _⟩ := id hns
  obtain ⟨va, vcp, rfl⟩ := hvs.form
  obtain ⟨ua, ucp, rfl⟩ := hus.form
  obtain ⟨dda, dcp, rfl, _⟩ := id hds
  clear hns hvs hus hds hge0 hge1 hy HCF
  obtain ⟨s1, hs1⟩ : ∃ s1, s1 = decide (ck = 0 ∧ cc = 0 ∧ ce = 0 ∧ cn = 0) := ⟨_, rfl⟩
  obtain ⟨s2, hs2⟩ : ∃ s2, s2 = sameC (lcf y c) cf0 := ⟨_, rfl⟩
  obtain ⟨s3, hs3⟩ : ∃ s3, s3 = decide (c.vs.length = 0) := ⟨_, rfl⟩
  obtain ⟨s4, hs4⟩ : ∃ s4, s4 = decide (c.us.length = 0) := ⟨_, rfl⟩
  obtain ⟨s5, hs5⟩ : ∃ s5, s5 = decide (c.ds = []) := ⟨_, rfl⟩
  rw [← hs1, ← hs2, ← hs3, ← hs4, ← hs5] at HRB
  have HS1 := Lib.hid hs1
  rw [← hs2] at HCS
  rw [← hs3] at HVS
  rw [← hs4] at HUS
  rw [← hs5] at HDS
  by_cases q0 : ch = 0
  rotate_left
  · as_aux_lemma =>
    have e : (ch == 0) = false := by simpa using q0
    have HR : Hid (rb = false) := Lib.hid (by rw [HRB.out, decide_eq_false (fun h => q0 h.1)]; rfl)
    clear q0 HRB HCS HVS HUS HDS hs1 hs2 hs3 hs4 hs5
    have h1 := heap_alloc_new w (.cells #[.int .i64 0, .int .i64 0, .int .i64 0, .int .i64 ch, .int .u64 ep, .int .u64 ba, .int .u64 nu, .int .u64 se, .int .u64 dn, .int .u64 ve, .int .i64 sl, .int .u32 ke, .int .i64 co, .int .i64 ck, .int .i64 cc, .int .u64 ce, .int .i64 cn, .int .i64 gc, .int .u64 ge, .slice ga c.ns.length gcp, .bool gf, .int .i64 gj, .slice va c.vs.length vcp, .slice ua c.us.length ucp, .slice dda c.ds.length dcp] 48 (0, 0))
    have h1' := blkU_alloc h1 (.cells #[.int .i64 0, .int .i64 0, .int .i64 0, .int .i64 0, .int .u64 0, .int .u64 0, .int .u64 0, .int .u64 0, .int .u64 0, .int .u64 0, .int .i64 0, .int .u32 0, .int .i64 0, .int .i64 0, .int .i64 0, .int .u64 0, .int .i64 0, .int .i64 0, .int .u64 0, .slice none 0 0, .bool false, .int .i64 0, .slice none 0 0, .slice none 0 0, .slice none 0 0] 48 (0, 0))
    have h2 := heap_alloc_new (w.alloc (.cells #[.int .i64 0, .int .i64 0, .int .i64 0, .int .i64 ch, .int .u64 ep, .int .u64 ba, .int .u64 nu, .int .u64 se, .int .u64 dn, .int .u64 ve, .int .i64 sl, .int .u32 ke, .int .i64 co, .int .i64 ck, .int .i64 cc, .int .u64 ce, .int .i64 cn, .int .i64 gc, .int .u64 ge, .slice ga c.ns.length gcp, .bool gf, .int .i64 gj, .slice va c.vs.length vcp, .slice ua c.us.length ucp, .slice dda c.ds.length dcp] 48 (0, 0))) (.cells #[.int .i64 0, .int .i64 0, .int .i64 0, .int .i64 0, .int .u64 0, .int .u64 0, .int .u64 0, .int .u64 0, .int .u64 0, .int .u64 0, .int .i64 0, .int .u32 0, .int .i64 0, .int .i64 0, .int .i64 0, .int .u64 0, .int .i64 0, .int .i64 0, .int .u64 0, .slice none 0 0, .bool false, .int .i64 0, .slice none 0 0, .slice none 0 0, .slice none 0 0] 48 (0, 0))
    rw [show (w.alloc (.cells #[.int .i64 0, .int .i64 0, .int .i64 0, .int .i64 ch, .int .u64 ep, .int .u64 ba, .int .u64 nu, .int .u64 se, .int .u64 dn, .int .u64 ve, .int .i64 sl, .int .u32 ke, .int .i64 co, .int .i64 ck, .int .i64 cc, .int .u64 ce, .int .i64 cn, .int .i64 gc, .int .u64 ge, .slice ga c.ns.length gcp, .bool gf, .int .i64 gj, .slice va c.vs.length vcp, .slice ua c.us.length ucp, .slice dda c.ds.length dcp] 48 (0, 0))).heap.size = w.heap.size + 1 by simp] at h2
    have hkk := ((Kept.refl NoB w).alloc (.cells #[.int .i64 0, .int .i64 0, .int .i64 0, .int .i64 ch, .int .u64 ep, .int .u64 ba, .int .u64 nu, .int .u64 se, .int .u64 dn, .int .u64 ve, .int .i64 sl, .int .u32 ke, .int .i64 co, .int .i64 ck, .int .i64 cc, .int .u64 ce, .int .i64 cn, .int .i64 gc, .int .u64 ge, .slice ga c.ns.length gcp, .bool gf, .int .i64 gj, .slice va c.vs.length vcp, .slice ua c.us.length ucp, .slice dda c.ds.length dcp] 48 (0, 0))).alloc (.cells #[.int .i64 0, .int .i64 0, .int .i64 0, .int .i64 0, .int .u64 0, .int .u64 0, .int .u64 0, .int .u64 0, .int .u64 0, .int .u64 0, .int .i64 0, .int .u32 0, .int .i64 0, .int .i64 0, .int .i64 0, .int .u64 0, .int .i64 0, .int .i64 0, .int .u64 0, .slice none 0 0, .bool false, .int .i64 0, .slice none 0 0, .slice none 0 0, .slice none 0 0] 48 (0, 0))
    obtain ⟨W, hW⟩ : ∃ W, W = (w.alloc (.cells #[.int .i64 0, .int .i64 0, .int .i64 0, .int .i64 ch, .int .u64 ep, .int .u64 ba, .int .u64 nu, .int .u64 se, .int .u64 dn, .int .u64 ve, .int .i64 sl, .int .u32 ke, .int .i64 co, .int .i64 ck, .int .i64 cc, .int .u64 ce, .int .i64 cn, .int .i64 gc, .int .u64 ge, .slice ga c.ns.length gcp, .bool gf, .int .i64 gj, .slice va c.vs.length vcp, .slice ua c.us.length ucp, .slice dda c.ds.length dcp] 48 (0, 0))).alloc (.cells #[.int .i64 0, .int .i64 0, .int .i64 0, .int .i64 0, .int .u64 0, .int .u64 0, .int .u64 0, .int .u64 0, .int .u64 0, .int .u64 0, .int .i64 0, .int .u32 0, .int .i64 0, .int .i64 0, .int .i64 0, .int .u64 0, .int .i64 0, .int .i64 0, .int .u64 0, .slice none 0 0, .bool false, .int .i64 0, .slice none 0 0, .slice none 0 0, .slice none 0 0] 48 (0, 0)) := ⟨_, rfl⟩
    rw [← hW] at h1' h2 hkk
    have HK := Lib.hid hkk
    have HW := Lib.hid hW
    have HTEN : Hid (∀ w', Kept NoB W w' → (w'.cell? ⟨w.heap.size, 0, none⟩ = some (.int .i64 0) ∧ w'.cell? ⟨w.heap.size, 1, none⟩ = some (.int .i64 0) ∧ w'.cell? ⟨w.heap.size, 2, none⟩ = some (.int .i64 0) ∧ w'.cell? ⟨w.heap.size, 3, none⟩ = some (.int .i64 ch) ∧ w'.cell? ⟨w.heap.size, 4, none⟩ = some (.int .u64 ep) ∧ w'.cell? ⟨w.heap.size, 5, none⟩ = some (.int .u64 ba) ∧ w'.cell? ⟨w.heap.size, 6, none⟩ = some (.int .u64 nu) ∧ w'.cell? ⟨w.heap.size, 7, none⟩ = some (.int .u64 se) ∧ w'.cell? ⟨w.heap.size, 8, none⟩ = some (.int .u64 dn) ∧ w'.cell? ⟨w.heap.size, 9, none⟩ = some (.int .u64 ve) ∧ w'.cell? ⟨w.heap.size, 10, none⟩ = some (.int .i64 sl) ∧ w'.cell? ⟨w.heap.size, 11, none⟩ = some (.int .u32 ke) ∧ w'.cell? ⟨w.heap.size, 12, none⟩ = some (.int .i64 co) ∧ w'.cell? ⟨w.heap.size, 13, none⟩ = some (.int .i64 ck) ∧ w'.cell? ⟨w.heap.size, 14, none⟩ = some (.int .i64 cc) ∧ w'.cell? ⟨w.heap.size, 15, none⟩ = some (.int .u64 ce) ∧ w'.cell? ⟨w.heap.size, 16, none⟩ = some (.int .i64 cn) ∧ w'.cell? ⟨w.heap.size, 17, none⟩ = some (.int .i64 gc) ∧ w'.cell? ⟨w.heap.size, 18, none⟩ = some (.int .u64 ge) ∧ w'.cell? ⟨w.heap.size, 19, none⟩ = some (.slice ga c.ns.length gcp) ∧ w'.cell? ⟨w.heap.size, 20, none⟩ = some (.bool gf) ∧ w'.cell? ⟨w.heap.size, 21, none⟩ = some (.int .i64 gj) ∧ w'.cell? ⟨w.heap.size, 22, none⟩ = some (.slice va c.vs.length vcp) ∧ w'.cell? ⟨w.heap.size, 23, none⟩ = some (.slice ua c.us.length ucp) ∧ w'.cell? ⟨w.heap.size, 24, none⟩ = some (.slice dda c.ds.length dcp)) ∧ (w'.cell? ⟨w.heap.size + 1, 0, none⟩ = some (.int .i64 0) ∧ w'.cell? ⟨w.heap.size + 1, 1, none⟩ = some (.int .i64 0) ∧ w'.cell? ⟨w.heap.size + 1, 2, none⟩ = some (.int .i64 0) ∧ w'.cell? ⟨w.heap.size + 1, 3, none⟩ = some (.int .i64 0) ∧ w'.cell? ⟨w.heap.size + 1, 4, none⟩ = some (.int .u64 0) ∧ w'.cell? ⟨w.heap.size + 1, 5, none⟩ = some (.int .u64 0) ∧ w'.cell? ⟨w.heap.size + 1, 6, none⟩ = some (.int .u64 0) ∧ w'.cell? ⟨w.heap.size + 1, 7, none⟩ = some (.int .u64 0) ∧ w'.cell? ⟨w.heap.size + 1, 8, none⟩ = some (.int .u64 0) ∧ w'.cell? ⟨w.heap.size + 1, 9, none⟩ = some (.int .u64 0) ∧ w'.cell? ⟨w.heap.size + 1, 10, none⟩ = some (.int .i64 0) ∧ w'.cell? ⟨w.heap.size + 1, 11, none⟩ = some (.int .u32 0) ∧ w'.cell? ⟨w.heap.size + 1, 12, none⟩ = some (.int .i64 0) ∧ w'.cell? ⟨w.heap.size + 1, 13, none⟩ = some (.int .i64 0) ∧ w'.cell? ⟨w.heap.size + 1, 14, none⟩ = some (.int .i64 0) ∧ w'.cell? ⟨w.heap.size + 1, 15, none⟩ = some (.int .u64 0) ∧ w'.cell? ⟨w.heap.size + 1, 16, none⟩ = some (.int .i64 0) ∧ w'.cell? ⟨w.heap.size + 1, 17, none⟩ = some (.int .i64 0) ∧ w'.cell? ⟨w.heap.size + 1, 18, none⟩ = some (.int .u64 0) ∧ w'.cell? ⟨w.heap.size + 1, 19, none⟩ = some (.slice none 0 0) ∧ w'.cell? ⟨w.heap.size + 1, 20, none⟩ = some (.bool false) ∧ w'.cell? ⟨w.heap.size + 1, 21, none⟩ = some (.int .i64 0) ∧ w'.cell? ⟨w.heap.size + 1, 22, none⟩ = some (.slice none 0 0) ∧ w'.cell? ⟨w.heap.size + 1, 23, none⟩ = some (.slice none 0 0) ∧ w'.cell? ⟨w.heap.size + 1, 24, none⟩ = some (.slice none 0 0))) := Lib.hid (fun w' hk => ⟨cells25 (hk.heap (fun h => h) h1'), cells25 (hk.heap (fun h => h) h2)⟩)
    clear h1 h1' h2 hkk hW
    go_enter Tryz.func40, Tryz.ntmps40
    go_wp2_with fail
    try rw [← HW.out]
    obtain ⟨⟨c0, c1, c2, c3, c4, c5, c6, c7, c8, c9, c10, c11, c12, c13, c14, c15, c16, c17, c18, c19, c20, c21, c22, c23, c24⟩, ⟨d0, d1, d2, d3, d4, d5, d6, d7, d8, d9, d10, d11, d12, d13, d14, d15, d16, d17, d18, d19, d20, d21, d22, d23, d24⟩⟩ := HTEN.out W (Kept.refl _ _)
    go_wp2
    go_ret
    exact ⟨by rw [HR.out]; rfl, HK.out⟩
  subst q0
  by_cases q1 : ep = 0
  rotate_left
  · as_aux_lemma =>
    have e : (ep == 0) = false := by simpa using q1
    have HR : Hid (rb = false) := Lib.hid (by rw [HRB.out, decide_eq_false (fun h => q1 h.2.1)]; rfl)
    clear q1 HRB HCS HVS HUS HDS hs1 hs2 hs3 hs4 hs5
    have h1 := heap_alloc_new w (.cells #[.int .i64 0, .int .i64 0, .int .i64 0, .int .i64 0, .int .u64 ep, .int .u64 ba, .int .u64 nu, .int .u64 se, .int .u64 dn, .int .u64 ve, .int .i64 sl, .int .u32 ke, .int .i64 co, .int .i64 ck, .int .i64 cc, .int .u64 ce, .int .i64 cn, .int .i64 gc, .int .u64 ge, .slice ga c.ns.length gcp, .bool gf, .int .i64 gj, .slice va c.vs.length vcp, .slice ua c.us.length ucp, .slice dda c.ds.length dcp] 48 (0, 0))
    have h1' := blkU_alloc h1 (.cells #[.int .i64 0, .int .i64 0, .int .i64 0, .int .i64 0, .int .u64 0, .int .u64 0, .int .u64 0, .int .u64 0, .int .u64 0, .int .u64 0, .int .i64 0, .int .u32 0, .int .i64 0, .int .i64 0, .int .i64 0, .int .u64 0, .int .i64 0, .int .i64 0, .int .u64 0, .slice none 0 0, .bool false, .int .i64 0, .slice none 0 0, .slice none 0 0, .slice none 0 0] 48 (0, 0))
    have h2 := heap_alloc_new (w.alloc (.cells #[.int .i64 0, .int .i64 0, .int .i64 0, .int .i64 0, .int .u64 ep, .int .u64 ba, .int .u64 nu, .int .u64 se, .int .u64 dn, .int .u64 ve, .int .i64 sl, .int .u32 ke, .int .i64 co, .int .i64 ck, .int .i64 cc, .int .u64 ce, .int .i64 cn, .int .i64 gc, .int .u64 ge, .slice ga c.ns.length gcp, .bool gf, .int .i64 gj, .slice va c.vs.length vcp, .slice ua c.us.length ucp, .slice dda c.ds.length dcp] 48 (0, 0))) (.cells #[.int .i64 0, .int .i64 0, .int .i64 0, .int .i64 0, .int .u64 0, .int .u64 0, .int .u64 0, .int .u64 0, .int .u64 0, .int .u64 0, .int .i64 0, .int .u32 0, .int .i64 0, .int .i64 0, .int .i64 0, .int .u64 0, .int .i64 0, .int .i64 0, .int .u64 0, .slice none 0 0, .bool false, .int .i64 0, .slice none 0 0, .slice none 0 0, .slice none 0 0] 48 (0, 0))
    rw [show (w.alloc (.cells #[.int .i64 0, .int .i64 0, .int .i64 0, .int .i64 0, .int .u64 ep, .int .u64 ba, .int .u64 nu, .int .u64 se, .int .u64 dn, .int .u64 ve, .int .i64 sl, .int .u32 ke, .int .i64 co, .int .i64 ck, .int .i64 cc, .int .u64 ce, .int .i64 cn, .int .i64 gc, .int .u64 ge, .slice ga c.ns.length gcp, .bool gf, .int .i64 gj, .slice va c.vs.length vcp, .slice ua c.us.length ucp, .slice dda c.ds.length dcp] 48 (0, 0))).heap.size = w.heap.size + 1 by simp] at h2
    have hkk := ((Kept.refl NoB w).alloc (.cells #[.int .i64 0, .int .i64 0, .int .i64 0, .int .i64 0, .int .u64 ep, .int .u64 ba, .int .u64 nu, .int .u64 se, .int .u64 dn, .int .u64 ve, .int .i64 sl, .int .u32 ke, .int .i64 co, .int .i64 ck, .int .i64 cc, .int .u64 ce, .int .i64 cn, .int .i64 gc, .int .u64 ge, .slice ga c.ns.length gcp, .bool gf, .int .i64 gj, .slice va c.vs.length vcp, .slice ua c.us.length ucp, .slice dda c.ds.length dcp] 48 (0, 0))).alloc (.cells #[.int .i64 0, .int .i64 0, .int .i64 0, .int .i64 0, .int .u64 0, .int .u64 0, .int .u64 0, .int .u64 0, .int .u64 0, .int .u64 0, .int .i64 0, .int .u32 0, .int .i64 0, .int .i64 0, .int .i64 0, .int .u64 0, .int .i64 0, .int .i64 0, .int .u64 0, .slice none 0 0, .bool false, .int .i64 0, .slice none 0 0, .slice none 0 0, .slice none 0 0] 48 (0, 0))
    obtain ⟨W, hW⟩ : ∃ W, W = (w.alloc (.cells #[.int .i64 0, .int .i64 0, .int .i64 0, .int .i64 0, .int .u64 ep, .int .u64 ba, .int .u64 nu, .int .u64 se, .int .u64 dn, .int .u64 ve, .int .i64 sl, .int .u32 ke, .int .i64 co, .int .i64 ck, .int .i64 cc, .int .u64 ce, .int .i64 cn, .int .i64 gc, .int .u64 ge, .slice ga c.ns.length gcp, .bool gf, .int .i64 gj, .slice va c.vs.length vcp, .slice ua c.us.length ucp, .slice dda c.ds.length dcp] 48 (0, 0))).alloc (.cells #[.int .i64 0, .int .i64 0, .int .i64 0, .int .i64 0, .int .u64 0, .int .u64 0, .int .u64 0, .int .u64 0, .int .u64 0, .int .u64 0, .int .i64 0, .int .u32 0, .int .i64 0, .int .i64 0, .int .i64 0, .int .u64 0, .int .i64 0, .int .i64 0, .int .u64 0, .slice none 0 0, .bool false, .int .i64 0, .slice none 0 0, .slice none 0 0, .slice none 0 0] 48 (0, 0)) := ⟨_, rfl⟩
    rw [← hW] at h1' h2 hkk
    have HK := Lib.hid hkk
    have HW := Lib.hid hW
    have HTEN : Hid (∀ w', Kept NoB W w' → (w'.cell? ⟨w.heap.size, 0, none⟩ = some (.int .i64 0) ∧ w'.cell? ⟨w.heap.size, 1, none⟩ = some (.int .i64 0) ∧ w'.cell? ⟨w.heap.size, 2, none⟩ = some (.int .i64 0) ∧ w'.cell? ⟨w.heap.size, 3, none⟩ = some (.int .i64 0) ∧ w'.cell? ⟨w.heap.size, 4, none⟩ = some (.int .u64 ep) ∧ w'.cell? ⟨w.heap.size, 5, none⟩ = some (.int .u64 ba) ∧ w'.cell? ⟨w.heap.size, 6, none⟩ = some (.int .u64 nu) ∧ w'.cell? ⟨w.heap.size, 7, none⟩ = some (.int .u64 se) ∧ w'.cell? ⟨w.heap.size, 8, none⟩ = some (.int .u64 dn) ∧ w'.cell? ⟨w.heap.size, 9, none⟩ = some (.int .u64 ve) ∧ w'.cell? ⟨w.heap.size, 10, none⟩ = some (.int .i64 sl) ∧ w'.cell? ⟨w.heap.size, 11, none⟩ = some (.int .u32 ke) ∧ w'.cell? ⟨w.heap.size, 12, none⟩ = some (.int .i64 co) ∧ w'.cell? ⟨w.heap.size, 13, none⟩ = some (.int .i64 ck) ∧ w'.cell? ⟨w.heap.size, 14, none⟩ = some (.int .i64 cc) ∧ w'.cell? ⟨w.heap.size, 15, none⟩ = some (.int .u64 ce) ∧ w'.cell? ⟨w.heap.size, 16, none⟩ = some (.int .i64 cn) ∧ w'.cell? ⟨w.heap.size, 17, none⟩ = some (.int .i64 gc) ∧ w'.cell? ⟨w.heap.size, 18, none⟩ = some (.int .u64 ge) ∧ w'.cell? ⟨w.heap.size, 19, none⟩ = some (.slice ga c.ns.length gcp) ∧ w'.cell? ⟨w.heap.size, 20, none⟩ = some (.bool gf) ∧ w'.cell? ⟨w.heap.size, 21, none⟩ = some (.int .i64 gj) ∧ w'.cell? ⟨w.heap.size, 22, none⟩ = some (.slice va c.vs.length vcp) ∧ w'.cell? ⟨w.heap.size, 23, none⟩ = some (.slice ua c.us.length ucp) ∧ w'.cell? ⟨w.heap.size, 24, none⟩ = some (.slice dda c.ds.length dcp)) ∧ (w'.cell? ⟨w.heap.size + 1, 0, none⟩ = some (.int .i64 0) ∧ w'.cell? ⟨w.heap.size + 1, 1, none⟩ = some (.int .i64 0) ∧ w'.cell? ⟨w.heap.size + 1, 2, none⟩ = some (.int .i64 0) ∧ w'.cell? ⟨w.heap.size + 1, 3, none⟩ = some (.int .i64 0) ∧ w'.cell? ⟨w.heap.size + 1, 4, none⟩ = some (.int .u64 0) ∧ w'.cell? ⟨w.heap.size + 1, 5, none⟩ = some (.int .u64 0) ∧ w'.cell? ⟨w.heap.size + 1, 6, none⟩ = some (.int .u64 0) ∧ w'.cell? ⟨w.heap.size + 1, 7, none⟩ = some (.int .u64 0) ∧ w'.cell? ⟨w.heap.size + 1, 8, none⟩ = some (.int .u64 0) ∧ w'.cell? ⟨w.heap.size + 1, 9, none⟩ = some (.int .u64 0) ∧ w'.cell? ⟨w.heap.size + 1, 10, none⟩ = some (.int .i64 0) ∧ w'.cell? ⟨w.heap.size + 1, 11, none⟩ = some (.int .u32 0) ∧ w'.cell? ⟨w.heap.size + 1, 12, none⟩ = some (.int .i64 0) ∧ w'.cell? ⟨w.heap.size + 1, 13, none⟩ = some (.int .i64 0) ∧ w'.cell? ⟨w.heap.size + 1, 14, none⟩ = some (.int .i64 0) ∧ w'.cell? ⟨w.heap.size + 1, 15, none⟩ = some (.int .u64 0) ∧ w'.cell? ⟨w.heap.size + 1, 16, none⟩ = some (.int .i64 0) ∧ w'.cell? ⟨w.heap.size + 1, 17, none⟩ = some (.int .i64 0) ∧ w'.cell? ⟨w.heap.size + 1, 18, none⟩ = some (.int .u64 0) ∧ w'.cell? ⟨w.heap.size + 1, 19, none⟩ = some (.slice none 0 0) ∧ w'.cell? ⟨w.heap.size + 1, 20, none⟩ = some (.bool false) ∧ w'.cell? ⟨w.heap.size + 1, 21, none⟩ = some (.int .i64 0) ∧ w'.cell? ⟨w.heap.size + 1, 22, none⟩ = some (.slice none 0 0) ∧ w'.cell? ⟨w.heap.size + 1, 23, none⟩ = some (.slice none 0 0) ∧ w'.cell? ⟨w.heap.size + 1, 24, none⟩ = some (.slice none 0 0))) := Lib.hid (fun w' hk => ⟨cells25 (hk.heap (fun h => h) h1'), cells25 (hk.heap (fun h => h) h2)⟩)
    clear h1 h1' h2 hkk hW
    go_enter Tryz.func40, Tryz.ntmps40
    go_wp2_with fail
    try rw [← HW.out]
    obtain ⟨⟨c0, c1, c2, c3, c4, c5, c6, c7, c8, c9, c10, c11, c12, c13, c14, c15, c16, c17, c18, c19, c20, c21, c22, c23, c24⟩, ⟨d0, d1, d2, d3, d4, d5, d6, d7, d8, d9, d10, d11, d12, d13, d14, d15, d16, d17, d18, d19, d20, d21, d22, d23, d24⟩⟩ := HTEN.out W (Kept.refl _ _)
    go_wp2
    go_ret
    exact ⟨by rw [HR.out]; rfl, HK.out⟩
  subst q1
  by_cases q2 : ba = 0
  rotate_left
  · as_aux_lemma =>
    have e : (ba == 0) = false := by simpa using q2
    have HR : Hid (rb = false) := Lib.hid (by rw [HRB.out, decide_eq_false (fun h => q2 h.2.2.1)]; rfl)
    clear q2 HRB HCS HVS HUS HDS hs1 hs2 hs3 hs4 hs5
    have h1 := heap_alloc_new w (.cells #[.int .i64 0, .int .i64 0, .int .i64 0, .int .i64 0, .int .u64 0, .int .u64 ba, .int .u64 nu, .int .u64 se, .int .u64 dn, .int .u64 ve, .int .i64 sl, .int .u32 ke, .int .i64 co, .int .i64 ck, .int .i64 cc, .int .u64 ce, .int .i64 cn, .int .i64 gc, .int .u64 ge, .slice ga c.ns.length gcp, .bool gf, .int .i64 gj, .slice va c.vs.length vcp, .slice ua c.us.length ucp, .slice dda c.ds.length dcp] 48 (0, 0))
    have h1' := blkU_alloc h1 (.cells #[.int .i64 0, .int .i64 0, .int .i64 0, .int .i64 0, .int .u64 0, .int .u64 0, .int .u64 0, .int .u64 0, .int .u64 0, .int .u64 0, .int .i64 0, .int .u32 0, .int .i64 0, .int .i64 0, .int .i64 0, .int .u64 0, .int .i64 0, .int .i64 0, .int .u64 0, .slice none 0 0, .bool false, .int .i64 0, .slice none 0 0, .slice none 0 0, .slice none 0 0] 48 (0, 0))
    have h2 := heap_alloc_new (w.alloc (.cells #[.int .i64 0, .int .i64 0, .int .i64 0, .int .i64 0, .int .u64 0, .int .u64 ba, .int .u64 nu, .int .u64 se, .int .u64 dn, .int .u64 ve, .int .i64 sl, .int .u32 ke, .int .i64 co, .int .i64 ck, .int .i64 cc, .int .u64 ce, .int .i64 cn, .int .i64 gc, .int .u64 ge, .slice ga c.ns.length gcp, .bool gf, .int .i64 gj, .slice va c.vs.length vcp, .slice ua c.us.length ucp, .slice dda c.ds.length dcp] 48 (0, 0))) (.cells #[.int .i64 0, .int .i64 0, .int .i64 0, .int .i64 0, .int .u64 0, .int .u64 0, .int .u64 0, .int .u64 0, .int .u64 0, .int .u64 0, .int .i64 0, .int .u32 0, .int .i64 0, .int .i64 0, .int .i64 0, .int .u64 0, .int .i64 0, .int .i64 0, .int .u64 0, .slice none 0 0, .bool false, .int .i64 0, .slice none 0 0, .slice none 0 0, .slice none 0 0] 48 (0, 0))
    rw [show (w.alloc (.cells #[.int .i64 0, .int .i64 0, .int .i64 0, .int .i64 0, .int .u64 0, .int .u64 ba, .int .u64 nu, .int .u64 se, .int .u64 dn, .int .u64 ve, .int .i64 sl, .int .u32 ke, .int .i64 co, .int .i64 ck, .int .i64 cc, .int .u64 ce, .int .i64 cn, .int .i64 gc, .int .u64 ge, .slice ga c.ns.length gcp, .bool gf, .int .i64 gj, .slice va c.vs.length vcp, .slice ua c.us.length ucp, .slice dda c.ds.length dcp] 48 (0, 0))).heap.size = w.heap.size + 1 by simp] at h2
    have hkk := ((Kept.refl NoB w).alloc (.cells #[.int .i64 0, .int .i64 0, .int .i64 0, .int .i64 0, .int .u64 0, .int .u64 ba, .int .u64 nu, .int .u64 se, .int .u64 dn, .int .u64 ve, .int .i64 sl, .int .u32 ke, .int .i64 co, .int .i64 ck, .int .i64 cc, .int .u64 ce, .int .i64 cn, .int .i64 gc, .int .u64 ge, .slice ga c.ns.length gcp, .bool gf, .int .i64 gj, .slice va c.vs.length vcp, .slice ua c.us.length ucp, .slice dda c.ds.length dcp] 48 (0, 0))).alloc (.cells #[.int .i64 0, .int .i64 0, .int .i64 0, .int .i64 0, .int .u64 0, .int .u64 0, .int .u64 0, .int .u64 0, .int .u64 0, .int .u64 0, .int .i64 0, .int .u32 0, .int .i64 0, .int .i64 0, .int .i64 0, .int .u64 0, .int .i64 0, .int .i64 0, .int .u64 0, .slice none 0 0, .bool false, .int .i64 0, .slice none 0 0, .slice none 0 0, .slice none 0 0] 48 (0, 0))
    obtain ⟨W, hW⟩ : ∃ W, W = (w.alloc (.cells #[.int .i64 0, .int .i64 0, .int .i64 0, .int .i64 0, .int .u64 0, .int .u64 ba, .int .u64 nu, .int .u64 se, .int .u64 dn, .int .u64 ve, .int .i64 sl, .int .u32 ke, .int .i64 co, .int .i64 ck, .int .i64 cc, .int .u64 ce, .int .i64 cn, .int .i64 gc, .int .u64 ge, .slice ga c.ns.length gcp, .bool gf, .int .i64 gj, .slice va c.vs.length vcp, .slice ua c.us.length ucp, .slice dda c.ds.length dcp] 48 (0, 0))).alloc (.cells #[.int .i64 0, .int .i64 0, .int .i64 0, .int .i64 0, .int .u64 0, .int .u64 0, .int .u64 0, .int .u64 0, .int .u64 0, .int .u64 0, .int .i64 0, .int .u32 0, .int .i64 0, .int .i64 0, .int .i64 0, .int .u64 0, .int .i64 0, .int .i64 0, .int .u64 0, .slice none 0 0, .bool false, .int .i64 0, .slice none 0 0, .slice none 0 0, .slice none 0 0] 48 (0, 0)) := ⟨_, rfl⟩
    rw [← hW] at h1' h2 hkk
    have HK := Lib.hid hkk
    have HW := Lib.hid hW
    have HTEN : Hid (∀ w', Kept NoB W w' → (w'.cell? ⟨w.heap.size, 0, none⟩ = some (.int .i64 0) ∧ w'.cell? ⟨w.heap.size, 1, none⟩ = some (.int .i64 0) ∧ w'.cell? ⟨w.heap.size, 2, none⟩ = some (.int .i64 0) ∧ w'.cell? ⟨w.heap.size, 3, none⟩ = some (.int .i64 0) ∧ w'.cell? ⟨w.heap.size, 4, none⟩ = some (.int .u64 0) ∧ w'.cell? ⟨w.heap.size, 5, none⟩ = some (.int .u64 ba) ∧ w'.cell? ⟨w.heap.size, 6, none⟩ = some (.int .u64 nu) ∧ w'.cell? ⟨w.heap.size, 7, none⟩ = some (.int .u64 se) ∧ w'.cell? ⟨w.heap.size, 8, none⟩ = some (.int .u64 dn) ∧ w'.cell? ⟨w.heap.size, 9, none⟩ = some (.int .u64 ve) ∧ w'.cell? ⟨w.heap.size, 10, none⟩ = some (.int .i64 sl) ∧ w'.cell? ⟨w.heap.size, 11, none⟩ = some (.int .u32 ke) ∧ w'.cell? ⟨w.heap.size, 12, none⟩ = some (.int .i64 co) ∧ w'.cell? ⟨w.heap.size, 13, none⟩ = some (.int .i64 ck) ∧ w'.cell? ⟨w.heap.size, 14, none⟩ = some (.int .i64 cc) ∧ w'.cell? ⟨w.heap.size, 15, none⟩ = some (.int .u64 ce) ∧ w'.cell? ⟨w.heap.size, 16, none⟩ = some (.int .i64 cn) ∧ w'.cell? ⟨w.heap.size, 17, none⟩ = some (.int .i64 gc) ∧ w'.cell? ⟨w.heap.size, 18, none⟩ = some (.int .u64 ge) ∧ w'.cell? ⟨w.heap.size, 19, none⟩ = some (.slice ga c.ns.length gcp) ∧ w'.cell? ⟨w.heap.size, 20, none⟩ = some (.bool gf) ∧ w'.cell? ⟨w.heap.size, 21, none⟩ = some (.int .i64 gj) ∧ w'.cell? ⟨w.heap.size, 22, none⟩ = some (.slice va c.vs.length vcp) ∧ w'.cell? ⟨w.heap.size, 23, none⟩ = some (.slice ua c.us.length ucp) ∧ w'.cell? ⟨w.heap.size, 24, none⟩ = some (.slice dda c.ds.length dcp)) ∧ (w'.cell? ⟨w.heap.size + 1, 0, none⟩ = some (.int .i64 0) ∧ w'.cell? ⟨w.heap.size + 1, 1, none⟩ = some (.int .i64 0) ∧ w'.cell? ⟨w.heap.size + 1, 2, none⟩ = some (.int .i64 0) ∧ w'.cell? ⟨w.heap.size + 1, 3, none⟩ = some (.int .i64 0) ∧ w'.cell? ⟨w.heap.size + 1, 4, none⟩ = some (.int .u64 0) ∧ w'.cell? ⟨w.heap.size + 1, 5, none⟩ = some (.int .u64 0) ∧ w'.cell? ⟨w.heap.size + 1, 6, none⟩ = some (.int .u64 0) ∧ w'.cell? ⟨w.heap.size + 1, 7, none⟩ = some (.int .u64 0) ∧ w'.cell? ⟨w.heap.size + 1, 8, none⟩ = some (.int .u64 0) ∧ w'.cell? ⟨w.heap.size + 1, 9, none⟩ = some (.int .u64 0) ∧ w'.cell? ⟨w.heap.size + 1, 10, none⟩ = some (.int .i64 0) ∧ w'.cell? ⟨w.heap.size + 1, 11, none⟩ = some (.int .u32 0) ∧ w'.cell? ⟨w.heap.size + 1, 12, none⟩ = some (.int .i64 0) ∧ w'.cell? ⟨w.heap.size + 1, 13, none⟩ = some (.int .i64 0) ∧ w'.cell? ⟨w.heap.size + 1, 14, none⟩ = some (.int .i64 0) ∧ w'.cell? ⟨w.heap.size + 1, 15, none⟩ = some (.int .u64 0) ∧ w'.cell? ⟨w.heap.size + 1, 16, none⟩ = some (.int .i64 0) ∧ w'.cell? ⟨w.heap.size + 1, 17, none⟩ = some (.int .i64 0) ∧ w'.cell? ⟨w.heap.size + 1, 18, none⟩ = some (.int .u64 0) ∧ w'.cell? ⟨w.heap.size + 1, 19, none⟩ = some (.slice none 0 0) ∧ w'.cell? ⟨w.heap.size + 1, 20, none⟩ = some (.bool false) ∧ w'.cell? ⟨w.heap.size + 1, 21, none⟩ = some (.int .i64 0) ∧ w'.cell? ⟨w.heap.size + 1, 22, none⟩ = some (.slice none 0 0) ∧ w'.cell? ⟨w.heap.size + 1, 23, none⟩ = some (.slice none 0 0) ∧ w'.cell? ⟨w.heap.size + 1, 24, none⟩ = some (.slice none 0 0))) := Lib.hid (fun w' hk => ⟨cells25 (hk.heap (fun h => h) h1'), cells25 (hk.heap (fun h => h) h2)⟩)
    clear h1 h1' h2 hkk hW
    go_enter Tryz.func40, Tryz.ntmps40
    go_wp2_with fail
    try rw [← HW.out]
    obtain ⟨⟨c0, c1, c2, c3, c4, c5, c6, c7, c8, c9, c10, c11, c12, c13, c14, c15, c16, c17, c18, c19, c20, c21, c22, c23, c24⟩, ⟨d0, d1, d2, d3, d4, d5, d6, d7, d8, d9, d10, d11, d12, d13, d14, d15, d16, d17, d18, d19, d20, d21, d22, d23, d24⟩⟩ := HTEN.out W (Kept.refl _ _)
    go_wp2
    go_ret
    exact ⟨by rw [HR.out]; rfl, HK.out⟩
  subst q2
  by_cases q3 : nu = 0
  rotate_left
  · as_aux_lemma =>
    have e : (nu == 0) = false := by simpa using q3
    have HR : Hid (rb = false) := Lib.hid (by rw [HRB.out, decide_eq_false (fun h => q3 h.2.2.2.1)]; rfl)
    clear q3 HRB HCS HVS HUS HDS hs1 hs2 hs3 hs4 hs5
    have h1 := heap_alloc_new w (.cells #[.int .i64 0, .int .i64 0, .int .i64 0, .int .i64 0, .int .u64 0, .int .u64 0, .int .u64 nu, .int .u64 se, .int .u64 dn, .int .u64 ve, .int .i64 sl, .int .u32 ke, .int .i64 co, .int .i64 ck, .int .i64 cc, .int .u64 ce, .int .i64 cn, .int .i64 gc, .int .u64 ge, .slice ga c.ns.length gcp, .bool gf, .int .i64 gj, .slice va c.vs.length vcp, .slice ua c.us.length ucp, .slice dda c.ds.length dcp] 48 (0, 0))
    have h1' := blkU_alloc h1 (.cells #[.int .i64 0, .int .i64 0, .int .i64 0, .int .i64 0, .int .u64 0, .int .u64 0, .int .u64 0, .int .u64 0, .int .u64 0, .int .u64 0, .int .i64 0, .int .u32 0, .int .i64 0, .int .i64 0, .int .i64 0, .int .u64 0, .int .i64 0, .int .i64 0, .int .u64 0, .slice none 0 0, .bool false, .int .i64 0, .slice none 0 0, .slice none 0 0, .slice none 0 0] 48 (0, 0))
    have h2 := heap_alloc_new (w.alloc (.cells #[.int .i64 0, .int .i64 0, .int .i64 0, .int .i64 0, .int .u64 0, .int .u64 0, .int .u64 nu, .int .u64 se, .int .u64 dn, .int .u64 ve, .int .i64 sl, .int .u32 ke, .int .i64 co, .int .i64 ck, .int .i64 cc, .int .u64 ce, .int .i64 cn, .int .i64 gc, .int .u64 ge, .slice ga c.ns.length gcp, .bool gf, .int .i64 gj, .slice va c.vs.length vcp, .slice ua c.us.length ucp, .slice dda c.ds.length dcp] 48 (0, 0))) (.cells #[.int .i64 0, .int .i64 0, .int .i64 0, .int .i64 0, .int .u64 0, .int .u64 0, .int .u64 0, .int .u64 0, .int .u64 0, .int .u64 0, .int .i64 0, .int .u32 0, .int .i64 0, .int .i64 0, .int .i64 0, .int .u64 0, .int .i64 0, .int .i64 0, .int .u64 0, .slice none 0 0, .bool false, .int .i64 0, .slice none 0 0, .slice none 0 0, .slice none 0 0] 48 (0, 0))
    rw [show (w.alloc (.cells #[.int .i64 0, .int .i64 0, .int .i64 0, .int .i64 0, .int .u64 0, .int .u64 0, .int .u64 nu, .int .u64 se, .int .u64 dn, .int .u64 ve, .int .i64 sl, .int .u32 ke, .int .i64 co, .int .i64 ck, .int .i64 cc, .int .u64 ce, .int .i64 cn, .int .i64 gc, .int .u64 ge, .slice ga c.ns.length gcp, .bool gf, .int .i64 gj, .slice va c.vs.length vcp, .slice ua c.us.length ucp, .slice dda c.ds.length dcp] 48 (0, 0))).heap.size = w.heap.size + 1 by simp] at h2
    have hkk := ((Kept.refl NoB w).alloc (.cells #[.int .i64 0, .int .i64 0, .int .i64 0, .int .i64 0, .int .u64 0, .int .u64 0, .int .u64 nu, .int .u64 se, .int .u64 dn, .int .u64 ve, .int .i64 sl, .int .u32 ke, .int .i64 co, .int .i64 ck, .int .i64 cc, .int .u64 ce, .int .i64 cn, .int .i64 gc, .int .u64 ge, .slice ga c.ns.length gcp, .bool gf, .int .i64 gj, .slice va c.vs.length vcp, .slice ua c.us.length ucp, .slice dda c.ds.length dcp] 48 (0, 0))).alloc (.cells #[.int .i64 0, .int .i64 0, .int .i64 0, .int .i64 0, .int .u64 0, .int .u64 0, .int .u64 0, .int .u64 0, .int .u64 0, .int .u64 0, .int .i64 0, .int .u32 0, .int .i64 0, .int .i64 0, .int .i64 0, .int .u64 0, .int .i64 0, .int .i64 0, .int .u64 0, .slice none 0 0, .bool false, .int .i64 0, .slice none 0 0, .slice none 0 0, .slice none 0 0] 48 (0, 0))
    obtain ⟨W, hW⟩ : ∃ W, W = (w.alloc (.cells #[.int .i64 0, .int .i64 0, .int .i64 0, .int .i64 0, .int .u64 0, .int .u64 0, .int .u64 nu, .int .u64 se, .int .u64 dn, .int .u64 ve, .int .i64 sl, .int .u32 ke, .int .i64 co, .int .i64 ck, .int .i64 cc, .int .u64 ce, .int .i64 cn, .int .i64 gc, .int .u64 ge, .slice ga c.ns.length gcp, .bool gf, .int .i64 gj, .slice va c.vs.length vcp, .slice ua c.us.length ucp, .slice dda c.ds.length dcp] 48 (0, 0))).alloc (.cells #[.int .i64 0, .int .i64 0, .int .i64 0, .int .i64 0, .int .u64 0, .int .u64 0, .int .u64 0, .int .u64 0, .int .u64 0, .int .u64 0, .int .i64 0, .int .u32 0, .int .i64 0, .int .i64 0, .int .i64 0, .int .u64 0, .int .i64 0, .int .i64 0, .int .u64 0, .slice none 0 0, .bool false, .int .i64 0, .slice none 0 0, .slice none 0 0, .slice none 0 0] 48 (0, 0)) := ⟨_, rfl⟩
    rw [← hW] at h1' h2 hkk
    have HK := Lib.hid hkk
    have HW := Lib.hid hW
    have HTEN : Hid (∀ w', Kept NoB W w' → (w'.cell? ⟨w.heap.size, 0, none⟩ = some (.int .i64 0) ∧ w'.cell? ⟨w.heap.size, 1, none⟩ = some (.int .i64 0) ∧ w'.cell? ⟨w.heap.size, 2, none⟩ = some (.int .i64 0) ∧ w'.cell? ⟨w.heap.size, 3, none⟩ = some (.int .i64 0) ∧ w'.cell? ⟨w.heap.size, 4, none⟩ = some (.int .u64 0) ∧ w'.cell? ⟨w.heap.size, 5, none⟩ = some (.int .u64 0) ∧ w'.cell? ⟨w.heap.size, 6, none⟩ = some (.int .u64 nu) ∧ w'.cell? ⟨w.heap.size, 7, none⟩ = some (.int .u64 se) ∧ w'.cell? ⟨w.heap.size, 8, none⟩ = some (.int .u64 dn) ∧ w'.cell? ⟨w.heap.size, 9, none⟩ = some (.int .u64 ve) ∧ w'.cell? ⟨w.heap.size, 10, none⟩ = some (.int .i64 sl) ∧ w'.cell? ⟨w.heap.size, 11, none⟩ = some (.int .u32 ke) ∧ w'.cell? ⟨w.heap.size, 12, none⟩ = some (.int .i64 co) ∧ w'.cell? ⟨w.heap.size, 13, none⟩ = some (.int .i64 ck) ∧ w'.cell? ⟨w.heap.size, 14, none⟩ = some (.int .i64 cc) ∧ w'.cell? ⟨w.heap.size, 15, none⟩ = some (.int .u64 ce) ∧ w'.cell? ⟨w.heap.size, 16, none⟩ = some (.int .i64 cn) ∧ w'.cell? ⟨w.heap.size, 17, none⟩ = some (.int .i64 gc) ∧ w'.cell? ⟨w.heap.size, 18, none⟩ = some (.int .u64 ge) ∧ w'.cell? ⟨w.heap.size, 19, none⟩ = some (.slice ga c.ns.length gcp) ∧ w'.cell? ⟨w.heap.size, 20, none⟩ = some (.bool gf) ∧ w'.cell? ⟨w.heap.size, 21, none⟩ = some (.int .i64 gj) ∧ w'.cell? ⟨w.heap.size, 22, none⟩ = some (.slice va c.vs.length vcp) ∧ w'.cell? ⟨w.heap.size, 23, none⟩ = some (.slice ua c.us.length ucp) ∧ w'.cell? ⟨w.heap.size, 24, none⟩ = some (.slice dda c.ds.length dcp)) ∧ (w'.cell? ⟨w.heap.size + 1, 0, none⟩ = some (.int .i64 0) ∧ w'.cell? ⟨w.heap.size + 1, 1, none⟩ = some (.int .i64 0) ∧ w'.cell? ⟨w.heap.size + 1, 2, none⟩ = some (.int .i64 0) ∧ w'.cell? ⟨w.heap.size + 1, 3, none⟩ = some (.int .i64 0) ∧ w'.cell? ⟨w.heap.size + 1, 4, none⟩ = some (.int .u64 0) ∧ w'.cell? ⟨w.heap.size + 1, 5, none⟩ = some (.int .u64 0) ∧ w'.cell? ⟨w.heap.size + 1, 6, none⟩ = some (.int .u64 0) ∧ w'.cell? ⟨w.heap.size + 1, 7, none⟩ = some (.int .u64 0) ∧ w'.cell? ⟨w.heap.size + 1, 8, none⟩ = some (.int .u64 0) ∧ w'.cell? ⟨w.heap.size + 1, 9, none⟩ = some (.int .u64 0) ∧ w'.cell? ⟨w.heap.size + 1, 10, none⟩ = some (.int .i64 0) ∧ w'.cell? ⟨w.heap.size + 1, 11, none⟩ = some (.int .u32 0) ∧ w'.cell? ⟨w.heap.size + 1, 12, none⟩ = some (.int .i64 0) ∧ w'.cell? ⟨w.heap.size + 1, 13, none⟩ = some (.int .i64 0) ∧ w'.cell? ⟨w.heap.size + 1, 14, none⟩ = some (.int .i64 0) ∧ w'.cell? ⟨w.heap.size + 1, 15, none⟩ = some (.int .u64 0) ∧ w'.cell? ⟨w.heap.size + 1, 16, none⟩ = some (.int .i64 0) ∧ w'.cell? ⟨w.heap.size + 1, 17, none⟩ = some (.int .i64 0) ∧ w'.cell? ⟨w.heap.size + 1, 18, none⟩ = some (.int .u64 0) ∧ w'.cell? ⟨w.heap.size + 1, 19, none⟩ = some (.slice none 0 0) ∧ w'.cell? ⟨w.heap.size + 1, 20, none⟩ = some (.bool false) ∧ w'.cell? ⟨w.heap.size + 1, 21, none⟩ = some (.int .i64 0) ∧ w'.cell? ⟨w.heap.size + 1, 22, none⟩ = some (.slice none 0 0) ∧ w'.cell? ⟨w.heap.size + 1, 23, none⟩ = some (.slice none 0 0) ∧ w'.cell? ⟨w.heap.size + 1, 24, none⟩ = some (.slice none 0 0))) := Lib.hid (fun w' hk => ⟨cells25 (hk.heap (fun h => h) h1'), cells25 (hk.heap (fun h => h) h2)⟩)
    clear h1 h1' h2 hkk hW
    go_enter Tryz.func40, Tryz.ntmps40
    go_wp2_with fail
    try rw [← HW.out]
    obtain ⟨⟨c0, c1, c2, c3, c4, c5, c6, c7, c8, c9, c10, c11, c12, c13, c14, c15, c16, c17, c18, c19, c20, c21, c22, c23, c24⟩, ⟨d0, d1, d2, d3, d4, d5, d6, d7, d8, d9, d10, d11, d12, d13, d14, d15, d16, d17, d18, d19, d20, d21, d22, d23, d24⟩⟩ := HTEN.out W (Kept.refl _ _)
    go_wp2
    go_ret
    exact ⟨by rw [HR.out]; rfl, HK.out⟩
  subst q3
  by_cases q4 : se = 0
  rotate_left
  · as_aux_lemma =>
    have e : (se == 0) = false := by simpa using q4
    have HR : Hid (rb = false) := Lib.hid (by rw [HRB.out, decide_eq_false (fun h => q4 h.2.2.2.2.1)]; rfl)
    clear q4 HRB HCS HVS HUS HDS hs1 hs2 hs3 hs4 hs5
    have h1 := heap_alloc_new w (.cells #[.int .i64 0, .int .i64 0, .int .i64 0, .int .i64 0, .int .u64 0, .int .u64 0, .int .u64 0, .int .u64 se, .int .u64 dn, .int .u64 ve, .int .i64 sl, .int .u32 ke, .int .i64 co, .int .i64 ck, .int .i64 cc, .int .u64 ce, .int .i64 cn, .int .i64 gc, .int .u64 ge, .slice ga c.ns.length gcp, .bool gf, .int .i64 gj, .slice va c.vs.length vcp, .slice ua c.us.length ucp, .slice dda c.ds.length dcp] 48 (0, 0))
    have h1' := blkU_alloc h1 (.cells #[.int .i64 0, .int .i64 0, .int .i64 0, .int .i64 0, .int .u64 0, .int .u64 0, .int .u64 0, .int .u64 0, .int .u64 0, .int .u64 0, .int .i64 0, .int .u32 0, .int .i64 0, .int .i64 0, .int .i64 0, .int .u64 0, .int .i64 0, .int .i64 0, .int .u64 0, .slice none 0 0, .bool false, .int .i64 0, .slice none 0 0, .slice none 0 0, .slice none 0 0] 48 (0, 0))
    have h2 := heap_alloc_new (w.alloc (.cells #[.int .i64 0, .int .i64 0, .int .i64 0, .int .i64 0, .int .u64 0, .int .u64 0, .int .u64 0, .int .u64 se, .int .u64 dn, .int .u64 ve, .int .i64 sl, .int .u32 ke, .int .i64 co, .int .i64 ck, .int .i64 cc, .int .u64 ce, .int .i64 cn, .int .i64 gc, .int .u64 ge, .slice ga c.ns.length gcp, .bool gf, .int .i64 gj, .slice va c.vs.length vcp, .slice ua c.us.length ucp, .slice dda c.ds.length dcp] 48 (0, 0))) (.cells #[.int .i64 0, .int .i64 0, .int .i64 0, .int .i64 0, .int .u64 0, .int .u64 0, .int .u64 0, .int .u64 0, .int .u64 0, .int .u64 0, .int .i64 0, .int .u32 0, .int .i64 0, .int .i64 0, .int .i64 0, .int .u64 0, .int .i64 0, .int .i64 0, .int .u64 0, .slice none 0 0, .bool false, .int .i64 0, .slice none 0 0, .slice none 0 0, .slice none 0 0] 48 (0, 0))
    rw [show (w.alloc (.cells #[.int .i64 0, .int .i64 0, .int .i64 0, .int .i64 0, .int .u64 0, .int .u64 0, .int .u64 0, .int .u64 se, .int .u64 dn, .int .u64 ve, .int .i64 sl, .int .u32 ke, .int .i64 co, .int .i64 ck, .int .i64 cc, .int .u64 ce, .int .i64 cn, .int .i64 gc, .int .u64 ge, .slice ga c.ns.length gcp, .bool gf, .int .i64 gj, .slice va c.vs.length vcp, .slice ua c.us.length ucp, .slice dda c.ds.length dcp] 48 (0, 0))).heap.size = w.heap.size + 1 by simp] at h2
    have hkk := ((Kept.refl NoB w).alloc (.cells #[.int .i64 0, .int .i64 0, .int .i64 0, .int .i64 0, .int .u64 0, .int .u64 0, .int .u64 0, .int .u64 se, .int .u64 dn, .int .u64 ve, .int .i64 sl, .int .u32 ke, .int .i64 co, .int .i64 ck, .int .i64 cc, .int .u64 ce, .int .i64 cn, .int .i64 gc, .int .u64 ge, .slice ga c.ns.length gcp, .bool gf, .int .i64 gj, .slice va c.vs.length vcp, .slice ua c.us.length ucp, .slice dda c.ds.length dcp] 48 (0, 0))).alloc (.cells #[.int .i64 0, .int .i64 0, .int .i64 0, .int .i64 0, .int .u64 0, .int .u64 0, .int .u64 0, .int .u64 0, .int .u64 0, .int .u64 0, .int .i64 0, .int .u32 0, .int .i64 0, .int .i64 0, .int .i64 0, .int .u64 0, .int .i64 0, .int .i64 0, .int .u64 0, .slice none 0 0, .bool false, .int .i64 0, .slice none 0 0, .slice none 0 0, .slice none 0 0] 48 (0, 0))
    obtain ⟨W, hW⟩ : ∃ W, W = (w.alloc (.cells #[.int .i64 0, .int .i64 0, .int .i64 0, .int .i64 0, .int .u64 0, .int .u64 0, .int .u64 0, .int .u64 se, .int .u64 dn, .int .u64 ve, .int .i64 sl, .int .u32 ke, .int .i64 co, .int .i64 ck, .int .i64 cc, .int .u64 ce, .int .i64 cn, .int .i64 gc, .int .u64 ge, .slice ga c.ns.length gcp, .bool gf, .int .i64 gj, .slice va c.vs.length vcp, .slice ua c.us.length ucp, .slice dda c.ds.length dcp] 48 (0, 0))).alloc (.cells #[.int .i64 0, .int .i64 0, .int .i64 0, .int .i64 0, .int .u64 0, .int .u64 0, .int .u64 0, .int .u64 0, .int .u64 0, .int .u64 0, .int .i64 0, .int .u32 0, .int .i64 0, .int .i64 0, .int .i64 0, .int .u64 0, .int .i64 0, .int .i64 0, .int .u64 0, .slice none 0 0, .bool false, .int .i64 0, .slice none 0 0, .slice none 0 0, .slice none 0 0] 48 (0, 0)) := ⟨_, rfl⟩
    rw [← hW] at h1' h2 hkk
    have HK := Lib.hid hkk
    have HW := Lib.hid hW
    have HTEN : Hid (∀ w', Kept NoB W w' → (w'.cell? ⟨w.heap.size, 0, none⟩ = some (.int .i64 0) ∧ w'.cell? ⟨w.heap.size, 1, none⟩ = some (.int .i64 0) ∧ w'.cell? ⟨w.heap.size, 2, none⟩ = some (.int .i64 0) ∧ w'.cell? ⟨w.heap.size, 3, none⟩ = some (.int .i64 0) ∧ w'.cell? ⟨w.heap.size, 4, none⟩ = some (.int .u64 0) ∧ w'.cell? ⟨w.heap.size, 5, none⟩ = some (.int .u64 0) ∧ w'.cell? ⟨w.heap.size, 6, none⟩ = some (.int .u64 0) ∧ w'.cell? ⟨w.heap.size, 7, none⟩ = some (.int .u64 se) ∧ w'.cell? ⟨w.heap.size, 8, none⟩ = some (.int .u64 dn) ∧ w'.cell? ⟨w.heap.size, 9, none⟩ = some (.int .u64 ve) ∧ w'.cell? ⟨w.heap.size, 10, none⟩ = some (.int .i64 sl) ∧ w'.cell? ⟨w.heap.size, 11, none⟩ = some (.int .u32 ke) ∧ w'.cell? ⟨w.heap.size, 12, none⟩ = some (.int .i64 co) ∧ w'.cell? ⟨w.heap.size, 13, none⟩ = some (.int .i64 ck) ∧ w'.cell? ⟨w.heap.size, 14, none⟩ = some (.int .i64 cc) ∧ w'.cell? ⟨w.heap.size, 15, none⟩ = some (.int .u64 ce) ∧ w'.cell? ⟨w.heap.size, 16, none⟩ = some (.int .i64 cn) ∧ w'.cell? ⟨w.heap.size, 17, none⟩ = some (.int .i64 gc) ∧ w'.cell? ⟨w.heap.size, 18, none⟩ = some (.int .u64 ge) ∧ w'.cell? ⟨w.heap.size, 19, none⟩ = some (.slice ga c.ns.length gcp) ∧ w'.cell? ⟨w.heap.size, 20, none⟩ = some (.bool gf) ∧ w'.cell? ⟨w.heap.size, 21, none⟩ = some (.int .i64 gj) ∧ w'.cell? ⟨w.heap.size, 22, none⟩ = some (.slice va c.vs.length vcp) ∧ w'.cell? ⟨w.heap.size, 23, none⟩ = some (.slice ua c.us.length ucp) ∧ w'.cell? ⟨w.heap.size, 24, none⟩ = some (.slice dda c.ds.length dcp)) ∧ (w'.cell? ⟨w.heap.size + 1, 0, none⟩ = some (.int .i64 0) ∧ w'.cell? ⟨w.heap.size + 1, 1, none⟩ = some (.int .i64 0) ∧ w'.cell? ⟨w.heap.size + 1, 2, none⟩ = some (.int .i64 0) ∧ w'.cell? ⟨w.heap.size + 1, 3, none⟩ = some (.int .i64 0) ∧ w'.cell? ⟨w.heap.size + 1, 4, none⟩ = some (.int .u64 0) ∧ w'.cell? ⟨w.heap.size + 1, 5, none⟩ = some (.int .u64 0) ∧ w'.cell? ⟨w.heap.size + 1, 6, none⟩ = some (.int .u64 0) ∧ w'.cell? ⟨w.heap.size + 1, 7, none⟩ = some (.int .u64 0) ∧ w'.cell? ⟨w.heap.size + 1, 8, none⟩ = some (.int .u64 0) ∧ w'.cell? ⟨w.heap.size + 1, 9, none⟩ = some (.int .u64 0) ∧ w'.cell? ⟨w.heap.size + 1, 10, none⟩ = some (.int .i64 0) ∧ w'.cell? ⟨w.heap.size + 1, 11, none⟩ = some (.int .u32 0) ∧ w'.cell? ⟨w.heap.size + 1, 12, none⟩ = some (.int .i64 0) ∧ w'.cell? ⟨w.heap.size + 1, 13, none⟩ = some (.int .i64 0) ∧ w'.cell? ⟨w.heap.size + 1, 14, none⟩ = some (.int .i64 0) ∧ w'.cell? ⟨w.heap.size + 1, 15, none⟩ = some (.int .u64 0) ∧ w'.cell? ⟨w.heap.size + 1, 16, none⟩ = some (.int .i64 0) ∧ w'.cell? ⟨w.heap.size + 1, 17, none⟩ = some (.int .i64 0) ∧ w'.cell? ⟨w.heap.size + 1, 18, none⟩ = some (.int .u64 0) ∧ w'.cell? ⟨w.heap.size + 1, 19, none⟩ = some (.slice none 0 0) ∧ w'.cell? ⟨w.heap.size + 1, 20, none⟩ = some (.bool false) ∧ w'.cell? ⟨w.heap.size + 1, 21, none⟩ = some (.int .i64 0) ∧ w'.cell? ⟨w.heap.size + 1, 22, none⟩ = some (.slice none 0 0) ∧ w'.cell? ⟨w.heap.size + 1, 23, none⟩ = some (.slice none 0 0) ∧ w'.cell? ⟨w.heap.size + 1, 24, none⟩ = some (.slice none 0 0))) := Lib.hid (fun w' hk => ⟨cells25 (hk.heap (fun h => h) h1'), cells25 (hk.heap (fun h => h) h2)⟩)
    clear h1 h1' h2 hkk hW
    go_enter Tryz.func40, Tryz.ntmps40
    go_wp2_with fail
    try rw [← HW.out]
    obtain ⟨⟨c0, c1, c2, c3, c4, c5, c6, c7, c8, c9, c10, c11, c12, c13, c14, c15, c16, c17, c18, c19, c20, c21, c22, c23, c24⟩, ⟨d0, d1, d2, d3, d4, d5, d6, d7, d8, d9, d10, d11, d12, d13, d14, d15, d16, d17, d18, d19, d20, d21, d22, d23, d24⟩⟩ := HTEN.out W (Kept.refl _ _)
    go_wp2
    go_ret
    exact ⟨by rw [HR.out]; rfl, HK.out⟩
  subst q4
  by_cases q5 : dn = 0
  rotate_left
  · as_aux_lemma =>
    have e : (dn == 0) = false := by simpa using q5
    have HR : Hid (rb = false) := Lib.hid (by rw [HRB.out, decide_eq_false (fun h => q5 h.2.2.2.2.2.1)]; rfl)
    clear q5 HRB HCS HVS HUS HDS hs1 hs2 hs3 hs4 hs5
    have h1 := heap_alloc_new w (.cells #[.int .i64 0, .int .i64 0, .int .i64 0, .int .i64 0, .int .u64 0, .int .u64 0, .int .u64 0, .int .u64 0, .int .u64 dn, .int .u64 ve, .int .i64 sl, .int .u32 ke, .int .i64 co, .int .i64 ck, .int .i64 cc, .int .u64 ce, .int .i64 cn, .int .i64 gc, .int .u64 ge, .slice ga c.ns.length gcp, .bool gf, .int .i64 gj, .slice va c.vs.length vcp, .slice ua c.us.length ucp, .slice dda c.ds.length dcp] 48 (0, 0))
    have h1' := blkU_alloc h1 (.cells #[.int .i64 0, .int .i64 0, .int .i64 0, .int .i64 0, .int .u64 0, .int .u64 0, .int .u64 0, .int .u64 0, .int .u64 0, .int .u64 0, .int .i64 0, .int .u32 0, .int .i64 0, .int .i64 0, .int .i64 0, .int .u64 0, .int .i64 0, .int .i64 0, .int .u64 0, .slice none 0 0, .bool false, .int .i64 0, .slice none 0 0, .slice none 0 0, .slice none 0 0] 48 (0, 0))
    have h2 := heap_alloc_new (w.alloc (.cells #[.int .i64 0, .int .i64 0, .int .i64 0, .int .i64 0, .int .u64 0, .int .u64 0, .int .u64 0, .int .u64 0, .int .u64 dn, .int .u64 ve, .int .i64 sl, .int .u32 ke, .int .i64 co, .int .i64 ck, .int .i64 cc, .int .u64 ce, .int .i64 cn, .int .i64 gc, .int .u64 ge, .slice ga c.ns.length gcp, .bool gf, .int .i64 gj, .slice va c.vs.length vcp, .slice ua c.us.length ucp, .slice dda c.ds.length dcp] 48 (0, 0))) (.cells #[.int .i64 0, .int .i64 0, .int .i64 0, .int .i64 0, .int .u64 0, .int .u64 0, .int .u64 0, .int .u64 0, .int .u64 0, .int .u64 0, .int .i64 0, .int .u32 0, .int .i64 0, .int .i64 0, .int .i64 0, .int .u64 0, .int .i64 0, .int .i64 0, .int .u64 0, .slice none 0 0, .bool false, .int .i64 0, .slice none 0 0, .slice none 0 0, .slice none 0 0] 48 (0, 0))
    rw [show (w.alloc (.cells #[.int .i64 0, .int .i64 0, .int .i64 0, .int .i64 0, .int .u64 0, .int .u64 0, .int .u64 0, .int .u64 0, .int .u64 dn, .int .u64 ve, .int .i64 sl, .int .u32 ke, .int .i64 co, .int .i64 ck, .int .i64 cc, .int .u64 ce, .int .i64 cn, .int .i64 gc, .int .u64 ge, .slice ga c.ns.length gcp, .bool gf, .int .i64 gj, .slice va c.vs.length vcp, .slice ua c.us.length ucp, .slice dda c.ds.length dcp] 48 (0, 0))).heap.size = w.heap.size + 1 by simp] at h2
    have hkk := ((Kept.refl NoB w).alloc (.cells #[.int .i64 0, .int .i64 0, .int .i64 0, .int .i64 0, .int .u64 0, .int .u64 0, .int .u64 0, .int .u64 0, .int .u64 dn, .int .u64 ve, .int .i64 sl, .int .u32 ke, .int .i64 co, .int .i64 ck, .int .i64 cc, .int .u64 ce, .int .i64 cn, .int .i64 gc, .int .u64 ge, .slice ga c.ns.length gcp, .bool gf, .int .i64 gj, .slice va c.vs.length vcp, .slice ua c.us.length ucp, .slice dda c.ds.length dcp] 48 (0, 0))).alloc (.cells #[.int .i64 0, .int .i64 0, .int .i64 0, .int .i64 0, .int .u64 0, .int .u64 0, .int .u64 0, .int .u64 0, .int .u64 0, .int .u64 0, .int .i64 0, .int .u32 0, .int .i64 0, .int .i64 0, .int .i64 0, .int .u64 0, .int .i64 0, .int .i64 0, .int .u64 0, .slice none 0 0, .bool false, .int .i64 0, .slice none 0 0, .slice none 0 0, .slice none 0 0] 48 (0, 0))
    obtain ⟨W, hW⟩ : ∃ W, W = (w.alloc (.cells #[.int .i64 0, .int .i64 0, .int .i64 0, .int .i64 0, .int .u64 0, .int .u64 0, .int .u64 0, .int .u64 0, .int .u64 dn, .int .u64 ve, .int .i64 sl, .int .u32 ke, .int .i64 co, .int .i64 ck, .int .i64 cc, .int .u64 ce, .int .i64 cn, .int .i64 gc, .int .u64 ge, .slice ga c.ns.length gcp, .bool gf, .int .i64 gj, .slice va c.vs.length vcp, .slice ua c.us.length ucp, .slice dda c.ds.length dcp] 48 (0, 0))).alloc (.cells #[.int .i64 0, .int .i64 0, .int .i64 0, .int .i64 0, .int .u64 0, .int .u64 0, .int .u64 0, .int .u64 0, .int .u64 0, .int .u64 0, .int .i64 0, .int .u32 0, .int .i64 0, .int .i64 0, .int .i64 0, .int .u64 0, .int .i64 0, .int .i64 0, .int .u64 0, .slice none 0 0, .bool false, .int .i64 0, .slice none 0 0, .slice none 0 0, .slice none 0 0] 48 (0, 0)) := ⟨_, rfl⟩
    rw [← hW] at h1' h2 hkk
    have HK := Lib.hid hkk
    have HW := Lib.hid hW
    have HTEN : Hid (∀ w', Kept NoB W w' → (w'.cell? ⟨w.heap.size, 0, none⟩ = some (.int .i64 0) ∧ w'.cell? ⟨w.heap.size, 1, none⟩ = some (.int .i64 0) ∧ w'.cell? ⟨w.heap.size, 2, none⟩ = some (.int .i64 0) ∧ w'.cell? ⟨w.heap.size, 3, none⟩ = some (.int .i64 0) ∧ w'.cell? ⟨w.heap.size, 4, none⟩ = some (.int .u64 0) ∧ w'.cell? ⟨w.heap.size, 5, none⟩ = some (.int .u64 0) ∧ w'.cell? ⟨w.heap.size, 6, none⟩ = some (.int .u64 0) ∧ w'.cell? ⟨w.heap.size, 7, none⟩ = some (.int .u64 0) ∧ w'.cell? ⟨w.heap.size, 8, none⟩ = some (.int .u64 dn) ∧ w'.cell? ⟨w.heap.size, 9, none⟩ = some (.int .u64 ve) ∧ w'.cell? ⟨w.heap.size, 10, none⟩ = some (.int .i64 sl) ∧ w'.cell? ⟨w.heap.size, 11, none⟩ = some (.int .u32 ke) ∧ w'.cell? ⟨w.heap.size, 12, none⟩ = some (.int .i64 co) ∧ w'.cell? ⟨w.heap.size, 13, none⟩ = some (.int .i64 ck) ∧ w'.cell? ⟨w.heap.size, 14, none⟩ = some (.int .i64 cc) ∧ w'.cell? ⟨w.heap.size, 15, none⟩ = some (.int .u64 ce) ∧ w'.cell? ⟨w.heap.size, 16, none⟩ = some (.int .i64 cn) ∧ w'.cell? ⟨w.heap.size, 17, none⟩ = some (.int .i64 gc) ∧ w'.cell? ⟨w.heap.size, 18, none⟩ = some (.int .u64 ge) ∧ w'.cell? ⟨w.heap.size, 19, none⟩ = some (.slice ga c.ns.length gcp) ∧ w'.cell? ⟨w.heap.size, 20, none⟩ = some (.bool gf) ∧ w'.cell? ⟨w.heap.size, 21, none⟩ = some (.int .i64 gj) ∧ w'.cell? ⟨w.heap.size, 22, none⟩ = some (.slice va c.vs.length vcp) ∧ w'.cell? ⟨w.heap.size, 23, none⟩ = some (.slice ua c.us.length ucp) ∧ w'.cell? ⟨w.heap.size, 24, none⟩ = some (.slice dda c.ds.length dcp)) ∧ (w'.cell? ⟨w.heap.size + 1, 0, none⟩ = some (.int .i64 0) ∧ w'.cell? ⟨w.heap.size + 1, 1, none⟩ = some (.int .i64 0) ∧ w'.cell? ⟨w.heap.size + 1, 2, none⟩ = some (.int .i64 0) ∧ w'.cell? ⟨w.heap.size + 1, 3, none⟩ = some (.int .i64 0) ∧ w'.cell? ⟨w.heap.size + 1, 4, none⟩ = some (.int .u64 0) ∧ w'.cell? ⟨w.heap.size + 1, 5, none⟩ = some (.int .u64 0) ∧ w'.cell? ⟨w.heap.size + 1, 6, none⟩ = some (.int .u64 0) ∧ w'.cell? ⟨w.heap.size + 1, 7, none⟩ = some (.int .u64 0) ∧ w'.cell? ⟨w.heap.size + 1, 8, none⟩ = some (.int .u64 0) ∧ w'.cell? ⟨w.heap.size + 1, 9, none⟩ = some (.int .u64 0) ∧ w'.cell? ⟨w.heap.size + 1, 10, none⟩ = some (.int .i64 0) ∧ w'.cell? ⟨w.heap.size + 1, 11, none⟩ = some (.int .u32 0) ∧ w'.cell? ⟨w.heap.size + 1, 12, none⟩ = some (.int .i64 0) ∧ w'.cell? ⟨w.heap.size + 1, 13, none⟩ = some (.int .i64 0) ∧ w'.cell? ⟨w.heap.size + 1, 14, none⟩ = some (.int .i64 0) ∧ w'.cell? ⟨w.heap.size + 1, 15, none⟩ = some (.int .u64 0) ∧ w'.cell? ⟨w.heap.size + 1, 16, none⟩ = some (.int .i64 0) ∧ w'.cell? ⟨w.heap.size + 1, 17, none⟩ = some (.int .i64 0) ∧ w'.cell? ⟨w.heap.size + 1, 18, none⟩ = some (.int .u64 0) ∧ w'.cell? ⟨w.heap.size + 1, 19, none⟩ = some (.slice none 0 0) ∧ w'.cell? ⟨w.heap.size + 1, 20, none⟩ = some (.bool false) ∧ w'.cell? ⟨w.heap.size + 1, 21, none⟩ = some (.int .i64 0) ∧ w'.cell? ⟨w.heap.size + 1, 22, none⟩ = some (.slice none 0 0) ∧ w'.cell? ⟨w.heap.size + 1, 23, none⟩ = some (.slice none 0 0) ∧ w'.cell? ⟨w.heap.size + 1, 24, none⟩ = some (.slice none 0 0))) := Lib.hid (fun w' hk => ⟨cells25 (hk.heap (fun h => h) h1'), cells25 (hk.heap (fun h => h) h2)⟩)
    clear h1 h1' h2 hkk hW
    go_enter Tryz.func40, Tryz.ntmps40
    go_wp2_with fail
    try rw [← HW.out]
    obtain ⟨⟨c0, c1, c2, c3, c4, c5, c6, c7, c8, c9, c10, c11, c12, c13, c14, c15, c16, c17, c18, c19, c20, c21, c22, c23, c24⟩, ⟨d0, d1, d2, d3, d4, d5, d6, d7, d8, d9, d10, d11, d12, d13, d14, d15, d16, d17, d18, d19, d20, d21, d22, d23, d24⟩⟩ := HTEN.out W (Kept.refl _ _)
    go_wp2
    go_ret
    exact ⟨by rw [HR.out]; rfl, HK.out⟩
  subst q5
  by_cases q6 : ve = 0
  rotate_left
  · as_aux_lemma =>
    have e : (ve == 0) = false := by simpa using q6
    have HR : Hid (rb = false) := Lib.hid (by rw [HRB.out, decide_eq_false (fun h => q6 h.2.2.2.2.2.2.1)]; rfl)
    clear q6 HRB HCS HVS HUS HDS hs1 hs2 hs3 hs4 hs5
    have h1 := heap_alloc_new w (.cells #[.int .i64 0, .int .i64 0, .int .i64 0, .int .i64 0, .int .u64 0, .int .u64 0, .int .u64 0, .int .u64 0, .int .u64 0, .int .u64 ve, .int .i64 sl, .int .u32 ke, .int .i64 co, .int .i64 ck, .int .i64 cc, .int .u64 ce, .int .i64 cn, .int .i64 gc, .int .u64 ge, .slice ga c.ns.length gcp, .bool gf, .int .i64 gj, .slice va c.vs.length vcp, .slice ua c.us.length ucp, .slice dda c.ds.length dcp] 48 (0, 0))
    have h1' := blkU_alloc h1 (.cells #[.int .i64 0, .int .i64 0, .int .i64 0, .int .i64 0, .int .u64 0, .int .u64 0, .int .u64 0, .int .u64 0, .int .u64 0, .int .u64 0, .int .i64 0, .int .u32 0, .int .i64 0, .int .i64 0, .int .i64 0, .int .u64 0, .int .i64 0, .int .i64 0, .int .u64 0, .slice none 0 0, .bool false, .int .i64 0, .slice none 0 0, .slice none 0 0, .slice none 0 0] 48 (0, 0))
    have h2 := heap_alloc_new (w.alloc (.cells #[.int .i64 0, .int .i64 0, .int .i64 0, .int .i64 0, .int .u64 0, .int .u64 0, .int .u64 0, .int .u64 0, .int .u64 0, .int .u64 ve, .int .i64 sl, .int .u32 ke, .int .i64 co, .int .i64 ck, .int .i64 cc, .int .u64 ce, .int .i64 cn, .int .i64 gc, .int .u64 ge, .slice ga c.ns.length gcp, .bool gf, .int .i64 gj, .slice va c.vs.length vcp, .slice ua c.us.length ucp, .slice dda c.ds.length dcp] 48 (0, 0))) (.cells #[.int .i64 0, .int .i64 0, .int .i64 0, .int .i64 0, .int .u64 0, .int .u64 0, .int .u64 0, .int .u64 0, .int .u64 0, .int .u64 0, .int .i64 0, .int .u32 0, .int .i64 0, .int .i64 0, .int .i64 0, .int .u64 0, .int .i64 0, .int .i64 0, .int .u64 0, .slice none 0 0, .bool false, .int .i64 0, .slice none 0 0, .slice none 0 0, .slice none 0 0] 48 (0, 0))
    rw [show (w.alloc (.cells #[.int .i64 0, .int .i64 0, .int .i64 0, .int .i64 0, .int .u64 0, .int .u64 0, .int .u64 0, .int .u64 0, .int .u64 0, .int .u64 ve, .int .i64 sl, .int .u32 ke, .int .i64 co, .int .i64 ck, .int .i64 cc, .int .u64 ce, .int .i64 cn, .int .i64 gc, .int .u64 ge, .slice ga c.ns.length gcp, .bool gf, .int .i64 gj, .slice va c.vs.length vcp, .slice ua c.us.length ucp, .slice dda c.ds.length dcp] 48 (0, 0))).heap.size = w.heap.size + 1 by simp] at h2
    have hkk := ((Kept.refl NoB w).alloc (.cells #[.int .i64 0, .int .i64 0, .int .i64 0, .int .i64 0, .int .u64 0, .int .u64 0, .int .u64 0, .int .u64 0, .int .u64 0, .int .u64 ve, .int .i64 sl, .int .u32 ke, .int .i64 co, .int .i64 ck, .int .i64 cc, .int .u64 ce, .int .i64 cn, .int .i64 gc, .int .u64 ge, .slice ga c.ns.length gcp, .bool gf, .int .i64 gj, .slice va c.vs.length vcp, .slice ua c.us.length ucp, .slice dda c.ds.length dcp] 48 (0, 0))).alloc (.cells #[.int .i64 0, .int .i64 0, .int .i64 0, .int .i64 0, .int .u64 0, .int .u64 0, .int .u64 0, .int .u64 0, .int .u64 0, .int .u64 0, .int .i64 0, .int .u32 0, .int .i64 0, .int .i64 0, .int .i64 0, .int .u64 0, .int .i64 0, .int .i64 0, .int .u64 0, .slice none 0 0, .bool false, .int .i64 0, .slice none 0 0, .slice none 0 0, .slice none 0 0] 48 (0, 0))
    obtain ⟨W, hW⟩ : ∃ W, W = (w.alloc (.cells #[.int .i64 0, .int .i64 0, .int .i64 0, .int .i64 0, .int .u64 0, .int .u64 0, .int .u64 0, .int .u64 0, .int .u64 0, .int .u64 ve, .int .i64 sl, .int .u32 ke, .int .i64 co, .int .i64 ck, .int .i64 cc, .int .u64 ce, .int .i64 cn, .int .i64 gc, .int .u64 ge, .slice ga c.ns.length gcp, .bool gf, .int .i64 gj, .slice va c.vs.length vcp, .slice ua c.us.length ucp, .slice dda c.ds.length dcp] 48 (0, 0))).alloc (.cells #[.int .i64 0, .int .i64 0, .int .i64 0, .int .i64 0, .int .u64 0, .int .u64 0, .int .u64 0, .int .u64 0, .int .u64 0, .int .u64 0, .int .i64 0, .int .u32 0, .int .i64 0, .int .i64 0, .int .i64 0, .int .u64 0, .int .i64 0, .int .i64 0, .int .u64 0, .slice none 0 0, .bool false, .int .i64 0, .slice none 0 0, .slice none 0 0, .slice none 0 0] 48 (0, 0)) := ⟨_, rfl⟩
    rw [← hW] at h1' h2 hkk
    have HK := Lib.hid hkk
    have HW := Lib.hid hW
    have HTEN : Hid (∀ w', Kept NoB W w' → (w'.cell? ⟨w.heap.size, 0, none⟩ = some (.int .i64 0) ∧ w'.cell? ⟨w.heap.size, 1, none⟩ = some (.int .i64 0) ∧ w'.cell? ⟨w.heap.size, 2, none⟩ = some (.int .i64 0) ∧ w'.cell? ⟨w.heap.size, 3, none⟩ = some (.int .i64 0) ∧ w'.cell? ⟨w.heap.size, 4, none⟩ = some (.int .u64 0) ∧ w'.cell? ⟨w.heap.size, 5, none⟩ = some (.int .u64 0) ∧ w'.cell? ⟨w.heap.size, 6, none⟩ = some (.int .u64 0) ∧ w'.cell? ⟨w.heap.size, 7, none⟩ = some (.int .u64 0) ∧ w'.cell? ⟨w.heap.size, 8, none⟩ = some (.int .u64 0) ∧ w'.cell? ⟨w.heap.size, 9, none⟩ = some (.int .u64 ve) ∧ w'.cell? ⟨w.heap.size, 10, none⟩ = some (.int .i64 sl) ∧ w'.cell? ⟨w.heap.size, 11, none⟩ = some (.int .u32 ke) ∧ w'.cell? ⟨w.heap.size, 12, none⟩ = some (.int .i64 co) ∧ w'.cell? ⟨w.heap.size, 13, none⟩ = some (.int .i64 ck) ∧ w'.cell? ⟨w.heap.size, 14, none⟩ = some (.int .i64 cc) ∧ w'.cell? ⟨w.heap.size, 15, none⟩ = some (.int .u64 ce) ∧ w'.cell? ⟨w.heap.size, 16, none⟩ = some (.int .i64 cn) ∧ w'.cell? ⟨w.heap.size, 17, none⟩ = some (.int .i64 gc) ∧ w'.cell? ⟨w.heap.size, 18, none⟩ = some (.int .u64 ge) ∧ w'.cell? ⟨w.heap.size, 19, none⟩ = some (.slice ga c.ns.length gcp) ∧ w'.cell? ⟨w.heap.size, 20, none⟩ = some (.bool gf) ∧ w'.cell? ⟨w.heap.size, 21, none⟩ = some (.int .i64 gj) ∧ w'.cell? ⟨w.heap.size, 22, none⟩ = some (.slice va c.vs.length vcp) ∧ w'.cell? ⟨w.heap.size, 23, none⟩ = some (.slice ua c.us.length ucp) ∧ w'.cell? ⟨w.heap.size, 24, none⟩ = some (.slice dda c.ds.length dcp)) ∧ (w'.cell? ⟨w.heap.size + 1, 0, none⟩ = some (.int .i64 0) ∧ w'.cell? ⟨w.heap.size + 1, 1, none⟩ = some (.int .i64 0) ∧ w'.cell? ⟨w.heap.size + 1, 2, none⟩ = some (.int .i64 0) ∧ w'.cell? ⟨w.heap.size + 1, 3, none⟩ = some (.int .i64 0) ∧ w'.cell? ⟨w.heap.size + 1, 4, none⟩ = some (.int .u64 0) ∧ w'.cell? ⟨w.heap.size + 1, 5, none⟩ = some (.int .u64 0) ∧ w'.cell? ⟨w.heap.size + 1, 6, none⟩ = some (.int .u64 0) ∧ w'.cell? ⟨w.heap.size + 1, 7, none⟩ = some (.int .u64 0) ∧ w'.cell? ⟨w.heap.size + 1, 8, none⟩ = some (.int .u64 0) ∧ w'.cell? ⟨w.heap.size + 1, 9, none⟩ = some (.int .u64 0) ∧ w'.cell? ⟨w.heap.size + 1, 10, none⟩ = some (.int .i64 0) ∧ w'.cell? ⟨w.heap.size + 1, 11, none⟩ = some (.int .u32 0) ∧ w'.cell? ⟨w.heap.size + 1, 12, none⟩ = some (.int .i64 0) ∧ w'.cell? ⟨w.heap.size + 1, 13, none⟩ = some (.int .i64 0) ∧ w'.cell? ⟨w.heap.size + 1, 14, none⟩ = some (.int .i64 0) ∧ w'.cell? ⟨w.heap.size + 1, 15, none⟩ = some (.int .u64 0) ∧ w'.cell? ⟨w.heap.size + 1, 16, none⟩ = some (.int .i64 0) ∧ w'.cell? ⟨w.heap.size + 1, 17, none⟩ = some (.int .i64 0) ∧ w'.cell? ⟨w.heap.size + 1, 18, none⟩ = some (.int .u64 0) ∧ w'.cell? ⟨w.heap.size + 1, 19, none⟩ = some (.slice none 0 0) ∧ w'.cell? ⟨w.heap.size + 1, 20, none⟩ = some (.bool false) ∧ w'.cell? ⟨w.heap.size + 1, 21, none⟩ = some (.int .i64 0) ∧ w'.cell? ⟨w.heap.size + 1, 22, none⟩ = some (.slice none 0 0) ∧ w'.cell? ⟨w.heap.size + 1, 23, none⟩ = some (.slice none 0 0) ∧ w'.cell? ⟨w.heap.size + 1, 24, none⟩ = some (.slice none 0 0))) := Lib.hid (fun w' hk => ⟨cells25 (hk.heap (fun h => h) h1'), cells25 (hk.heap (fun h => h) h2)⟩)
    clear h1 h1' h2 hkk hW
    go_enter Tryz.func40, Tryz.ntmps40
    go_wp2_with fail
    try rw [← HW.out]
    obtain ⟨⟨c0, c1, c2, c3, c4, c5, c6, c7, c8, c9, c10, c11, c12, c13, c14, c15, c16, c17, c18, c19, c20, c21, c22, c23, c24⟩, ⟨d0, d1, d2, d3, d4, d5, d6, d7, d8, d9, d10, d11, d12, d13, d14, d15, d16, d17, d18, d19, d20, d21, d22, d23, d24⟩⟩ := HTEN.out W (Kept.refl _ _)
    go_wp2
    go_ret
    exact ⟨by rw [HR.out]; rfl, HK.out⟩
  subst q6
  by_cases q7 : sl = 0
  rotate_left
  · as_aux_lemma =>
    have e : (sl == 0) = false := by simpa using q7
    have HR : Hid (rb = false) := Lib.hid (by rw [HRB.out, decide_eq_false (fun h => q7 h.2.2.2.2.2.2.2.1)]; rfl)
    clear q7 HRB HCS HVS HUS HDS hs1 hs2 hs3 hs4 hs5
    have h1 := heap_alloc_new w (.cells #[.int .i64 0, .int .i64 0, .int .i64 0, .int .i64 0, .int .u64 0, .int .u64 0, .int .u64 0, .int .u64 0, .int .u64 0, .int .u64 0, .int .i64 sl, .int .u32 ke, .int .i64 co, .int .i64 ck, .int .i64 cc, .int .u64 ce, .int .i64 cn, .int .i64 gc, .int .u64 ge, .slice ga c.ns.length gcp, .bool gf, .int .i64 gj, .slice va c.vs.length vcp, .slice ua c.us.length ucp, .slice dda c.ds.length dcp] 48 (0, 0))
    have h1' := blkU_alloc h1 (.cells #[.int .i64 0, .int .i64 0, .int .i64 0, .int .i64 0, .int .u64 0, .int .u64 0, .int .u64 0, .int .u64 0, .int .u64 0, .int .u64 0, .int .i64 0, .int .u32 0, .int .i64 0, .int .i64 0, .int .i64 0, .int .u64 0, .int .i64 0, .int .i64 0, .int .u64 0, .slice none 0 0, .bool false, .int .i64 0, .slice none 0 0, .slice none 0 0, .slice none 0 0] 48 (0, 0))
    have h2 := heap_alloc_new (w.alloc (.cells #[.int .i64 0, .int .i64 0, .int .i64 0, .int .i64 0, .int .u64 0, .int .u64 0, .int .u64 0, .int .u64 0, .int .u64 0, .int .u64 0, .int .i64 sl, .int .u32 ke, .int .i64 co, .int .i64 ck, .int .i64 cc, .int .u64 ce, .int .i64 cn, .int .i64 gc, .int .u64 ge, .slice ga c.ns.length gcp, .bool gf, .int .i64 gj, .slice va c.vs.length vcp, .slice ua c.us.length ucp, .slice dda c.ds.length dcp] 48 (0, 0))) (.cells #[.int .i64 0, .int .i64 0, .int .i64 0, .int .i64 0, .int .u64 0, .int .u64 0, .int .u64 0, .int .u64 0, .int .u64 0, .int .u64 0, .int .i64 0, .int .u32 0, .int .i64 0, .int .i64 0, .int .i64 0, .int .u64 0, .int .i64 0, .int .i64 0, .int .u64 0, .slice none 0 0, .bool false, .int .i64 0, .slice none 0 0, .slice none 0 0, .slice none 0 0] 48 (0, 0))
    rw [show (w.alloc (.cells #[.int .i64 0, .int .i64 0, .int .i64 0, .int .i64 0, .int .u64 0, .int .u64 0, .int .u64 0, .int .u64 0, .int .u64 0, .int .u64 0, .int .i64 sl, .int .u32 ke, .int .i64 co, .int .i64 ck, .int .i64 cc, .int .u64 ce, .int .i64 cn, .int .i64 gc, .int .u64 ge, .slice ga c.ns.length gcp, .bool gf, .int .i64 gj, .slice va c.vs.length vcp, .slice ua c.us.length ucp, .slice dda c.ds.length dcp] 48 (0, 0))).heap.size = w.heap.size + 1 by simp] at h2
    have hkk := ((Kept.refl NoB w).alloc (.cells #[.int .i64 0, .int .i64 0, .int .i64 0, .int .i64 0, .int .u64 0, .int .u64 0, .int .u64 0, .int .u64 0, .int .u64 0, .int .u64 0, .int .i64 sl, .int .u32 ke, .int .i64 co, .int .i64 ck, .int .i64 cc, .int .u64 ce, .int .i64 cn, .int .i64 gc, .int .u64 ge, .slice ga c.ns.length gcp, .bool gf, .int .i64 gj, .slice va c.vs.length vcp, .slice ua c.us.length ucp, .slice dda c.ds.length dcp] 48 (0, 0))).alloc (.cells #[.int .i64 0, .int .i64 0, .int .i64 0, .int .i64 0, .int .u64 0, .int .u64 0, .int .u64 0, .int .u64 0, .int .u64 0, .int .u64 0, .int .i64 0, .int .u32 0, .int .i64 0, .int .i64 0, .int .i64 0, .int .u64 0, .int .i64 0, .int .i64 0, .int .u64 0, .slice none 0 0, .bool false, .int .i64 0, .slice none 0 0, .slice none 0 0, .slice none 0 0] 48 (0, 0))
    obtain ⟨W, hW⟩ : ∃ W, W = (w.alloc (.cells #[.int .i64 0, .int .i64 0, .int .i64 0, .int .i64 0, .int .u64 0, .int .u64 0, .int .u64 0, .int .u64 0, .int .u64 0, .int .u64 0, .int .i64 sl, .int .u32 ke, .int .i64 co, .int .i64 ck, .int .i64 cc, .int .u64 ce, .int .i64 cn, .int .i64 gc, .int .u64 ge, .slice ga c.ns.length gcp, .bool gf, .int .i64 gj, .slice va c.vs.length vcp, .slice ua c.us.length ucp, .slice dda c.ds.length dcp] 48 (0, 0))).alloc (.cells #[.int .i64 0, .int .i64 0, .int .i64 0, .int .i64 0, .int .u64 0, .int .u64 0, .int .u64 0, .int .u64 0, .int .u64 0, .int .u64 0, .int .i64 0, .int .u32 0, .int .i64 0, .int .i64 0, .int .i64 0, .int .u64 0, .int .i64 0, .int .i64 0, .int .u64 0, .slice none 0 0, .bool false, .int .i64 0, .slice none 0 0, .slice none 0 0, .slice none 0 0] 48 (0, 0)) := ⟨_, rfl⟩
    rw [← hW] at h1' h2 hkk
    have HK := Lib.hid hkk
    have HW := Lib.hid hW
    have HTEN : Hid (∀ w', Kept NoB W w' → (w'.cell? ⟨w.heap.size, 0, none⟩ = some (.int .i64 0) ∧ w'.cell? ⟨w.heap.size, 1, none⟩ = some (.int .i64 0) ∧ w'.cell? ⟨w.heap.size, 2, none⟩ = some (.int .i64 0) ∧ w'.cell? ⟨w.heap.size, 3, none⟩ = some (.int .i64 0) ∧ w'.cell? ⟨w.heap.size, 4, none⟩ = some (.int .u64 0) ∧ w'.cell? ⟨w.heap.size, 5, none⟩ = some (.int .u64 0) ∧ w'.cell? ⟨w.heap.size, 6, none⟩ = some (.int .u64 0) ∧ w'.cell? ⟨w.heap.size, 7, none⟩ = some (.int .u64 0) ∧ w'.cell? ⟨w.heap.size, 8, none⟩ = some (.int .u64 0) ∧ w'.cell? ⟨w.heap.size, 9, none⟩ = some (.int .u64 0) ∧ w'.cell? ⟨w.heap.size, 10, none⟩ = some (.int .i64 sl) ∧ w'.cell? ⟨w.heap.size, 11, none⟩ = some (.int .u32 ke) ∧ w'.cell? ⟨w.heap.size, 12, none⟩ = some (.int .i64 co) ∧ w'.cell? ⟨w.heap.size, 13, none⟩ = some (.int .i64 ck) ∧ w'.cell? ⟨w.heap.size, 14, none⟩ = some (.int .i64 cc) ∧ w'.cell? ⟨w.heap.size, 15, none⟩ = some (.int .u64 ce) ∧ w'.cell? ⟨w.heap.size, 16, none⟩ = some (.int .i64 cn) ∧ w'.cell? ⟨w.heap.size, 17, none⟩ = some (.int .i64 gc) ∧ w'.cell? ⟨w.heap.size, 18, none⟩ = some (.int .u64 ge) ∧ w'.cell? ⟨w.heap.size, 19, none⟩ = some (.slice ga c.ns.length gcp) ∧ w'.cell? ⟨w.heap.size, 20, none⟩ = some (.bool gf) ∧ w'.cell? ⟨w.heap.size, 21, none⟩ = some (.int .i64 gj) ∧ w'.cell? ⟨w.heap.size, 22, none⟩ = some (.slice va c.vs.length vcp) ∧ w'.cell? ⟨w.heap.size, 23, none⟩ = some (.slice ua c.us.length ucp) ∧ w'.cell? ⟨w.heap.size, 24, none⟩ = some (.slice dda c.ds.length dcp)) ∧ (w'.cell? ⟨w.heap.size + 1, 0, none⟩ = some (.int .i64 0) ∧ w'.cell? ⟨w.heap.size + 1, 1, none⟩ = some (.int .i64 0) ∧ w'.cell? ⟨w.heap.size + 1, 2, none⟩ = some (.int .i64 0) ∧ w'.cell? ⟨w.heap.size + 1, 3, none⟩ = some (.int .i64 0) ∧ w'.cell? ⟨w.heap.size + 1, 4, none⟩ = some (.int .u64 0) ∧ w'.cell? ⟨w.heap.size + 1, 5, none⟩ = some (.int .u64 0) ∧ w'.cell? ⟨w.heap.size + 1, 6, none⟩ = some (.int .u64 0) ∧ w'.cell? ⟨w.heap.size + 1, 7, none⟩ = some (.int .u64 0) ∧ w'.cell? ⟨w.heap.size + 1, 8, none⟩ = some (.int .u64 0) ∧ w'.cell? ⟨w.heap.size + 1, 9, none⟩ = some (.int .u64 0) ∧ w'.cell? ⟨w.heap.size + 1, 10, none⟩ = some (.int .i64 0) ∧ w'.cell? ⟨w.heap.size + 1, 11, none⟩ = some (.int .u32 0) ∧ w'.cell? ⟨w.heap.size + 1, 12, none⟩ = some (.int .i64 0) ∧ w'.cell? ⟨w.heap.size + 1, 13, none⟩ = some (.int .i64 0) ∧ w'.cell? ⟨w.heap.size + 1, 14, none⟩ = some (.int .i64 0) ∧ w'.cell? ⟨w.heap.size + 1, 15, none⟩ = some (.int .u64 0) ∧ w'.cell? ⟨w.heap.size + 1, 16, none⟩ = some (.int .i64 0) ∧ w'.cell? ⟨w.heap.size + 1, 17, none⟩ = some (.int .i64 0) ∧ w'.cell? ⟨w.heap.size + 1, 18, none⟩ = some (.int .u64 0) ∧ w'.cell? ⟨w.heap.size + 1, 19, none⟩ = some (.slice none 0 0) ∧ w'.cell? ⟨w.heap.size + 1, 20, none⟩ = some (.bool false) ∧ w'.cell? ⟨w.heap.size + 1, 21, none⟩ = some (.int .i64 0) ∧ w'.cell? ⟨w.heap.size + 1, 22, none⟩ = some (.slice none 0 0) ∧ w'.cell? ⟨w.heap.size + 1, 23, none⟩ = some (.slice none 0 0) ∧ w'.cell? ⟨w.heap.size + 1, 24, none⟩ = some (.slice none 0 0))) := Lib.hid (fun w' hk => ⟨cells25 (hk.heap (fun h => h) h1'), cells25 (hk.heap (fun h => h) h2)⟩)
    clear h1 h1' h2 hkk hW
    go_enter Tryz.func40, Tryz.ntmps40
    go_wp2_with fail
    try rw [← HW.out]
    obtain ⟨⟨c0, c1, c2, c3, c4, c5, c6, c7, c8, c9, c10, c11, c12, c13, c14, c15, c16, c17, c18, c19, c20, c21, c22, c23, c24⟩, ⟨d0, d1, d2, d3, d4, d5, d6, d7, d8, d9, d10, d11, d12, d13, d14, d15, d16, d17, d18, d19, d20, d21, d22, d23, d24⟩⟩ := HTEN.out W (Kept.refl _ _)
    go_wp2
    go_ret
    exact ⟨by rw [HR.out]; rfl, HK.out⟩
  subst q7
  by_cases q8 : ke = 0
  rotate_left
  · as_aux_lemma =>
    have e : (ke == 0) = false := by simpa using q8
    have HR : Hid (rb = false) := Lib.hid (by rw [HRB.out, decide_eq_false (fun h => q8 h.2.2.2.2.2.2.2.2.1)]; rfl)
    clear q8 HRB HCS HVS HUS HDS hs1 hs2 hs3 hs4 hs5
    have h1 := heap_alloc_new w (.cells #[.int .i64 0, .int .i64 0, .int .i64 0, .int .i64 0, .int .u64 0, .int .u64 0, .int .u64 0, .int .u64 0, .int .u64 0, .int .u64 0, .int .i64 0, .int .u32 ke, .int .i64 co, .int .i64 ck, .int .i64 cc, .int .u64 ce, .int .i64 cn, .int .i64 gc, .int .u64 ge, .slice ga c.ns.length gcp, .bool gf, .int .i64 gj, .slice va c.vs.length vcp, .slice ua c.us.length ucp, .slice dda c.ds.length dcp] 48 (0, 0))
    have h1' := blkU_alloc h1 (.cells #[.int .i64 0, .int .i64 0, .int .i64 0, .int .i64 0, .int .u64 0, .int .u64 0, .int .u64 0, .int .u64 0, .int .u64 0, .int .u64 0, .int .i64 0, .int .u32 0, .int .i64 0, .int .i64 0, .int .i64 0, .int .u64 0, .int .i64 0, .int .i64 0, .int .u64 0, .slice none 0 0, .bool false, .int .i64 0, .slice none 0 0, .slice none 0 0, .slice none 0 0] 48 (0, 0))
    have h2 := heap_alloc_new (w.alloc (.cells #[.int .i64 0, .int .i64 0, .int .i64 0, .int .i64 0, .int .u64 0, .int .u64 0, .int .u64 0, .int .u64 0, .int .u64 0, .int .u64 0, .int .i64 0, .int .u32 ke, .int .i64 co, .int .i64 ck, .int .i64 cc, .int .u64 ce, .int .i64 cn, .int .i64 gc, .int .u64 ge, .slice ga c.ns.length gcp, .bool gf, .int .i64 gj, .slice va c.vs.length vcp, .slice ua c.us.length ucp, .slice dda c.ds.length dcp] 48 (0, 0))) (.cells #[.int .i64 0, .int .i64 0, .int .i64 0, .int .i64 0, .int .u64 0, .int .u64 0, .int .u64 0, .int .u64 0, .int .u64 0, .int .u64 0, .int .i64 0, .int .u32 0, .int .i64 0, .int .i64 0, .int .i64 0, .int .u64 0, .int .i64 0, .int .i64 0, .int .u64 0, .slice none 0 0, .bool false, .int .i64 0, .slice none 0 0, .slice none 0 0, .slice none 0 0] 48 (0, 0))
    rw [show (w.alloc (.cells #[.int .i64 0, .int .i64 0, .int .i64 0, .int .i64 0, .int .u64 0, .int .u64 0, .int .u64 0, .int .u64 0, .int .u64 0, .int .u64 0, .int .i64 0, .int .u32 ke, .int .i64 co, .int .i64 ck, .int .i64 cc, .int .u64 ce, .int .i64 cn, .int .i64 gc, .int .u64 ge, .slice ga c.ns.length gcp, .bool gf, .int .i64 gj, .slice va c.vs.length vcp, .slice ua c.us.length ucp, .slice dda c.ds.length dcp] 48 (0, 0))).heap.size = w.heap.size + 1 by simp] at h2
    have hkk := ((Kept.refl NoB w).alloc (.cells #[.int .i64 0, .int .i64 0, .int .i64 0, .int .i64 0, .int .u64 0, .int .u64 0, .int .u64 0, .int .u64 0, .int .u64 0, .int .u64 0, .int .i64 0, .int .u32 ke, .int .i64 co, .int .i64 ck, .int .i64 cc, .int .u64 ce, .int .i64 cn, .int .i64 gc, .int .u64 ge, .slice ga c.ns.length gcp, .bool gf, .int .i64 gj, .slice va c.vs.length vcp, .slice ua c.us.length ucp, .slice dda c.ds.length dcp] 48 (0, 0))).alloc (.cells #[.int .i64 0, .int .i64 0, .int .i64 0, .int .i64 0, .int .u64 0, .int .u64 0, .int .u64 0, .int .u64 0, .int .u64 0, .int .u64 0, .int .i64 0, .int .u32 0, .int .i64 0, .int .i64 0, .int .i64 0, .int .u64 0, .int .i64 0, .int .i64 0, .int .u64 0, .slice none 0 0, .bool false, .int .i64 0, .slice none 0 0, .slice none 0 0, .slice none 0 0] 48 (0, 0))
    obtain ⟨W, hW⟩ : ∃ W, W = (w.alloc (.cells #[.int .i64 0, .int .i64 0, .int .i64 0, .int .i64 0, .int .u64 0, .int .u64 0, .int .u64 0, .int .u64 0, .int .u64 0, .int .u64 0, .int .i64 0, .int .u32 ke, .int .i64 co, .int .i64 ck, .int .i64 cc, .int .u64 ce, .int .i64 cn, .int .i64 gc, .int .u64 ge, .slice ga c.ns.length gcp, .bool gf, .int .i64 gj, .slice va c.vs.length vcp, .slice ua c.us.length ucp, .slice dda c.ds.length dcp] 48 (0, 0))).alloc (.cells #[.int .i64 0, .int .i64 0, .int .i64 0, .int .i64 0, .int .u64 0, .int .u64 0, .int .u64 0, .int .u64 0, .int .u64 0, .int .u64 0, .int .i64 0, .int .u32 0, .int .i64 0, .int .i64 0, .int .i64 0, .int .u64 0, .int .i64 0, .int .i64 0, .int .u64 0, .slice none 0 0, .bool false, .int .i64 0, .slice none 0 0, .slice none 0 0, .slice none 0 0] 48 (0, 0)) := ⟨_, rfl⟩
    rw [← hW] at h1' h2 hkk
    have HK := Lib.hid hkk
    have HW := Lib.hid hW
    have HTEN : Hid (∀ w', Kept NoB W w' → (w'.cell? ⟨w.heap.size, 0, none⟩ = some (.int .i64 0) ∧ w'.cell? ⟨w.heap.size, 1, none⟩ = some (.int .i64 0) ∧ w'.cell? ⟨w.heap.size, 2, none⟩ = some (.int .i64 0) ∧ w'.cell? ⟨w.heap.size, 3, none⟩ = some (.int .i64 0) ∧ w'.cell? ⟨w.heap.size, 4, none⟩ = some (.int .u64 0) ∧ w'.cell? ⟨w.heap.size, 5, none⟩ = some (.int .u64 0) ∧ w'.cell? ⟨w.heap.size, 6, none⟩ = some (.int .u64 0) ∧ w'.cell? ⟨w.heap.size, 7, none⟩ = some (.int .u64 0) ∧ w'.cell? ⟨w.heap.size, 8, none⟩ = some (.int .u64 0) ∧ w'.cell? ⟨w.heap.size, 9, none⟩ = some (.int .u64 0) ∧ w'.cell? ⟨w.heap.size, 10, none⟩ = some (.int .i64 0) ∧ w'.cell? ⟨w.heap.size, 11, none⟩ = some (.int .u32 ke) ∧ w'.cell? ⟨w.heap.size, 12, none⟩ = some (.int .i64 co) ∧ w'.cell? ⟨w.heap.size, 13, none⟩ = some (.int .i64 ck) ∧ w'.cell? ⟨w.heap.size, 14, none⟩ = some (.int .i64 cc) ∧ w'.cell? ⟨w.heap.size, 15, none⟩ = some (.int .u64 ce) ∧ w'.cell? ⟨w.heap.size, 16, none⟩ = some (.int .i64 cn) ∧ w'.cell? ⟨w.heap.size, 17, none⟩ = some (.int .i64 gc) ∧ w'.cell? ⟨w.heap.size, 18, none⟩ = some (.int .u64 ge) ∧ w'.cell? ⟨w.heap.size, 19, none⟩ = some (.slice ga c.ns.length gcp) ∧ w'.cell? ⟨w.heap.size, 20, none⟩ = some (.bool gf) ∧ w'.cell? ⟨w.heap.size, 21, none⟩ = some (.int .i64 gj) ∧ w'.cell? ⟨w.heap.size, 22, none⟩ = some (.slice va c.vs.length vcp) ∧ w'.cell? ⟨w.heap.size, 23, none⟩ = some (.slice ua c.us.length ucp) ∧ w'.cell? ⟨w.heap.size, 24, none⟩ = some (.slice dda c.ds.length dcp)) ∧ (w'.cell? ⟨w.heap.size + 1, 0, none⟩ = some (.int .i64 0) ∧ w'.cell? ⟨w.heap.size + 1, 1, none⟩ = some (.int .i64 0) ∧ w'.cell? ⟨w.heap.size + 1, 2, none⟩ = some (.int .i64 0) ∧ w'.cell? ⟨w.heap.size + 1, 3, none⟩ = some (.int .i64 0) ∧ w'.cell? ⟨w.heap.size + 1, 4, none⟩ = some (.int .u64 0) ∧ w'.cell? ⟨w.heap.size + 1, 5, none⟩ = some (.int .u64 0) ∧ w'.cell? ⟨w.heap.size + 1, 6, none⟩ = some (.int .u64 0) ∧ w'.cell? ⟨w.heap.size + 1, 7, none⟩ = some (.int .u64 0) ∧ w'.cell? ⟨w.heap.size + 1, 8, none⟩ = some (.int .u64 0) ∧ w'.cell? ⟨w.heap.size + 1, 9, none⟩ = some (.int .u64 0) ∧ w'.cell? ⟨w.heap.size + 1, 10, none⟩ = some (.int .i64 0) ∧ w'.cell? ⟨w.heap.size + 1, 11, none⟩ = some (.int .u32 0) ∧ w'.cell? ⟨w.heap.size + 1, 12, none⟩ = some (.int .i64 0) ∧ w'.cell? ⟨w.heap.size + 1, 13, none⟩ = some (.int .i64 0) ∧ w'.cell? ⟨w.heap.size + 1, 14, none⟩ = some (.int .i64 0) ∧ w'.cell? ⟨w.heap.size + 1, 15, none⟩ = some (.int .u64 0) ∧ w'.cell? ⟨w.heap.size + 1, 16, none⟩ = some (.int .i64 0) ∧ w'.cell? ⟨w.heap.size + 1, 17, none⟩ = some (.int .i64 0) ∧ w'.cell? ⟨w.heap.size + 1, 18, none⟩ = some (.int .u64 0) ∧ w'.cell? ⟨w.heap.size + 1, 19, none⟩ = some (.slice none 0 0) ∧ w'.cell? ⟨w.heap.size + 1, 20, none⟩ = some (.bool false) ∧ w'.cell? ⟨w.heap.size + 1, 21, none⟩ = some (.int .i64 0) ∧ w'.cell? ⟨w.heap.size + 1, 22, none⟩ = some (.slice none 0 0) ∧ w'.cell? ⟨w.heap.size + 1, 23, none⟩ = some (.slice none 0 0) ∧ w'.cell? ⟨w.heap.size + 1, 24, none⟩ = some (.slice none 0 0))) := Lib.hid (fun w' hk => ⟨cells25 (hk.heap (fun h => h) h1'), cells25 (hk.heap (fun h => h) h2)⟩)
    clear h1 h1' h2 hkk hW
    go_enter Tryz.func40, Tryz.ntmps40
    go_wp2_with fail
    try rw [← HW.out]
    obtain ⟨⟨c0, c1, c2, c3, c4, c5, c6, c7, c8, c9, c10, c11, c12, c13, c14, c15, c16, c17, c18, c19, c20, c21, c22, c23, c24⟩, ⟨d0, d1, d2, d3, d4, d5, d6, d7, d8, d9, d10, d11, d12, d13, d14, d15, d16, d17, d18, d19, d20, d21, d22, d23, d24⟩⟩ := HTEN.out W (Kept.refl _ _)
    go_wp2
    go_ret
    exact ⟨by rw [HR.out]; rfl, HK.out⟩
  subst q8
  by_cases q9 : co = 0
  rotate_left
  · as_aux_lemma =>
    have e : (co == 0) = false := by simpa using q9
    have HR : Hid (rb = false) := Lib.hid (by rw [HRB.out, decide_eq_false (fun h => q9 h.2.2.2.2.2.2.2.2.2)]; rfl)
    clear q9 HRB HCS HVS HUS HDS hs1 hs2 hs3 hs4 hs5
    have h1 := heap_alloc_new w (.cells #[.int .i64 0, .int .i64 0, .int .i64 0, .int .i64 0, .int .u64 0, .int .u64 0, .int .u64 0, .int .u64 0, .int .u64 0, .int .u64 0, .int .i64 0, .int .u32 0, .int .i64 co, .int .i64 ck, .int .i64 cc, .int .u64 ce, .int .i64 cn, .int .i64 gc, .int .u64 ge, .slice ga c.ns.length gcp, .bool gf, .int .i64 gj, .slice va c.vs.length vcp, .slice ua c.us.length ucp, .slice dda c.ds.length dcp] 48 (0, 0))
    have h1' := blkU_alloc h1 (.cells #[.int .i64 0, .int .i64 0, .int .i64 0, .int .i64 0, .int .u64 0, .int .u64 0, .int .u64 0, .int .u64 0, .int .u64 0, .int .u64 0, .int .i64 0, .int .u32 0, .int .i64 0, .int .i64 0, .int .i64 0, .int .u64 0, .int .i64 0, .int .i64 0, .int .u64 0, .slice none 0 0, .bool false, .int .i64 0, .slice none 0 0, .slice none 0 0, .slice none 0 0] 48 (0, 0))
    have h2 := heap_alloc_new (w.alloc (.cells #[.int .i64 0, .int .i64 0, .int .i64 0, .int .i64 0, .int .u64 0, .int .u64 0, .int .u64 0, .int .u64 0, .int .u64 0, .int .u64 0, .int .i64 0, .int .u32 0, .int .i64 co, .int .i64 ck, .int .i64 cc, .int .u64 ce, .int .i64 cn, .int .i64 gc, .int .u64 ge, .slice ga c.ns.length gcp, .bool gf, .int .i64 gj, .slice va c.vs.length vcp, .slice ua c.us.length ucp, .slice dda c.ds.length dcp] 48 (0, 0))) (.cells #[.int .i64 0, .int .i64 0, .int .i64 0, .int .i64 0, .int .u64 0, .int .u64 0, .int .u64 0, .int .u64 0, .int .u64 0, .int .u64 0, .int .i64 0, .int .u32 0, .int .i64 0, .int .i64 0, .int .i64 0, .int .u64 0, .int .i64 0, .int .i64 0, .int .u64 0, .slice none 0 0, .bool false, .int .i64 0, .slice none 0 0, .slice none 0 0, .slice none 0 0] 48 (0, 0))
    rw [show (w.alloc (.cells #[.int .i64 0, .int .i64 0, .int .i64 0, .int .i64 0, .int .u64 0, .int .u64 0, .int .u64 0, .int .u64 0, .int .u64 0, .int .u64 0, .int .i64 0, .int .u32 0, .int .i64 co, .int .i64 ck, .int .i64 cc, .int .u64 ce, .int .i64 cn, .int .i64 gc, .int .u64 ge, .slice ga c.ns.length gcp, .bool gf, .int .i64 gj, .slice va c.vs.length vcp, .slice ua c.us.length ucp, .slice dda c.ds.length dcp] 48 (0, 0))).heap.size = w.heap.size + 1 by simp] at h2
    have hkk := ((Kept.refl NoB w).alloc (.cells #[.int .i64 0, .int .i64 0, .int .i64 0, .int .i64 0, .int .u64 0, .int .u64 0, .int .u64 0, .int .u64 0, .int .u64 0, .int .u64 0, .int .i64 0, .int .u32 0, .int .i64 co, .int .i64 ck, .int .i64 cc, .int .u64 ce, .int .i64 cn, .int .i64 gc, .int .u64 ge, .slice ga c.ns.length gcp, .bool gf, .int .i64 gj, .slice va c.vs.length vcp, .slice ua c.us.length ucp, .slice dda c.ds.length dcp] 48 (0, 0))).alloc (.cells #[.int .i64 0, .int .i64 0, .int .i64 0, .int .i64 0, .int .u64 0, .int .u64 0, .int .u64 0, .int .u64 0, .int .u64 0, .int .u64 0, .int .i64 0, .int .u32 0, .int .i64 0, .int .i64 0, .int .i64 0, .int .u64 0, .int .i64 0, .int .i64 0, .int .u64 0, .slice none 0 0, .bool false, .int .i64 0, .slice none 0 0, .slice none 0 0, .slice none 0 0] 48 (0, 0))
    obtain ⟨W, hW⟩ : ∃ W, W = (w.alloc (.cells #[.int .i64 0, .int .i64 0, .int .i64 0, .int .i64 0, .int .u64 0, .int .u64 0, .int .u64 0, .int .u64 0, .int .u64 0, .int .u64 0, .int .i64 0, .int .u32 0, .int .i64 co, .int .i64 ck, .int .i64 cc, .int .u64 ce, .int .i64 cn, .int .i64 gc, .int .u64 ge, .slice ga c.ns.length gcp, .bool gf, .int .i64 gj, .slice va c.vs.length vcp, .slice ua c.us.length ucp, .slice dda c.ds.length dcp] 48 (0, 0))).alloc (.cells #[.int .i64 0, .int .i64 0, .int .i64 0, .int .i64 0, .int .u64 0, .int .u64 0, .int .u64 0, .int .u64 0, .int .u64 0, .int .u64 0, .int .i64 0, .int .u32 0, .int .i64 0, .int .i64 0, .int .i64 0, .int .u64 0, .int .i64 0, .int .i64 0, .int .u64 0, .slice none 0 0, .bool false, .int .i64 0, .slice none 0 0, .slice none 0 0, .slice none 0 0] 48 (0, 0)) := ⟨_, rfl⟩
    rw [← hW] at h1' h2 hkk
    have HK := Lib.hid hkk
    have HW := Lib.hid hW
    have HTEN : Hid (∀ w', Kept NoB W w' → (w'.cell? ⟨w.heap.size, 0, none⟩ = some (.int .i64 0) ∧ w'.cell? ⟨w.heap.size, 1, none⟩ = some (.int .i64 0) ∧ w'.cell? ⟨w.heap.size, 2, none⟩ = some (.int .i64 0) ∧ w'.cell? ⟨w.heap.size, 3, none⟩ = some (.int .i64 0) ∧ w'.cell? ⟨w.heap.size, 4, none⟩ = some (.int .u64 0) ∧ w'.cell? ⟨w.heap.size, 5, none⟩ = some (.int .u64 0) ∧ w'.cell? ⟨w.heap.size, 6, none⟩ = some (.int .u64 0) ∧ w'.cell? ⟨w.heap.size, 7, none⟩ = some (.int .u64 0) ∧ w'.cell? ⟨w.heap.size, 8, none⟩ = some (.int .u64 0) ∧ w'.cell? ⟨w.heap.size, 9, none⟩ = some (.int .u64 0) ∧ w'.cell? ⟨w.heap.size, 10, none⟩ = some (.int .i64 0) ∧ w'.cell? ⟨w.heap.size, 11, none⟩ = some (.int .u32 0) ∧ w'.cell? ⟨w.heap.size, 12, none⟩ = some (.int .i64 co) ∧ w'.cell? ⟨w.heap.size, 13, none⟩ = some (.int .i64 ck) ∧ w'.cell? ⟨w.heap.size, 14, none⟩ = some (.int .i64 cc) ∧ w'.cell? ⟨w.heap.size, 15, none⟩ = some (.int .u64 ce) ∧ w'.cell? ⟨w.heap.size, 16, none⟩ = some (.int .i64 cn) ∧ w'.cell? ⟨w.heap.size, 17, none⟩ = some (.int .i64 gc) ∧ w'.cell? ⟨w.heap.size, 18, none⟩ = some (.int .u64 ge) ∧ w'.cell? ⟨w.heap.size, 19, none⟩ = some (.slice ga c.ns.length gcp) ∧ w'.cell? ⟨w.heap.size, 20, none⟩ = some (.bool gf) ∧ w'.cell? ⟨w.heap.size, 21, none⟩ = some (.int .i64 gj) ∧ w'.cell? ⟨w.heap.size, 22, none⟩ = some (.slice va c.vs.length vcp) ∧ w'.cell? ⟨w.heap.size, 23, none⟩ = some (.slice ua c.us.length ucp) ∧ w'.cell? ⟨w.heap.size, 24, none⟩ = some (.slice dda c.ds.length dcp)) ∧ (w'.cell? ⟨w.heap.size + 1, 0, none⟩ = some (.int .i64 0) ∧ w'.cell? ⟨w.heap.size + 1, 1, none⟩ = some (.int .i64 0) ∧ w'.cell? ⟨w.heap.size + 1, 2, none⟩ = some (.int .i64 0) ∧ w'.cell? ⟨w.heap.size + 1, 3, none⟩ = some (.int .i64 0) ∧ w'.cell? ⟨w.heap.size + 1, 4, none⟩ = some (.int .u64 0) ∧ w'.cell? ⟨w.heap.size + 1, 5, none⟩ = some (.int .u64 0) ∧ w'.cell? ⟨w.heap.size + 1, 6, none⟩ = some (.int .u64 0) ∧ w'.cell? ⟨w.heap.size + 1, 7, none⟩ = some (.int .u64 0) ∧ w'.cell? ⟨w.heap.size + 1, 8, none⟩ = some (.int .u64 0) ∧ w'.cell? ⟨w.heap.size + 1, 9, none⟩ = some (.int .u64 0) ∧ w'.cell? ⟨w.heap.size + 1, 10, none⟩ = some (.int .i64 0) ∧ w'.cell? ⟨w.heap.size + 1, 11, none⟩ = some (.int .u32 0) ∧ w'.cell? ⟨w.heap.size + 1, 12, none⟩ = some (.int .i64 0) ∧ w'.cell? ⟨w.heap.size + 1, 13, none⟩ = some (.int .i64 0) ∧ w'.cell? ⟨w.heap.size + 1, 14, none⟩ = some (.int .i64 0) ∧ w'.cell? ⟨w.heap.size + 1, 15, none⟩ = some (.int .u64 0) ∧ w'.cell? ⟨w.heap.size + 1, 16, none⟩ = some (.int .i64 0) ∧ w'.cell? ⟨w.heap.size + 1, 17, none⟩ = some (.int .i64 0) ∧ w'.cell? ⟨w.heap.size + 1, 18, none⟩ = some (.int .u64 0) ∧ w'.cell? ⟨w.heap.size + 1, 19, none⟩ = some (.slice none 0 0) ∧ w'.cell? ⟨w.heap.size + 1, 20, none⟩ = some (.bool false) ∧ w'.cell? ⟨w.heap.size + 1, 21, none⟩ = some (.int .i64 0) ∧ w'.cell? ⟨w.heap.size + 1, 22, none⟩ = some (.slice none 0 0) ∧ w'.cell? ⟨w.heap.size + 1, 23, none⟩ = some (.slice none 0 0) ∧ w'.cell? ⟨w.heap.size + 1, 24, none⟩ = some (.slice none 0 0))) := Lib.hid (fun w' hk => ⟨cells25 (hk.heap (fun h => h) h1'), cells25 (hk.heap (fun h => h) h2)⟩)
    clear h1 h1' h2 hkk hW
    go_enter Tryz.func40, Tryz.ntmps40
    go_wp2_with fail
    try rw [← HW.out]
    obtain ⟨⟨c0, c1, c2, c3, c4, c5, c6, c7, c8, c9, c10, c11, c12, c13, c14, c15, c16, c17, c18, c19, c20, c21, c22, c23, c24⟩, ⟨d0, d1, d2, d3, d4, d5, d6, d7, d8, d9, d10, d11, d12, d13, d14, d15, d16, d17, d18, d19, d20, d21, d22, d23, d24⟩⟩ := HTEN.out W (Kept.refl _ _)
    go_wp2
    go_ret
    exact ⟨by rw [HR.out]; rfl, HK.out⟩
  subst q9
  have HRB2 : Hid (rb = (s1 && (s2 && (s3 && (s4 && s5))))) := Lib.hid (by rw [HRB.out, decide_eq_true ⟨rfl, rfl, rfl, rfl, rfl, rfl, rfl, rfl, rfl, rfl⟩]; rfl)
  clear HRB hs1 hs2 hs3 hs4 hs5
  by_cases qc : ck = 0 ∧ cc = 0 ∧ ce = 0 ∧ cn = 0
  rotate_left
  · as_aux_lemma =>
    have HR : Hid (rb = false) := Lib.hid (by rw [HRB2.out, HS1.out, decide_eq_false qc]; rfl)
    have HQC := Lib.hid qc
    clear qc HRB2 HCS HVS HUS HDS
    have h1 := heap_alloc_new w (.cells #[.int .i64 0, .int .i64 0, .int .i64 0, .int .i64 0, .int .u64 0, .int .u64 0, .int .u64 0, .int .u64 0, .int .u64 0, .int .u64 0, .int .i64 0, .int .u32 0, .int .i64 0, .int .i64 ck, .int .i64 cc, .int .u64 ce, .int .i64 cn, .int .i64 gc, .int .u64 ge, .slice ga c.ns.length gcp, .bool gf, .int .i64 gj, .slice va c.vs.length vcp, .slice ua c.us.length ucp, .slice dda c.ds.length dcp] 48 (0, 0))
    have h1' := blkU_alloc h1 (.cells #[.int .i64 0, .int .i64 0, .int .i64 0, .int .i64 0, .int .u64 0, .int .u64 0, .int .u64 0, .int .u64 0, .int .u64 0, .int .u64 0, .int .i64 0, .int .u32 0, .int .i64 0, .int .i64 0, .int .i64 0, .int .u64 0, .int .i64 0, .int .i64 0, .int .u64 0, .slice none 0 0, .bool false, .int .i64 0, .slice none 0 0, .slice none 0 0, .slice none 0 0] 48 (0, 0))
    have h2 := heap_alloc_new (w.alloc (.cells #[.int .i64 0, .int .i64 0, .int .i64 0, .int .i64 0, .int .u64 0, .int .u64 0, .int .u64 0, .int .u64 0, .int .u64 0, .int .u64 0, .int .i64 0, .int .u32 0, .int .i64 0, .int .i64 ck, .int .i64 cc, .int .u64 ce, .int .i64 cn, .int .i64 gc, .int .u64 ge, .slice ga c.ns.length gcp, .bool gf, .int .i64 gj, .slice va c.vs.length vcp, .slice ua c.us.length ucp, .slice dda c.ds.length dcp] 48 (0, 0))) (.cells #[.int .i64 0, .int .i64 0, .int .i64 0, .int .i64 0, .int .u64 0, .int .u64 0, .int .u64 0, .int .u64 0, .int .u64 0, .int .u64 0, .int .i64 0, .int .u32 0, .int .i64 0, .int .i64 0, .int .i64 0, .int .u64 0, .int .i64 0, .int .i64 0, .int .u64 0, .slice none 0 0, .bool false, .int .i64 0, .slice none 0 0, .slice none 0 0, .slice none 0 0] 48 (0, 0))
    rw [show (w.alloc (.cells #[.int .i64 0, .int .i64 0, .int .i64 0, .int .i64 0, .int .u64 0, .int .u64 0, .int .u64 0, .int .u64 0, .int .u64 0, .int .u64 0, .int .i64 0, .int .u32 0, .int .i64 0, .int .i64 ck, .int .i64 cc, .int .u64 ce, .int .i64 cn, .int .i64 gc, .int .u64 ge, .slice ga c.ns.length gcp, .bool gf, .int .i64 gj, .slice va c.vs.length vcp, .slice ua c.us.length ucp, .slice dda c.ds.length dcp] 48 (0, 0))).heap.size = w.heap.size + 1 by simp] at h2
    have hkk := ((Kept.refl NoB w).alloc (.cells #[.int .i64 0, .int .i64 0, .int .i64 0, .int .i64 0, .int .u64 0, .int .u64 0, .int .u64 0, .int .u64 0, .int .u64 0, .int .u64 0, .int .i64 0, .int .u32 0, .int .i64 0, .int .i64 ck, .int .i64 cc, .int .u64 ce, .int .i64 cn, .int .i64 gc, .int .u64 ge, .slice ga c.ns.length gcp, .bool gf, .int .i64 gj, .slice va c.vs.length vcp, .slice ua c.us.length ucp, .slice dda c.ds.length dcp] 48 (0, 0))).alloc (.cells #[.int .i64 0, .int .i64 0, .int .i64 0, .int .i64 0, .int .u64 0, .int .u64 0, .int .u64 0, .int .u64 0, .int .u64 0, .int .u64 0, .int .i64 0, .int .u32 0, .int .i64 0, .int .i64 0, .int .i64 0, .int .u64 0, .int .i64 0, .int .i64 0, .int .u64 0, .slice none 0 0, .bool false, .int .i64 0, .slice none 0 0, .slice none 0 0, .slice none 0 0] 48 (0, 0))
    obtain ⟨W, hW⟩ : ∃ W, W = (w.alloc (.cells #[.int .i64 0, .int .i64 0, .int .i64 0, .int .i64 0, .int .u64 0, .int .u64 0, .int .u64 0, .int .u64 0, .int .u64 0, .int .u64 0, .int .i64 0, .int .u32 0, .int .i64 0, .int .i64 ck, .int .i64 cc, .int .u64 ce, .int .i64 cn, .int .i64 gc, .int .u64 ge, .slice ga c.ns.length gcp, .bool gf, .int .i64 gj, .slice va c.vs.length vcp, .slice ua c.us.length ucp, .slice dda c.ds.length dcp] 48 (0, 0))).alloc (.cells #[.int .i64 0, .int .i64 0, .int .i64 0, .int .i64 0, .int .u64 0, .int .u64 0, .int .u64 0, .int .u64 0, .int .u64 0, .int .u64 0, .int .i64 0, .int .u32 0, .int .i64 0, .int .i64 0, .int .i64 0, .int .u64 0, .int .i64 0, .int .i64 0, .int .u64 0, .slice none 0 0, .bool false, .int .i64 0, .slice none 0 0, .slice none 0 0, .slice none 0 0] 48 (0, 0)) := ⟨_, rfl⟩
    rw [← hW] at h1' h2 hkk
    have HK := Lib.hid hkk
    have HW := Lib.hid hW
    have HTEN : Hid (∀ w', Kept NoB W w' → (w'.cell? ⟨w.heap.size, 0, none⟩ = some (.int .i64 0) ∧ w'.cell? ⟨w.heap.size, 1, none⟩ = some (.int .i64 0) ∧ w'.cell? ⟨w.heap.size, 2, none⟩ = some (.int .i64 0) ∧ w'.cell? ⟨w.heap.size, 3, none⟩ = some (.int .i64 0) ∧ w'.cell? ⟨w.heap.size, 4, none⟩ = some (.int .u64 0) ∧ w'.cell? ⟨w.heap.size, 5, none⟩ = some (.int .u64 0) ∧ w'.cell? ⟨w.heap.size, 6, none⟩ = some (.int .u64 0) ∧ w'.cell? ⟨w.heap.size, 7, none⟩ = some (.int .u64 0) ∧ w'.cell? ⟨w.heap.size, 8, none⟩ = some (.int .u64 0) ∧ w'.cell? ⟨w.heap.size, 9, none⟩ = some (.int .u64 0) ∧ w'.cell? ⟨w.heap.size, 10, none⟩ = some (.int .i64 0) ∧ w'.cell? ⟨w.heap.size, 11, none⟩ = some (.int .u32 0) ∧ w'.cell? ⟨w.heap.size, 12, none⟩ = some (.int .i64 0) ∧ w'.cell? ⟨w.heap.size, 13, none⟩ = some (.int .i64 ck) ∧ w'.cell? ⟨w.heap.size, 14, none⟩ = some (.int .i64 cc) ∧ w'.cell? ⟨w.heap.size, 15, none⟩ = some (.int .u64 ce) ∧ w'.cell? ⟨w.heap.size, 16, none⟩ = some (.int .i64 cn) ∧ w'.cell? ⟨w.heap.size, 17, none⟩ = some (.int .i64 gc) ∧ w'.cell? ⟨w.heap.size, 18, none⟩ = some (.int .u64 ge) ∧ w'.cell? ⟨w.heap.size, 19, none⟩ = some (.slice ga c.ns.length gcp) ∧ w'.cell? ⟨w.heap.size, 20, none⟩ = some (.bool gf) ∧ w'.cell? ⟨w.heap.size, 21, none⟩ = some (.int .i64 gj) ∧ w'.cell? ⟨w.heap.size, 22, none⟩ = some (.slice va c.vs.length vcp) ∧ w'.cell? ⟨w.heap.size, 23, none⟩ = some (.slice ua c.us.length ucp) ∧ w'.cell? ⟨w.heap.size, 24, none⟩ = some (.slice dda c.ds.length dcp)) ∧ (w'.cell? ⟨w.heap.size + 1, 0, none⟩ = some (.int .i64 0) ∧ w'.cell? ⟨w.heap.size + 1, 1, none⟩ = some (.int .i64 0) ∧ w'.cell? ⟨w.heap.size + 1, 2, none⟩ = some (.int .i64 0) ∧ w'.cell? ⟨w.heap.size + 1, 3, none⟩ = some (.int .i64 0) ∧ w'.cell? ⟨w.heap.size + 1, 4, none⟩ = some (.int .u64 0) ∧ w'.cell? ⟨w.heap.size + 1, 5, none⟩ = some (.int .u64 0) ∧ w'.cell? ⟨w.heap.size + 1, 6, none⟩ = some (.int .u64 0) ∧ w'.cell? ⟨w.heap.size + 1, 7, none⟩ = some (.int .u64 0) ∧ w'.cell? ⟨w.heap.size + 1, 8, none⟩ = some (.int .u64 0) ∧ w'.cell? ⟨w.heap.size + 1, 9, none⟩ = some (.int .u64 0) ∧ w'.cell? ⟨w.heap.size + 1, 10, none⟩ = some (.int .i64 0) ∧ w'.cell? ⟨w.heap.size + 1, 11, none⟩ = some (.int .u32 0) ∧ w'.cell? ⟨w.heap.size + 1, 12, none⟩ = some (.int .i64 0) ∧ w'.cell? ⟨w.heap.size + 1, 13, none⟩ = some (.int .i64 0) ∧ w'.cell? ⟨w.heap.size + 1, 14, none⟩ = some (.int .i64 0) ∧ w'.cell? ⟨w.heap.size + 1, 15, none⟩ = some (.int .u64 0) ∧ w'.cell? ⟨w.heap.size + 1, 16, none⟩ = some (.int .i64 0) ∧ w'.cell? ⟨w.heap.size + 1, 17, none⟩ = some (.int .i64 0) ∧ w'.cell? ⟨w.heap.size + 1, 18, none⟩ = some (.int .u64 0) ∧ w'.cell? ⟨w.heap.size + 1, 19, none⟩ = some (.slice none 0 0) ∧ w'.cell? ⟨w.heap.size + 1, 20, none⟩ = some (.bool false) ∧ w'.cell? ⟨w.heap.size + 1, 21, none⟩ = some (.int .i64 0) ∧ w'.cell? ⟨w.heap.size + 1, 22, none⟩ = some (.slice none 0 0) ∧ w'.cell? ⟨w.heap.size + 1, 23, none⟩ = some (.slice none 0 0) ∧ w'.cell? ⟨w.heap.size + 1, 24, none⟩ = some (.slice none 0 0))) := Lib.hid (fun w' hk => ⟨cells25 (hk.heap (fun h => h) h1'), cells25 (hk.heap (fun h => h) h2)⟩)
    clear h1 h1' h2 hkk hW
    go_enter Tryz.func40, Tryz.ntmps40
    go_wp2_with fail
    try rw [← HW.out]
    obtain ⟨⟨c0, c1, c2, c3, c4, c5, c6, c7, c8, c9, c10, c11, c12, c13, c14, c15, c16, c17, c18, c19, c20, c21, c22, c23, c24⟩, ⟨d0, d1, d2, d3, d4, d5, d6, d7, d8, d9, d10, d11, d12, d13, d14, d15, d16, d17, d18, d19, d20, d21, d22, d23, d24⟩⟩ := HTEN.out W (Kept.refl _ _)
    go_wp2_with fail
    all_goals first
    | exact absurd (And.intro (by assumption) (And.intro (by assumption) (And.intro (by assumption) (by assumption)))) HQC.out
    | (go_ret; exact ⟨by rw [HR.out]; rfl, ((Kept.refl NoB w).alloc _).alloc _⟩)
  obtain ⟨rfl, rfl, rfl, rfl⟩ := qc
  have HRB3 : Hid (rb = (s2 && (s3 && (s4 && s5)))) := Lib.hid (by rw [HRB2.out, HS1.out]; rfl)
  clear HRB2 HS1
  have h1 := heap_alloc_new w (.cells #[.int .i64 0, .int .i64 0, .int .i64 0, .int .i64 0, .int .u64 0, .int .u64 0, .int .u64 0, .int .u64 0, .int .u64 0, .int .u64 0, .int .i64 0, .int .u32 0, .int .i64 0, .int .i64 0, .int .i64 0, .int .u64 0, .int .i64 0, .int .i64 gc, .int .u64 ge, .slice ga c.ns.length gcp, .bool gf, .int .i64 gj, .slice va c.vs.length vcp, .slice ua c.us.length ucp, .slice dda c.ds.length dcp] 48 (0, 0))
  have h1' := blkU_alloc h1 (.cells #[.int .i64 0, .int .i64 0, .int .i64 0, .int .i64 0, .int .u64 0, .int .u64 0, .int .u64 0, .int .u64 0, .int .u64 0, .int .u64 0, .int .i64 0, .int .u32 0, .int .i64 0, .int .i64 0, .int .i64 0, .int .u64 0, .int .i64 0, .int .i64 0, .int .u64 0, .slice none 0 0, .bool false, .int .i64 0, .slice none 0 0, .slice none 0 0, .slice none 0 0] 48 (0, 0))
  have h2 := heap_alloc_new (w.alloc (.cells #[.int .i64 0, .int .i64 0, .int .i64 0, .int .i64 0, .int .u64 0, .int .u64 0, .int .u64 0, .int .u64 0, .int .u64 0, .int .u64 0, .int .i64 0, .int .u32 0, .int .i64 0, .int .i64 0, .int .i64 0, .int .u64 0, .int .i64 0, .int .i64 gc, .int .u64 ge, .slice ga c.ns.length gcp, .bool gf, .int .i64 gj, .slice va c.vs.length vcp, .slice ua c.us.length ucp, .slice dda c.ds.length dcp] 48 (0, 0))) (.cells #[.int .i64 0, .int .i64 0, .int .i64 0, .int .i64 0, .int .u64 0, .int .u64 0, .int .u64 0, .int .u64 0, .int .u64 0, .int .u64 0, .int .i64 0, .int .u32 0, .int .i64 0, .int .i64 0, .int .i64 0, .int .u64 0, .int .i64 0, .int .i64 0, .int .u64 0, .slice none 0 0, .bool false, .int .i64 0, .slice none 0 0, .slice none 0 0, .slice none 0 0] 48 (0, 0))
  rw [show (w.alloc (.cells #[.int .i64 0, .int .i64 0, .int .i64 0, .int .i64 0, .int .u64 0, .int .u64 0, .int .u64 0, .int .u64 0, .int .u64 0, .int .u64 0, .int .i64 0, .int .u32 0, .int .i64 0, .int .i64 0, .int .i64 0, .int .u64 0, .int .i64 0, .int .i64 gc, .int .u64 ge, .slice ga c.ns.length gcp, .bool gf, .int .i64 gj, .slice va c.vs.length vcp, .slice ua c.us.length ucp, .slice dda c.ds.length dcp] 48 (0, 0))).heap.size = w.heap.size + 1 by simp] at h2
  have hkk := ((Kept.refl NoB w).alloc (.cells #[.int .i64 0, .int .i64 0, .int .i64 0, .int .i64 0, .int .u64 0, .int .u64 0, .int .u64 0, .int .u64 0, .int .u64 0, .int .u64 0, .int .i64 0, .int .u32 0, .int .i64 0, .int .i64 0, .int .i64 0, .int .u64 0, .int .i64 0, .int .i64 gc, .int .u64 ge, .slice ga c.ns.length gcp, .bool gf, .int .i64 gj, .slice va c.vs.length vcp, .slice ua c.us.length ucp, .slice dda c.ds.length dcp] 48 (0, 0))).alloc (.cells #[.int .i64 0, .int .i64 0, .int .i64 0, .int .i64 0, .int .u64 0, .int .u64 0, .int .u64 0, .int .u64 0, .int .u64 0, .int .u64 0, .int .i64 0, .int .u32 0, .int .i64 0, .int .i64 0, .int .i64 0, .int .u64 0, .int .i64 0, .int .i64 0, .int .u64 0, .slice none 0 0, .bool false, .int .i64 0, .slice none 0 0, .slice none 0 0, .slice none 0 0] 48 (0, 0))
  obtain ⟨W, hW⟩ : ∃ W, W = (w.alloc (.cells #[.int .i64 0, .int .i64 0, .int .i64 0, .int .i64 0, .int .u64 0, .int .u64 0, .int .u64 0, .int .u64 0, .int .u64 0, .int .u64 0, .int .i64 0, .int .u32 0, .int .i64 0, .int .i64 0, .int .i64 0, .int .u64 0, .int .i64 0, .int .i64 gc, .int .u64 ge, .slice ga c.ns.length gcp, .bool gf, .int .i64 gj, .slice va c.vs.length vcp, .slice ua c.us.length ucp, .slice dda c.ds.length dcp] 48 (0, 0))).alloc (.cells #[.int .i64 0, .int .i64 0, .int .i64 0, .int .i64 0, .int .u64 0, .int .u64 0, .int .u64 0, .int .u64 0, .int .u64 0, .int .u64 0, .int .i64 0, .int .u32 0, .int .i64 0, .int .i64 0, .int .i64 0, .int .u64 0, .int .i64 0, .int .i64 0, .int .u64 0, .slice none 0 0, .bool false, .int .i64 0, .slice none 0 0, .slice none 0 0, .slice none 0 0] 48 (0, 0)) := ⟨_, rfl⟩
  rw [← hW] at h1' h2 hkk
  have HK := Lib.hid hkk
  have HW := Lib.hid hW
  have HTEN : Hid (∀ w', Kept NoB W w' → (w'.cell? ⟨w.heap.size, 0, none⟩ = some (.int .i64 0) ∧ w'.cell? ⟨w.heap.size, 1, none⟩ = some (.int .i64 0) ∧ w'.cell? ⟨w.heap.size, 2, none⟩ = some (.int .i64 0) ∧ w'.cell? ⟨w.heap.size, 3, none⟩ = some (.int .i64 0) ∧ w'.cell? ⟨w.heap.size, 4, none⟩ = some (.int .u64 0) ∧ w'.cell? ⟨w.heap.size, 5, none⟩ = some (.int .u64 0) ∧ w'.cell? ⟨w.heap.size, 6, none⟩ = some (.int .u64 0) ∧ w'.cell? ⟨w.heap.size, 7, none⟩ = some (.int .u64 0) ∧ w'.cell? ⟨w.heap.size, 8, none⟩ = some (.int .u64 0) ∧ w'.cell? ⟨w.heap.size, 9, none⟩ = some (.int .u64 0) ∧ w'.cell? ⟨w.heap.size, 10, none⟩ = some (.int .i64 0) ∧ w'.cell? ⟨w.heap.size, 11, none⟩ = some (.int .u32 0) ∧ w'.cell? ⟨w.heap.size, 12, none⟩ = some (.int .i64 0) ∧ w'.cell? ⟨w.heap.size, 13, none⟩ = some (.int .i64 0) ∧ w'.cell? ⟨w.heap.size, 14, none⟩ = some (.int .i64 0) ∧ w'.cell? ⟨w.heap.size, 15, none⟩ = some (.int .u64 0) ∧ w'.cell? ⟨w.heap.size, 16, none⟩ = some (.int .i64 0) ∧ w'.cell? ⟨w.heap.size, 17, none⟩ = some (.int .i64 gc) ∧ w'.cell? ⟨w.heap.size, 18, none⟩ = some (.int .u64 ge) ∧ w'.cell? ⟨w.heap.size, 19, none⟩ = some (.slice ga c.ns.length gcp) ∧ w'.cell? ⟨w.heap.size, 20, none⟩ = some (.bool gf) ∧ w'.cell? ⟨w.heap.size, 21, none⟩ = some (.int .i64 gj) ∧ w'.cell? ⟨w.heap.size, 22, none⟩ = some (.slice va c.vs.length vcp) ∧ w'.cell? ⟨w.heap.size, 23, none⟩ = some (.slice ua c.us.length ucp) ∧ w'.cell? ⟨w.heap.size, 24, none⟩ = some (.slice dda c.ds.length dcp)) ∧ (w'.cell? ⟨w.heap.size + 1, 0, none⟩ = some (.int .i64 0) ∧ w'.cell? ⟨w.heap.size + 1, 1, none⟩ = some (.int .i64 0) ∧ w'.cell? ⟨w.heap.size + 1, 2, none⟩ = some (.int .i64 0) ∧ w'.cell? ⟨w.heap.size + 1, 3, none⟩ = some (.int .i64 0) ∧ w'.cell? ⟨w.heap.size + 1, 4, none⟩ = some (.int .u64 0) ∧ w'.cell? ⟨w.heap.size + 1, 5, none⟩ = some (.int .u64 0) ∧ w'.cell? ⟨w.heap.size + 1, 6, none⟩ = some (.int .u64 0) ∧ w'.cell? ⟨w.heap.size + 1, 7, none⟩ = some (.int .u64 0) ∧ w'.cell? ⟨w.heap.size + 1, 8, none⟩ = some (.int .u64 0) ∧ w'.cell? ⟨w.heap.size + 1, 9, none⟩ = some (.int .u64 0) ∧ w'.cell? ⟨w.heap.size + 1, 10, none⟩ = some (.int .i64 0) ∧ w'.cell? ⟨w.heap.size + 1, 11, none⟩ = some (.int .u32 0) ∧ w'.cell? ⟨w.heap.size + 1, 12, none⟩ = some (.int .i64 0) ∧ w'.cell? ⟨w.heap.size + 1, 13, none⟩ = some (.int .i64 0) ∧ w'.cell? ⟨w.heap.size + 1, 14, none⟩ = some (.int .i64 0) ∧ w'.cell? ⟨w.heap.size + 1, 15, none⟩ = some (.int .u64 0) ∧ w'.cell? ⟨w.heap.size + 1, 16, none⟩ = some (.int .i64 0) ∧ w'.cell? ⟨w.heap.size + 1, 17, none⟩ = some (.int .i64 0) ∧ w'.cell? ⟨w.heap.size + 1, 18, none⟩ = some (.int .u64 0) ∧ w'.cell? ⟨w.heap.size + 1, 19, none⟩ = some (.slice none 0 0) ∧ w'.cell? ⟨w.heap.size + 1, 20, none⟩ = some (.bool false) ∧ w'.cell? ⟨w.heap.size + 1, 21, none⟩ = some (.int .i64 0) ∧ w'.cell? ⟨w.heap.size + 1, 22, none⟩ = some (.slice none 0 0) ∧ w'.cell? ⟨w.heap.size + 1, 23, none⟩ = some (.slice none 0 0) ∧ w'.cell? ⟨w.heap.size + 1, 24, none⟩ = some (.slice none 0 0))) := Lib.hid (fun w' hk => ⟨cells25 (hk.heap (fun h => h) h1'), cells25 (hk.heap (fun h => h) h2)⟩)
  clear h1 h1' h2 hkk hW
  go_enter Tryz.func40, Tryz.ntmps40
  go_wp2_with fail
  try rw [← HW.out]
  obtain ⟨⟨c0, c1, c2, c3, c4, c5, c6, c7, c8, c9, c10, c11, c12, c13, c14, c15, c16, c17, c18, c19, c20, c21, c22, c23, c24⟩, ⟨d0, d1, d2, d3, d4, d5, d6, d7, d8, d9, d10, d11, d12, d13, d14, d15, d16, d17, d18, d19, d20, d21, d22, d23, d24⟩⟩ := HTEN.out W (Kept.refl _ _)
  go_wp2_with fail
  refine (HCS.out W HK.out).mono ?_
  rintro e w1 ⟨rfl, hk1⟩
  have HK1 := Lib.hid (hk1)
  clear hk1 c0 d0 c1 d1 c2 d2 c3 d3 c4 d4 c5 d5 c6 d6 c7 d7 c8 d8 c9 d9 c10 d10 c11 d11 c12 d12 c13 d13 c14 d14 c15 d15 c16 d16 c17 d17 c18 d18 c19 d19 c20 d20 c21 d21 c22 d22 c23 d23 c24 d24
  obtain ⟨⟨c0, c1, c2, c3, c4, c5, c6, c7, c8, c9, c10, c11, c12, c13, c14, c15, c16, c17, c18, c19, c20, c21, c22, c23, c24⟩, ⟨d0, d1, d2, d3, d4, d5, d6, d7, d8, d9, d10, d11, d12, d13, d14, d15, d16, d17, d18, d19, d20, d21, d22, d23, d24⟩⟩ := HTEN.out w1 HK1.out
  cases s2 with
  | false =>
    go_wp2
    go_ret
    exact ⟨by rw [HRB3.out]; first | rfl | (cases s3 <;> rfl) | (simp), HK.out.trans HK1.out (fun _ _ h => h)⟩
  | true =>
  go_wp2_with fail
  refine (HVS.out w1 (HK.out.trans HK1.out (fun _ _ h => h))).mono ?_
  rintro e w2 ⟨rfl, hk2⟩
  have HK2 := Lib.hid (HK1.out.trans hk2 (fun _ _ h => h))
  clear hk2 c0 d0 c1 d1 c2 d2 c3 d3 c4 d4 c5 d5 c6 d6 c7 d7 c8 d8 c9 d9 c10 d10 c11 d11 c12 d12 c13 d13 c14 d14 c15 d15 c16 d16 c17 d17 c18 d18 c19 d19 c20 d20 c21 d21 c22 d22 c23 d23 c24 d24
  obtain ⟨⟨c0, c1, c2, c3, c4, c5, c6, c7, c8, c9, c10, c11, c12, c13, c14, c15, c16, c17, c18, c19, c20, c21, c22, c23, c24⟩, ⟨d0, d1, d2, d3, d4, d5, d6, d7, d8, d9, d10, d11, d12, d13, d14, d15, d16, d17, d18, d19, d20, d21, d22, d23, d24⟩⟩ := HTEN.out w2 HK2.out
  cases s3 with
  | false =>
    go_wp2
    go_ret
    exact ⟨by rw [HRB3.out]; first | rfl | (cases s3 <;> rfl) | (simp), HK.out.trans HK2.out (fun _ _ h => h)⟩
  | true =>
  go_wp2_with fail
  refine (HUS.out w2 (HK.out.trans HK2.out (fun _ _ h => h)) _).mono ?_
  rintro e w3 ⟨rfl, hk3⟩
  have HK3 := Lib.hid (HK2.out.trans hk3 (fun _ _ h => h))
  clear hk3 c0 d0 c1 d1 c2 d2 c3 d3 c4 d4 c5 d5 c6 d6 c7 d7 c8 d8 c9 d9 c10 d10 c11 d11 c12 d12 c13 d13 c14 d14 c15 d15 c16 d16 c17 d17 c18 d18 c19 d19 c20 d20 c21 d21 c22 d22 c23 d23 c24 d24
  obtain ⟨⟨c0, c1, c2, c3, c4, c5, c6, c7, c8, c9, c10, c11, c12, c13, c14, c15, c16, c17, c18, c19, c20, c21, c22, c23, c24⟩, ⟨d0, d1, d2, d3, d4, d5, d6, d7, d8, d9, d10, d11, d12, d13, d14, d15, d16, d17, d18, d19, d20, d21, d22, d23, d24⟩⟩ := HTEN.out w3 HK3.out
  cases s4 with
  | false =>
    go_wp2
    go_ret
    exact ⟨by rw [HRB3.out]; first | rfl | (cases s3 <;> rfl) | (simp), HK.out.trans HK3.out (fun _ _ h => h)⟩
  | true =>
  go_wp2_with fail
  refine (HDS.out w3 (HK.out.trans HK3.out (fun _ _ h => h))).mono ?_
  rintro e w4 ⟨rfl, hk4⟩
  have HK4 := Lib.hid (HK3.out.trans hk4 (fun _ _ h => h))
  clear hk4 c0 d0 c1 d1 c2 d2 c3 d3 c4 d4 c5 d5 c6 d6 c7 d7 c8 d8 c9 d9 c10 d10 c11 d11 c12 d12 c13 d13 c14 d14 c15 d15 c16 d16 c17 d17 c18 d18 c19 d19 c20 d20 c21 d21 c22 d22 c23 d23 c24 d24
  obtain ⟨⟨c0, c1, c2, c3, c4, c5, c6, c7, c8, c9, c10, c11, c12, c13, c14, c15, c16, c17, c18, c19, c20, c21, c22, c23, c24⟩, ⟨d0, d1, d2, d3, d4, d5, d6, d7, d8, d9, d10, d11, d12, d13, d14, d15, d16, d17, d18, d19, d20, d21, d22, d23, d24⟩⟩ := HTEN.out w4 HK4.out
  go_wp2
  go_ret
  exact ⟨by rw [HRB3.out]; first | rfl | (cases s3 <;> rfl) | (simp), HK.out.trans HK4.out (fun _ _ h => h)⟩

end Go.Proofs.YtclfecninhipnaaGreatDoor
namespace Go.Proofs.YtclfecninhipnaaGreatDoor
open Go.RowKit
set_option linter.unusedVariables false
set_option linter.unusedSimpArgs false

/-- A letter without its head. -/
def bare0 (x : LV) : LV := { x with kd := 0, fr := 0, to := 0 }
/-- Without these parts. -/
def drps (ns : List Nat) (y : LV) : LV := ns.foldl (fun y i => drp i y) y
def drpC (i : Nat) (c : LC) : LC :=
  match i with
  | 12 => { c with ns := [] }
  | 13 => { c with vs := [] }
  | 14 => { c with us := [] }
  | 15 => { c with us := [] }
  | 16 => { c with ds := [] }
  | 17 => { c with ds := [] }
  | _ => c
def drpsC (ns : List Nat) (c : LC) : LC := ns.foldl (fun c i => drpC i c) c
theorem drps_snoc (ns : List Nat) (i : Nat) (y : LV) : drps (ns ++ [i]) y = drp i (drps ns y) := by simp [drps]
theorem drpsC_snoc (ns : List Nat) (i : Nat) (c : LC) : drpsC (ns ++ [i]) c = drpC i (drpsC ns c) := by simp [drpsC]
theorem LtM.drp {w : World} {H : Nat → Prop} {x : LV} {c : LC} (h : LtM w H x c) (i : Nat) : LtM w H (Go.Proofs.YtclfecninhipnaaGreatDoor.drp i x) (drpC i c) := by
  obtain ⟨a1, a2, a3, a4, a5, a6, a7, a8, a9, a10⟩ := h
  unfold Go.Proofs.YtclfecninhipnaaGreatDoor.drp
  split
  all_goals first
    | exact ⟨a1, a2, a3, a4, a5, a6, a7, a8, a9, a10⟩
    | exact ⟨a1, a2, a3, a4, a5, Int.le_refl 0, (by decide : (0 : Int) ≤ 18446744073709551615), a8, a9, a10⟩
    | exact ⟨a1, a2, a3, a4, a5, a6, a7, Int.le_refl 0, a9, a10⟩
    | exact ⟨NSl.nil _ _, a2, a3, a4, a5, a6, a7, a8, Int.le_refl 0, (by unfold topE; decide : (0 : Int) ≤ topE)⟩
    | exact ⟨a1, VRd.nil _ _, a3, a4, (fun v hv => absurd hv (List.not_mem_nil)), a6, a7, a8, a9, a10⟩
    | exact ⟨a1, a2, UsAt.nil _ _, a4, a5, a6, a7, a8, a9, a10⟩
    | exact ⟨a1, a2, a3, BSl.nil _ _, a5, a6, a7, a8, a9, a10⟩
    | (unfold drpC; split <;> first | exact ⟨a1, a2, a3, a4, a5, a6, a7, a8, a9, a10⟩ | (exfalso; simp_all))
theorem LtM.drps {w : World} {H : Nat → Prop} {x : LV} {c : LC} (h : LtM w H x c) (ns : List Nat) : LtM w H (Go.Proofs.YtclfecninhipnaaGreatDoor.drps ns x) (drpsC ns c) := by
  unfold Go.Proofs.YtclfecninhipnaaGreatDoor.drps drpsC
  induction ns generalizing x c with
  | nil => exact h
  | cons i ns ih => exact ih (h.drp i)
theorem LtM.bare0 {w : World} {H : Nat → Prop} {x : LV} {c : LC} (h : LtM w H x c) : LtM w H (Go.Proofs.YtclfecninhipnaaGreatDoor.bare0 x) c := ⟨h.ns, h.vs, h.us, h.ds, h.vok, h.ba0, h.ba1, h.ce0, h.ge0, h.ge1⟩
theorem drp_head (i : Nat) (y : LV) : (drp i y).kd = y.kd ∧ (drp i y).fr = y.fr ∧ (drp i y).to = y.to := by
  unfold drp
  split <;> exact ⟨rfl, rfl, rfl⟩
theorem drps_head (ns : List Nat) (y : LV) : (drps ns y).kd = y.kd ∧ (drps ns y).fr = y.fr ∧ (drps ns y).to = y.to := by
  unfold drps
  induction ns generalizing y with
  | nil => exact ⟨rfl, rfl, rfl⟩
  | cons i ns ih =>
    have h1 := ih (drp i y)
    have h2 := drp_head i y
    exact ⟨h1.1.trans h2.1, h1.2.1.trans h2.2.1, h1.2.2.trans h2.2.2⟩
theorem drpC_ns (i : Nat) (c : LC) : (drpC i c).ns.length ≤ c.ns.length := by
  unfold drpC
  split <;> simp
theorem drpsC_ns (ns : List Nat) (c : LC) : (drpsC ns c).ns.length ≤ c.ns.length := by
  unfold drpsC
  induction ns generalizing c with
  | nil => exact Nat.le_refl _
  | cons i ns ih => exact Nat.le_trans (ih (drpC i c)) (drpC_ns i c)
/-- Is all but what the kind has zero, and each part right? -/
def chkB (x : LV) (c : LC) (kd : Nat) : Bool := (prtK kd).all (fun i => rgt i x c) && lz (drps (prtK kd) (bare0 x)) (drpsC (prtK kd) c)
/-- What Check tells. -/
def chkE (x : LV) (c : LC) : Int := if kindB x.kd then (if addrB x.fr then (if addrB x.to then (if chkB x c x.kd.toNat then 0 else 4) else 4) else 4) else 1
/-- What the loop has done. -/
def ChkRel (x : LV) (c : LC) (kd : Nat) (W : World) (g : Nat) (jv : Value) (wr : World) : Prop :=
  ∃ j, j ≤ (prtK kd).length ∧ jv = .int .i64 (j : Int) ∧ wr.heap[g]? = some (.cells (lcs (drps ((prtK kd).take j) (bare0 x))) 48 (0, 0)) ∧ ((prtK kd).take j).all (fun i => rgt i x c) = true ∧ Kept (fun k => k = g) W wr
set_option maxRecDepth 100000 in
set_option maxHeartbeats 4000000 in
theorem LCheck_bad (w : World) (kd fr to ch ep ba nu se dn ve sl ke co ck cc ce cn gc ge : Int) (gn : Value) (gf : Bool) (gj : Int) (vo up da : Value) (b1 b2 b3 : Bool) (h1 : kindB kd = b1) (h2 : addrB fr = b2) (h3 : addrB to = b3) (hb : (b1 && (b2 && b3)) = false) (hgn : ∃ a n c, gn = .slice a n c) (hvo : ∃ a n c, vo = .slice a n c) (hup : ∃ a n c, up = .slice a n c) (hda : ∃ a n c, da = .slice a n c) :
    Calls Tryz.prog 20 #[.agg #[.int .i64 kd, .int .i64 fr, .int .i64 to, .int .i64 ch, .int .u64 ep, .int .u64 ba, .int .u64 nu, .int .u64 se, .int .u64 dn, .int .u64 ve, .int .i64 sl, .int .u32 ke, .int .i64 co, .int .i64 ck, .int .i64 cc, .int .u64 ce, .int .i64 cn, .int .i64 gc, .int .u64 ge, gn, .bool gf, .int .i64 gj, vo, up, da]] w fun e w' => e = .returned (.int .i64 (if b1 then 4 else 1)) ∧ Kept NoB w w' := by
  obtain ⟨ga, gn, gc', rfl⟩ := hgn
  obtain ⟨va, vn, vc', rfl⟩ := hvo
  obtain ⟨ua, un, uc', rfl⟩ := hup
  obtain ⟨dda, dn', dc', rfl⟩ := hda
  have HIK := Lib.hid (fun w => LisKind_any w kd)
  have HA1 := Lib.hid (fun w => LAddress_any w fr)
  have HA2 := Lib.hid (fun w => LAddress_any w to)
  rw [h1] at HIK
  rw [h2] at HA1
  rw [h3] at HA2
  have c0 : (w.alloc (.cells #[.int .i64 kd, .int .i64 fr, .int .i64 to, .int .i64 ch, .int .u64 ep, .int .u64 ba, .int .u64 nu, .int .u64 se, .int .u64 dn, .int .u64 ve, .int .i64 sl, .int .u32 ke, .int .i64 co, .int .i64 ck, .int .i64 cc, .int .u64 ce, .int .i64 cn, .int .i64 gc, .int .u64 ge, .slice ga gn gc', .bool gf, .int .i64 gj, .slice va vn vc', .slice ua un uc', .slice dda dn' dc'] 48 (0, 0))).cell? ⟨w.heap.size, 0, none⟩ = some (.int .i64 kd) := cell_of_row _ _ 0 _ _ _ (heap_alloc_new w _)
  have c1 : (w.alloc (.cells #[.int .i64 kd, .int .i64 fr, .int .i64 to, .int .i64 ch, .int .u64 ep, .int .u64 ba, .int .u64 nu, .int .u64 se, .int .u64 dn, .int .u64 ve, .int .i64 sl, .int .u32 ke, .int .i64 co, .int .i64 ck, .int .i64 cc, .int .u64 ce, .int .i64 cn, .int .i64 gc, .int .u64 ge, .slice ga gn gc', .bool gf, .int .i64 gj, .slice va vn vc', .slice ua un uc', .slice dda dn' dc'] 48 (0, 0))).cell? ⟨w.heap.size, 1, none⟩ = some (.int .i64 fr) := cell_of_row _ _ 1 _ _ _ (heap_alloc_new w _)
  have c2 : (w.alloc (.cells #[.int .i64 kd, .int .i64 fr, .int .i64 to, .int .i64 ch, .int .u64 ep, .int .u64 ba, .int .u64 nu, .int .u64 se, .int .u64 dn, .int .u64 ve, .int .i64 sl, .int .u32 ke, .int .i64 co, .int .i64 ck, .int .i64 cc, .int .u64 ce, .int .i64 cn, .int .i64 gc, .int .u64 ge, .slice ga gn gc', .bool gf, .int .i64 gj, .slice va vn vc', .slice ua un uc', .slice dda dn' dc'] 48 (0, 0))).cell? ⟨w.heap.size, 2, none⟩ = some (.int .i64 to) := cell_of_row _ _ 2 _ _ _ (heap_alloc_new w _)
  clear h1 h2 h3
  cases b1 with
  | false =>
    clear hb
    go_enter Tryz.func20, Tryz.ntmps20
    go_wp2_with fail
    refine (HIK.out _).mono ?_
    rintro e w1 ⟨rfl, rfl⟩
    go_wp2
    go_ret
    exact ⟨rfl, (Kept.refl _ _).alloc _⟩
  | true =>
    cases b2 with
    | false =>
      clear hb
      go_enter Tryz.func20, Tryz.ntmps20
      go_wp2_with fail
      refine (HIK.out _).mono ?_
      rintro e w1 ⟨rfl, rfl⟩
      go_wp2_with fail
      refine (HA1.out _).mono ?_
      rintro e w1 ⟨rfl, rfl⟩
      go_wp2
      go_ret
      exact ⟨rfl, (Kept.refl _ _).alloc _⟩
    | true =>
      cases b3 with
      | true => cases hb
      | false =>
        clear hb
        go_enter Tryz.func20, Tryz.ntmps20
        go_wp2_with fail
        refine (HIK.out _).mono ?_
        rintro e w1 ⟨rfl, rfl⟩
        go_wp2_with fail
        refine (HA1.out _).mono ?_
        rintro e w1 ⟨rfl, rfl⟩
        go_wp2_with fail
        refine (HA2.out _).mono ?_
        rintro e w1 ⟨rfl, rfl⟩
        go_wp2
        go_ret
        exact ⟨rfl, (Kept.refl _ _).alloc _⟩
set_option maxRecDepth 100000 in
set_option maxHeartbeats 8000000 in
theorem LCheck_good (w : World) (kd fr to ch ep ba nu se dn ve sl ke co ck cc ce cn gc ge gj : Int) (gf : Bool) (ga va ua dda : Option Addr) (gm gcp vm vcp um ucp dm dcp : Nat) (x : LV) (c : LC) (H : Nat → Prop) (hx : x = ⟨kd, fr, to, ch, ep, ba, nu, se, dn, ve, sl, ke, co, ck, cc, ce, cn, gc, ge, .slice ga gm gcp, gf, gj, .slice va vm vcp, .slice ua um ucp, .slice dda dm dcp⟩) (h : LtM w H x c) (hnf : c.ns.length ≤ 1000) (hH : ∀ k, H k → k < w.heap.size) (ht : Tab10 w) (h1 : kindB kd = true) (h2 : addrB fr = true) (h3 : addrB to = true) :
    Calls Tryz.prog 20 #[.agg #[.int .i64 kd, .int .i64 fr, .int .i64 to, .int .i64 ch, .int .u64 ep, .int .u64 ba, .int .u64 nu, .int .u64 se, .int .u64 dn, .int .u64 ve, .int .i64 sl, .int .u32 ke, .int .i64 co, .int .i64 ck, .int .i64 cc, .int .u64 ce, .int .i64 cn, .int .i64 gc, .int .u64 ge, .slice ga gm gcp, .bool gf, .int .i64 gj, .slice va vm vcp, .slice ua um ucp, .slice dda dm dcp]] w fun e w' => e = .returned (.int .i64 (if chkB x c kd.toNat then 0 else 4)) ∧ Kept NoB w w' := by
  obtain ⟨eb, heb⟩ : ∃ v : Int, v = if chkB x c kd.toNat then 0 else 4 := ⟨_, rfl⟩
  have HEB : Hid (eb = if chkB x c kd.toNat then 0 else 4) := Lib.hid heb
  rw [← heb]
  clear heb
  have hkk : 1 ≤ kd ∧ kd ≤ 20 := by unfold kindB at h1; simpa using h1
  obtain ⟨n, hn⟩ : ∃ n : Nat, kd = (n : Int) := ⟨kd.toNat, by omega⟩
  have hn21 : n < 21 := by omega
  have hnn : kd.toNat = n := by omega
  rw [hnn] at HEB
  have HIK := Lib.hid (fun w => LisKind_any w kd)
  have HA1 := Lib.hid (fun w => LAddress_any w fr)
  have HA2 := Lib.hid (fun w => LAddress_any w to)
  rw [h1] at HIK
  rw [h2] at HA1
  rw [h3] at HA2
  clear h1 h2 h3 hkk hnn
  have HNN := Lib.hid hn
  clear hn
  obtain ⟨W0, hW0⟩ : ∃ W0, W0 = (w.alloc (.cells #[.int .i64 kd, .int .i64 fr, .int .i64 to, .int .i64 ch, .int .u64 ep, .int .u64 ba, .int .u64 nu, .int .u64 se, .int .u64 dn, .int .u64 ve, .int .i64 sl, .int .u32 ke, .int .i64 co, .int .i64 ck, .int .i64 cc, .int .u64 ce, .int .i64 cn, .int .i64 gc, .int .u64 ge, .slice ga gm gcp, .bool gf, .int .i64 gj, .slice va vm vcp, .slice ua um ucp, .slice dda dm dcp] 48 (0, 0))).alloc (.cells #[.int .i64 kd, .int .i64 fr, .int .i64 to, .int .i64 ch, .int .u64 ep, .int .u64 ba, .int .u64 nu, .int .u64 se, .int .u64 dn, .int .u64 ve, .int .i64 sl, .int .u32 ke, .int .i64 co, .int .i64 ck, .int .i64 cc, .int .u64 ce, .int .i64 cn, .int .i64 gc, .int .u64 ge, .slice ga gm gcp, .bool gf, .int .i64 gj, .slice va vm vcp, .slice ua um ucp, .slice dda dm dcp] 48 (0, 0)) := ⟨_, rfl⟩
  have g1 : W0.heap[w.heap.size]? = some (.cells #[.int .i64 kd, .int .i64 fr, .int .i64 to, .int .i64 ch, .int .u64 ep, .int .u64 ba, .int .u64 nu, .int .u64 se, .int .u64 dn, .int .u64 ve, .int .i64 sl, .int .u32 ke, .int .i64 co, .int .i64 ck, .int .i64 cc, .int .u64 ce, .int .i64 cn, .int .i64 gc, .int .u64 ge, .slice ga gm gcp, .bool gf, .int .i64 gj, .slice va vm vcp, .slice ua um ucp, .slice dda dm dcp] 48 (0, 0)) := by rw [hW0]; exact blkU_alloc (heap_alloc_new w _) _
  have esz : (w.alloc (.cells #[.int .i64 kd, .int .i64 fr, .int .i64 to, .int .i64 ch, .int .u64 ep, .int .u64 ba, .int .u64 nu, .int .u64 se, .int .u64 dn, .int .u64 ve, .int .i64 sl, .int .u32 ke, .int .i64 co, .int .i64 ck, .int .i64 cc, .int .u64 ce, .int .i64 cn, .int .i64 gc, .int .u64 ge, .slice ga gm gcp, .bool gf, .int .i64 gj, .slice va vm vcp, .slice ua um ucp, .slice dda dm dcp] 48 (0, 0))).heap.size = w.heap.size + 1 := by simp
  have g2 : W0.heap[w.heap.size + 1]? = some (.cells #[.int .i64 kd, .int .i64 fr, .int .i64 to, .int .i64 ch, .int .u64 ep, .int .u64 ba, .int .u64 nu, .int .u64 se, .int .u64 dn, .int .u64 ve, .int .i64 sl, .int .u32 ke, .int .i64 co, .int .i64 ck, .int .i64 cc, .int .u64 ce, .int .i64 cn, .int .i64 gc, .int .u64 ge, .slice ga gm gcp, .bool gf, .int .i64 gj, .slice va vm vcp, .slice ua um ucp, .slice dda dm dcp] 48 (0, 0)) := by
    have := heap_alloc_new (w.alloc (.cells #[.int .i64 kd, .int .i64 fr, .int .i64 to, .int .i64 ch, .int .u64 ep, .int .u64 ba, .int .u64 nu, .int .u64 se, .int .u64 dn, .int .u64 ve, .int .i64 sl, .int .u32 ke, .int .i64 co, .int .i64 ck, .int .i64 cc, .int .u64 ce, .int .i64 cn, .int .i64 gc, .int .u64 ge, .slice ga gm gcp, .bool gf, .int .i64 gj, .slice va vm vcp, .slice ua um ucp, .slice dda dm dcp] 48 (0, 0))) (.cells #[.int .i64 kd, .int .i64 fr, .int .i64 to, .int .i64 ch, .int .u64 ep, .int .u64 ba, .int .u64 nu, .int .u64 se, .int .u64 dn, .int .u64 ve, .int .i64 sl, .int .u32 ke, .int .i64 co, .int .i64 ck, .int .i64 cc, .int .u64 ce, .int .i64 cn, .int .i64 gc, .int .u64 ge, .slice ga gm gcp, .bool gf, .int .i64 gj, .slice va vm vcp, .slice ua um ucp, .slice dda dm dcp] 48 (0, 0))
    rw [esz] at this
    rw [hW0]; exact this
  have HSR : Hid (((w.alloc (.cells #[.int .i64 kd, .int .i64 fr, .int .i64 to, .int .i64 ch, .int .u64 ep, .int .u64 ba, .int .u64 nu, .int .u64 se, .int .u64 dn, .int .u64 ve, .int .i64 sl, .int .u32 ke, .int .i64 co, .int .i64 ck, .int .i64 cc, .int .u64 ce, .int .i64 cn, .int .i64 gc, .int .u64 ge, .slice ga gm gcp, .bool gf, .int .i64 gj, .slice va vm vcp, .slice ua um ucp, .slice dda dm dcp] 48 (0, 0))).alloc (.cells #[.int .i64 0, .int .i64 0, .int .i64 0, .int .i64 0, .int .u64 0, .int .u64 0, .int .u64 0, .int .u64 0, .int .u64 0, .int .u64 0, .int .i64 0, .int .u32 0, .int .i64 0, .int .i64 0, .int .i64 0, .int .u64 0, .int .i64 0, .int .i64 0, .int .u64 0, .slice none 0 0, .bool false, .int .i64 0, .slice none 0 0, .slice none 0 0, .slice none 0 0] 48 (0, 0))).setRow (w.heap.size + 1) #[.int .i64 kd, .int .i64 fr, .int .i64 to, .int .i64 ch, .int .u64 ep, .int .u64 ba, .int .u64 nu, .int .u64 se, .int .u64 dn, .int .u64 ve, .int .i64 sl, .int .u32 ke, .int .i64 co, .int .i64 ck, .int .i64 cc, .int .u64 ce, .int .i64 cn, .int .i64 gc, .int .u64 ge, .slice ga gm gcp, .bool gf, .int .i64 gj, .slice va vm vcp, .slice ua um ucp, .slice dda dm dcp] = W0) := Lib.hid (by
    have := World.setRow_alloc_new (w.alloc (.cells #[.int .i64 kd, .int .i64 fr, .int .i64 to, .int .i64 ch, .int .u64 ep, .int .u64 ba, .int .u64 nu, .int .u64 se, .int .u64 dn, .int .u64 ve, .int .i64 sl, .int .u32 ke, .int .i64 co, .int .i64 ck, .int .i64 cc, .int .u64 ce, .int .i64 cn, .int .i64 gc, .int .u64 ge, .slice ga gm gcp, .bool gf, .int .i64 gj, .slice va vm vcp, .slice ua um ucp, .slice dda dm dcp] 48 (0, 0))) #[.int .i64 0, .int .i64 0, .int .i64 0, .int .i64 0, .int .u64 0, .int .u64 0, .int .u64 0, .int .u64 0, .int .u64 0, .int .u64 0, .int .i64 0, .int .u32 0, .int .i64 0, .int .i64 0, .int .i64 0, .int .u64 0, .int .i64 0, .int .i64 0, .int .u64 0, .slice none 0 0, .bool false, .int .i64 0, .slice none 0 0, .slice none 0 0, .slice none 0 0] #[.int .i64 kd, .int .i64 fr, .int .i64 to, .int .i64 ch, .int .u64 ep, .int .u64 ba, .int .u64 nu, .int .u64 se, .int .u64 dn, .int .u64 ve, .int .i64 sl, .int .u32 ke, .int .i64 co, .int .i64 ck, .int .i64 cc, .int .u64 ce, .int .i64 cn, .int .i64 gc, .int .u64 ge, .slice ga gm gcp, .bool gf, .int .i64 gj, .slice va vm vcp, .slice ua um ucp, .slice dda dm dcp] 48
    rw [esz] at this
    rw [hW0]; exact this)
  have HGZ : Hid (((w.alloc (.cells #[.int .i64 kd, .int .i64 fr, .int .i64 to, .int .i64 ch, .int .u64 ep, .int .u64 ba, .int .u64 nu, .int .u64 se, .int .u64 dn, .int .u64 ve, .int .i64 sl, .int .u32 ke, .int .i64 co, .int .i64 ck, .int .i64 cc, .int .u64 ce, .int .i64 cn, .int .i64 gc, .int .u64 ge, .slice ga gm gcp, .bool gf, .int .i64 gj, .slice va vm vcp, .slice ua um ucp, .slice dda dm dcp] 48 (0, 0))).alloc (.cells #[.int .i64 0, .int .i64 0, .int .i64 0, .int .i64 0, .int .u64 0, .int .u64 0, .int .u64 0, .int .u64 0, .int .u64 0, .int .u64 0, .int .i64 0, .int .u32 0, .int .i64 0, .int .i64 0, .int .i64 0, .int .u64 0, .int .i64 0, .int .i64 0, .int .u64 0, .slice none 0 0, .bool false, .int .i64 0, .slice none 0 0, .slice none 0 0, .slice none 0 0] 48 (0, 0))).heap[w.heap.size + 1]? = some (.cells #[.int .i64 0, .int .i64 0, .int .i64 0, .int .i64 0, .int .u64 0, .int .u64 0, .int .u64 0, .int .u64 0, .int .u64 0, .int .u64 0, .int .i64 0, .int .u32 0, .int .i64 0, .int .i64 0, .int .i64 0, .int .u64 0, .int .i64 0, .int .i64 0, .int .u64 0, .slice none 0 0, .bool false, .int .i64 0, .slice none 0 0, .slice none 0 0, .slice none 0 0] 48 (0, 0))) := Lib.hid (by
    have := heap_alloc_new (w.alloc (.cells #[.int .i64 kd, .int .i64 fr, .int .i64 to, .int .i64 ch, .int .u64 ep, .int .u64 ba, .int .u64 nu, .int .u64 se, .int .u64 dn, .int .u64 ve, .int .i64 sl, .int .u32 ke, .int .i64 co, .int .i64 ck, .int .i64 cc, .int .u64 ce, .int .i64 cn, .int .i64 gc, .int .u64 ge, .slice ga gm gcp, .bool gf, .int .i64 gj, .slice va vm vcp, .slice ua um ucp, .slice dda dm dcp] 48 (0, 0))) (.cells #[.int .i64 0, .int .i64 0, .int .i64 0, .int .i64 0, .int .u64 0, .int .u64 0, .int .u64 0, .int .u64 0, .int .u64 0, .int .u64 0, .int .i64 0, .int .u32 0, .int .i64 0, .int .i64 0, .int .i64 0, .int .u64 0, .int .i64 0, .int .i64 0, .int .u64 0, .slice none 0 0, .bool false, .int .i64 0, .slice none 0 0, .slice none 0 0, .slice none 0 0] 48 (0, 0))
    rw [esz] at this
    exact this)
  have kW0 : Kept NoB w W0 := by rw [hW0]; exact ((Kept.refl NoB w).alloc _).alloc _
  have sW0 : W0.heap.size = w.heap.size + 2 := by rw [hW0]; simp
  have HNE : Hid (¬ w.heap.size + 1 = w.heap.size) := Lib.hid (by omega)
  clear hW0
  obtain ⟨W, hW⟩ : ∃ W, W = ((W0.setCell ⟨w.heap.size + 1, 0, none⟩ (.int .i64 0)).setCell ⟨w.heap.size + 1, 1, none⟩ (.int .i64 0)).setCell ⟨w.heap.size + 1, 2, none⟩ (.int .i64 0) := ⟨_, rfl⟩
  have hh1 : W.heap[w.heap.size]? = some (.cells (lcs x) 48 (0, 0)) := by rw [hW, hx]; exact blkU_set_other (blkU_set_other (blkU_set_other g1 _ _ HNE.out) _ _ HNE.out) _ _ HNE.out
  have hh2 : W.heap[w.heap.size + 1]? = some (.cells (lcs (bare0 x)) 48 (0, 0)) := by
    have a0 := blkU_set g2 0 (.int .i64 0)
    have a1 := blkU_set a0 1 (.int .i64 0)
    rw [hW, hx]
    exact blkU_set a1 2 _
  have hkW : Kept NoB w W := by
    rw [hW]
    exact ((kW0.setCell (p := ⟨w.heap.size + 1, 0, none⟩) (.inr (by show w.heap.size ≤ w.heap.size + 1; omega)) _).setCell (p := ⟨w.heap.size + 1, 1, none⟩) (.inr (by show w.heap.size ≤ w.heap.size + 1; omega)) _).setCell (p := ⟨w.heap.size + 1, 2, none⟩) (.inr (by show w.heap.size ≤ w.heap.size + 1; omega)) _
  have hsW : W.heap.size = w.heap.size + 2 := by rw [hW]; simp [World.setCell, sW0]
  have d0 : W0.cell? ⟨w.heap.size + 1, 0, none⟩ = some (.int .i64 kd) := cell_of_row _ _ 0 _ _ _ g2
  have d1 : W0.cell? ⟨w.heap.size + 1, 1, none⟩ = some (.int .i64 fr) := cell_of_row _ _ 1 _ _ _ g2
  have d2 : W0.cell? ⟨w.heap.size + 1, 2, none⟩ = some (.int .i64 to) := cell_of_row _ _ 2 _ _ _ g2
  have z0 := blkU_frozen g2
  have e0 : W.cell? ⟨w.heap.size, 0, none⟩ = some (.int .i64 kd) := by rw [cell_of_row _ _ 0 _ _ _ hh1, hx]; rfl
  clear g1 g2 kW0 sW0 esz
  have HH1 := Lib.hid hh1
  have HH2 := Lib.hid hh2
  have HKW := Lib.hid hkW
  have HSW := Lib.hid hsW
  have HX := Lib.hid (h.no hkW)
  have HF := Lib.hid hH
  have HW := Lib.hid hW
  have HPO : Hid (Calls Tryz.prog 39 #[.int .i64 kd] W (PartsEnd W n)) := Lib.hid (by rw [HNN.out]; exact partsOf_any W n hn21 (ht.kept hkW (fun h => h)))
  have HXE := Lib.hid hx
  have c0 : (w.alloc (.cells #[.int .i64 kd, .int .i64 fr, .int .i64 to, .int .i64 ch, .int .u64 ep, .int .u64 ba, .int .u64 nu, .int .u64 se, .int .u64 dn, .int .u64 ve, .int .i64 sl, .int .u32 ke, .int .i64 co, .int .i64 ck, .int .i64 cc, .int .u64 ce, .int .i64 cn, .int .i64 gc, .int .u64 ge, .slice ga gm gcp, .bool gf, .int .i64 gj, .slice va vm vcp, .slice ua um ucp, .slice dda dm dcp] 48 (0, 0))).cell? ⟨w.heap.size, 0, none⟩ = some (.int .i64 kd) := cell_of_row _ _ 0 _ _ _ (heap_alloc_new w _)
  have c1 : (w.alloc (.cells #[.int .i64 kd, .int .i64 fr, .int .i64 to, .int .i64 ch, .int .u64 ep, .int .u64 ba, .int .u64 nu, .int .u64 se, .int .u64 dn, .int .u64 ve, .int .i64 sl, .int .u32 ke, .int .i64 co, .int .i64 ck, .int .i64 cc, .int .u64 ce, .int .i64 cn, .int .i64 gc, .int .u64 ge, .slice ga gm gcp, .bool gf, .int .i64 gj, .slice va vm vcp, .slice ua um ucp, .slice dda dm dcp] 48 (0, 0))).cell? ⟨w.heap.size, 1, none⟩ = some (.int .i64 fr) := cell_of_row _ _ 1 _ _ _ (heap_alloc_new w _)
  have c2 : (w.alloc (.cells #[.int .i64 kd, .int .i64 fr, .int .i64 to, .int .i64 ch, .int .u64 ep, .int .u64 ba, .int .u64 nu, .int .u64 se, .int .u64 dn, .int .u64 ve, .int .i64 sl, .int .u32 ke, .int .i64 co, .int .i64 ck, .int .i64 cc, .int .u64 ce, .int .i64 cn, .int .i64 gc, .int .u64 ge, .slice ga gm gcp, .bool gf, .int .i64 gj, .slice va vm vcp, .slice ua um ucp, .slice dda dm dcp] 48 (0, 0))).cell? ⟨w.heap.size, 2, none⟩ = some (.int .i64 to) := cell_of_row _ _ 2 _ _ _ (heap_alloc_new w _)
  clear hh1 hh2 hkW hsW h hx ht hH hn21 hW
  go_enter Tryz.func20, Tryz.ntmps20
  go_wp2_with fail
  refine (HIK.out _).mono ?_
  rintro e w1 ⟨rfl, rfl⟩
  go_wp2_with fail
  refine (HA1.out _).mono ?_
  rintro e w1 ⟨rfl, rfl⟩
  go_wp2_with fail
  refine (HA2.out _).mono ?_
  rintro e w1 ⟨rfl, rfl⟩
  have HG0 := Lib.hid (heap_alloc_new w (.cells #[.int .i64 kd, .int .i64 fr, .int .i64 to, .int .i64 ch, .int .u64 ep, .int .u64 ba, .int .u64 nu, .int .u64 se, .int .u64 dn, .int .u64 ve, .int .i64 sl, .int .u32 ke, .int .i64 co, .int .i64 ck, .int .i64 cc, .int .u64 ce, .int .i64 cn, .int .i64 gc, .int .u64 ge, .slice ga gm gcp, .bool gf, .int .i64 gj, .slice va vm vcp, .slice ua um ucp, .slice dda dm dcp] 48 (0, 0)))
  clear c0 c1 c2
  have hone : (#[.int .i64 kd, .int .i64 fr, .int .i64 to, .int .i64 ch, .int .u64 ep, .int .u64 ba, .int .u64 nu, .int .u64 se, .int .u64 dn, .int .u64 ve, .int .i64 sl, .int .u32 ke, .int .i64 co, .int .i64 ck, .int .i64 cc, .int .u64 ce, .int .i64 cn, .int .i64 gc, .int .u64 ge, .slice ga gm gcp, .bool gf, .int .i64 gj, .slice va vm vcp, .slice ua um ucp, .slice dda dm dcp] : Array Value).all (·.oneCell') = true := by rw [← Array.all_toList]; rfl
  have HONE := Lib.hid hone
  clear hone
  go_upto_region 7 with (first
    | (refine wpList_load_row rfl 48 _ rfl w.heap.size rfl 48 #[.int .i64 kd, .int .i64 fr, .int .i64 to, .int .i64 ch, .int .u64 ep, .int .u64 ba, .int .u64 nu, .int .u64 se, .int .u64 dn, .int .u64 ve, .int .i64 sl, .int .u32 ke, .int .i64 co, .int .i64 ck, .int .i64 cc, .int .u64 ce, .int .i64 cn, .int .i64 gc, .int .u64 ge, .slice ga gm gcp, .bool gf, .int .i64 gj, .slice va vm vcp, .slice ua um ucp, .slice dda dm dcp] (0, 0) _ HG0.out Tryz.underlying48 rfl (by kernel_rfl) ?_)
    | (refine wpList_store_row rfl 48 _ _ rfl (w.heap.size + 1) #[.int .i64 kd, .int .i64 fr, .int .i64 to, .int .i64 ch, .int .u64 ep, .int .u64 ba, .int .u64 nu, .int .u64 se, .int .u64 dn, .int .u64 ve, .int .i64 sl, .int .u32 ke, .int .i64 co, .int .i64 ck, .int .i64 cc, .int .u64 ce, .int .i64 cn, .int .i64 gc, .int .u64 ge, .slice ga gm gcp, .bool gf, .int .i64 gj, .slice va vm vcp, .slice ua um ucp, .slice dda dm dcp] rfl rfl 48 #[.int .i64 0, .int .i64 0, .int .i64 0, .int .i64 0, .int .u64 0, .int .u64 0, .int .u64 0, .int .u64 0, .int .u64 0, .int .u64 0, .int .i64 0, .int .u32 0, .int .i64 0, .int .i64 0, .int .i64 0, .int .u64 0, .int .i64 0, .int .i64 0, .int .u64 0, .slice none 0 0, .bool false, .int .i64 0, .slice none 0 0, .slice none 0 0, .slice none 0 0] HGZ.out (by kernel_rfl) rfl HONE.out ?_; rw [HSR.out]))
  rw [← HW.out]
  clear d0 d1 d2 z0
  go_wp2_with fail
  refine HPO.out.mono ?_
  rintro e w1 ⟨pa, pc, ps, rfl, hrow, hps, hk⟩
  have HROW := Lib.hid hrow
  have HPS := Lib.hid hps
  have HK1 := Lib.hid hk
  have HR1 := Lib.hid (hk.heap (fun h => h) HH1.out)
  have HR2 := Lib.hid (hk.heap (fun h => h) HH2.out)
  have HX1 := Lib.hid (HX.out.no hk)
  have HLN := Lib.hid (prtK_len n)
  clear hrow hps hk
  go_wp2
  generalize Value.agg #[.int .i64 kd, .int .i64 fr, .int .i64 to, .int .i64 ch, .int .u64 ep, .int .u64 ba, .int .u64 nu, .int .u64 se, .int .u64 dn, .int .u64 ve, .int .i64 sl, .int .u32 ke, .int .i64 co, .int .i64 ck, .int .i64 cc, .int .u64 ce, .int .i64 cn, .int .i64 gc, .int .u64 ge, .slice ga gm gcp, .bool gf, .int .i64 gj, .slice va vm vcp, .slice ua um ucp, .slice dda dm dcp] = LV0
  go_loopw [28] (ChkRel x c n w1 (w.heap.size + 1)) (fun j _ => (prtK n).length - (RowKit.intOf j).toNat)
  case atStart => exact ⟨0, Nat.zero_le _, rfl, HR2.out, rfl, Kept.refl _ _⟩
  case round =>
    obtain ⟨j, hj, rfl, hg2, hall, hK⟩ := hrel
    have HAL := Lib.hid hall
    have hsB : ∀ k, W.heap.size ≤ k → ¬ k = w.heap.size + 1 := fun k hk => by have := HSW.out; omega
    have HG2 := Lib.hid hg2
    have HKR := Lib.hid hK
    have HRW := Lib.hid (HROW.out.kept hK hsB)
    have HPR := Lib.hid (HPS.out.kept hK hsB)
    have HG1 := Lib.hid (hK.heap (k := w.heap.size) (by omega) HR1.out)
    have HXR := Lib.hid (HX1.out.kept hK (fun k hf => by have := HF.out k hf; omega))
    have hj0 : (0 : Int) ≤ (j : Int) := by omega
    have hj18 : (j : Int) ≤ 18 := by have := HLN.out; omega
    clear hg2 hK hsB hall
    by_cases hlt : j < (prtK n).length
    · have hlen := HPS.out.1
      obtain ⟨r, rfl, hBr, f0, f1, f2, f3⟩ := HRW.out.at_ (j := j) (by omega)
      have hp := HPR.out.2 j hlt
      rw [show ps.getD j q40 = ps[j]'(by omega) by rw [List.getD_eq_getElem?_getD, List.getElem?_eq_getElem (by omega)]; rfl] at hp
      obtain ⟨hone, P, fn1, fn4, k1, k4, hP, hpl⟩ := hp
      obtain ⟨i, hi⟩ : ∃ i, i = (prtK n).getD j 0 := ⟨_, rfl⟩
      rw [← hi] at hpl
      obtain ⟨q, hq⟩ : ∃ q, q = ps[j]'(by omega) := ⟨_, rfl⟩
      rw [← hq] at f0 f1 f2 f3 hone hpl
      obtain ⟨qa, qb, qc, qd⟩ := q
      obtain ⟨pa1, pd1, ⟨fn2, k2, pb1⟩, ⟨fn3, k3, pc1⟩, pe1, pe4, pr, pdr⟩ := hpl
      simp only at f0 f1 f2 f3 pa1 pd1 pb1 pc1
      subst pa1 pd1 pb1 pc1
      have HTK : Hid ((prtK n).take (j + 1) = (prtK n).take j ++ [i]) := Lib.hid (by rw [List.take_succ_eq_append_getElem hlt, hi, List.getD_eq_getElem?_getD, List.getElem?_eq_getElem hlt]; rfl)
      have hka := (Kept.refl NoB wr).alloc (.cells #[.func (.func fn1) #[] k1, .func (.func fn2) #[] k2, .func (.func fn3) #[] k3, .func (.func fn4) #[] k4] 112 (0, 0))
      obtain ⟨b0, b1, b2, b3⟩ := cells4p (heap_alloc_new wr (.cells #[.func (.func fn1) #[] k1, .func (.func fn2) #[] k2, .func (.func fn3) #[] k3, .func (.func fn4) #[] k4] 112 (0, 0)))
      have HB := Lib.hid (heap_alloc_new wr (.cells #[.func (.func fn1) #[] k1, .func (.func fn2) #[] k2, .func (.func fn3) #[] k3, .func (.func fn4) #[] k4] 112 (0, 0)))
      have hR := pr NoB _ hka (fun _ _ h => h) w.heap.size x c H (hka.heap (fun h => h) HG1.out) (HXR.out.no hka) hnf
      have HKA := Lib.hid hka
      have HDR := Lib.hid pdr
      have hent1 : ∀ (args : Array Value) (w : World), Sem.run Tryz.prog (callFunc fn1 args) w = .ok (.enter fn1 args) w := pe1
      have hent4 : ∀ (args : Array Value) (w : World), Sem.run Tryz.prog (callFunc fn4 args) w = .ok (.enter fn4 args) w := pe4
      obtain ⟨rb, hrb⟩ : ∃ rb, rb = rgt i x c := ⟨_, rfl⟩
      rw [← hrb] at hR
      have HRI := Lib.hid hR
      have HRB := Lib.hid hrb
      have hj1 : (j : Int) < ((prtK n).length : Int) := by omega
      obtain ⟨m, hm⟩ : ∃ m, m = (prtK n).length := ⟨_, rfl⟩
      have HM := Lib.hid hm
      have HLT := Lib.hid hlt
      have HI := Lib.hid hi
      clear hka hR hrb hone hP pr pdr pe1 pe4 hq hi hlen hBr
      cases rb with
      | false =>
        as_aux_lemma =>
          go_wp2_with fail
          refine HRI.out.mono ?_
          rintro e w2 ⟨rfl, hk2⟩
          have HK2 := Lib.hid (HKR.out.trans (HKA.out.trans hk2 (fun _ _ h => h)) (fun _ _ h => absurd h (fun h => h)))
          clear hk2
          go_wp2
          go_ret
          refine ⟨?_, (HKW.out.trans HK1.out (fun _ _ h => h)).trans HK2.out (fun i hi h => by omega)⟩
          have hf : chkB x c n = false := by
            unfold chkB
            rw [show ((prtK n).all fun i => rgt i x c) = false from ?_]
            · rfl
            · rw [Bool.eq_false_iff]
              intro hall
              have := List.all_eq_true.1 hall i (by rw [HI.out, List.getD_eq_getElem?_getD, List.getElem?_eq_getElem HLT.out]; exact List.getElem_mem _)
              rw [← HRB.out] at this
              cases this
          rw [HEB.out, hf]
          rfl
      | true =>
        as_aux_lemma =>
          go_wp2_with fail
          refine HRI.out.mono ?_
          rintro e w2 ⟨rfl, hk2⟩
          have hb2 := hk2.heap (fun h => h) HB.out
          obtain ⟨b0, b1, b2, b3⟩ := cells4p hb2
          have hk02 := HKA.out.trans hk2 (fun _ _ h => h)
          have hg2 := hk02.heap (fun h => h) HG2.out
          have HD := Lib.hid (HDR.out NoB w2 hk02 (fun _ _ h => h) (w.heap.size + 1) _ hg2)
          have HK2 := Lib.hid (HKR.out.trans hk02 (fun _ _ h => absurd h (fun h => h)))
          clear hk2 hb2 hg2 hk02
          go_wp2_with fail
          refine HD.out.mono ?_
          rintro e w3 ⟨rfl, hg3, hk3⟩
          have HG3 := Lib.hid hg3
          have HK3 := Lib.hid (HK2.out.trans hk3 (fun _ _ h => h))
          clear hg3 hk3
          go_wp2
          refine ⟨⟨j + 1, HLT.out, by go_num, ?_, ?_, HK3.out⟩, by simp [RowKit.intOf]; have := HLT.out; omega⟩
          · rw [HTK.out, drps_snoc]; exact HG3.out
          · rw [HTK.out, List.all_append, HAL.out]; simp [← HRB.out]
    · as_aux_lemma =>
        have hjn : j = (prtK n).length := by omega
        have HJN := Lib.hid hjn
        have hnlt : ¬ (j : Int) < ((prtK n).length : Int) := by omega
        have hall := HAL.out
        have hz := HG2.out
        have hm1 := (HXR.out.bare0).drps (prtK n)
        have hhd := drps_head (prtK n) (bare0 x)
        rw [hjn, List.take_length] at hall hz
        obtain ⟨y, hy⟩ : ∃ y, y = drps (prtK n) (bare0 x) := ⟨_, rfl⟩
        obtain ⟨d, hd⟩ : ∃ d, d = drpsC (prtK n) c := ⟨_, rfl⟩
        have hch : chkB x c n = lz y d := by unfold chkB; rw [hall, hy, hd]; rfl
        have hnd : d.ns.length ≤ 1000 := by rw [hd]; exact Nat.le_trans (drpsC_ns _ _) hnf
        rw [← hy, ← hd] at hm1
        rw [← hy] at hz hhd
        have HCH := Lib.hid hch
        have hb0 : (bare0 x).kd = 0 ∧ (bare0 x).fr = 0 ∧ (bare0 x).to = 0 := ⟨rfl, rfl, rfl⟩
        rw [hb0.1, hb0.2.1, hb0.2.2] at hhd
        clear hy hd hch hall hb0 hjn
        obtain ⟨ykd, yfr, yto, ych, yep, yba, ynu, yse, ydn, yve, ysl, yke, yco, yck, ycc, yce, ycn, ygc, yge, ygn, ygf, ygj, yvo, yup, yda⟩ := y
        simp only at hhd
        obtain ⟨rfl, rfl, rfl⟩ := hhd
        have HK3 := Lib.hid ((HKW.out.trans HK1.out (fun _ _ h => h)).trans HKR.out (fun i hi h => by omega))
        have HLS := Lib.hid (LSame_z0 wr _ _ _ _ _ _ _ _ _ _ _ _ _ _ _ _ _ _ _ _ _ _ d H hm1 hnd)
        clear hm1 hnd
        go_wp2_with (refine wpList_load_row rfl 48 _ rfl (w.heap.size + 1) rfl 48 _ (0, 0) _ hz Tryz.underlying48 rfl (by kernel_rfl) ?_)
        refine HLS.out.mono ?_
        rintro e w2 ⟨rfl, hk2⟩
        have HK4 := Lib.hid (HK3.out.trans hk2 (fun _ _ h => h))
        clear hk2
        obtain ⟨lb, hlb⟩ : ∃ lb, lb = chkB x c n := ⟨_, rfl⟩
        rw [← HCH.out, ← hlb]
        rw [← hlb] at HEB
        clear hlb
        cases lb with
        | true =>
          go_wp2
          go_ret
          exact ⟨by rw [HEB.out]; rfl, HK4.out⟩
        | false =>
          go_wp2
          go_ret
          exact ⟨by rw [HEB.out]; rfl, HK4.out⟩
end Go.Proofs.YtclfecninhipnaaGreatDoor
namespace Go.Proofs.YtclfecninhipnaaGreatDoor
open Go.RowKit
set_option linter.unusedVariables false
set_option linter.unusedSimpArgs false

/-- Kinds that a fence may let in. -/
def fencedB (k : Int) : Bool := decide (k = 12 ∨ k = 13 ∨ k = 14 ∨ k = 15 ∨ k = 16 ∨ k = 17 ∨ k = 19)
/-- Is a letter let in, but for its chain and its epoch? -/
def admB (r : Rl) (tl : Int) (ns : List Int) (nd kd fr : Int) : Bool :=
  if kd = 12 then fr == r.pred else if kd = 14 then fr == r.pred else if kd = 13 then fr == r.succ
  else if kd = 15 then (r.tail && (fr != nd && decide (fr ∈ ns))) else if kd = 16 then (r.inn && (!r.tail && fr == tl))
  else if kd = 17 then (r.head && clientB fr) else if kd = 19 then (r.inn && clientB fr) else false
/-- Who is let in, of a configuration. -/
def admC (c : Cf) (nd kd fr : Int) : Bool := admB (rlOf c nd) (tailN c) c.ns nd kd fr
theorem cells8r {w : World} {b : Nat} {x0 x1 x2 x3 x4 x5 x6 x7 : Value} {t : TypeId} (h : w.heap[b]? = some (.cells #[x0, x1, x2, x3, x4, x5, x6, x7] t (0, 0))) :
    w.cell? ⟨b, 0, none⟩ = some x0 ∧ w.cell? ⟨b, 1, none⟩ = some x1 ∧ w.cell? ⟨b, 2, none⟩ = some x2 ∧ w.cell? ⟨b, 3, none⟩ = some x3 ∧ w.cell? ⟨b, 4, none⟩ = some x4 ∧ w.cell? ⟨b, 5, none⟩ = some x5 ∧ w.cell? ⟨b, 6, none⟩ = some x6 ∧ w.cell? ⟨b, 7, none⟩ = some x7 :=
  ⟨cell_of_row _ _ 0 _ _ _ h, cell_of_row _ _ 1 _ _ _ h, cell_of_row _ _ 2 _ _ _ h, cell_of_row _ _ 3 _ _ _ h, cell_of_row _ _ 4 _ _ _ h, cell_of_row _ _ 5 _ _ _ h, cell_of_row _ _ 6 _ _ _ h, cell_of_row _ _ 7 _ _ _ h⟩
end Go.Proofs.YtclfecninhipnaaGreatDoor
namespace Go.Proofs.YtclfecninhipnaaGreatDoor
open Go.RowKit
set_option linter.unusedVariables false
set_option linter.unusedSimpArgs false

theorem LCheck_any (w : World) (kd fr to ch ep ba nu se dn ve sl ke co ck cc ce cn gc ge gj : Int) (gf : Bool) (ga va ua dda : Option Addr) (gm gcp vm vcp um ucp dm dcp : Nat) (x : LV) (c : LC) (H : Nat → Prop) (hx : x = ⟨kd, fr, to, ch, ep, ba, nu, se, dn, ve, sl, ke, co, ck, cc, ce, cn, gc, ge, .slice ga gm gcp, gf, gj, .slice va vm vcp, .slice ua um ucp, .slice dda dm dcp⟩) (h : LtM w H x c) (hnf : c.ns.length ≤ 1000) (hH : ∀ k, H k → k < w.heap.size) (ht : Tab10 w) :
    Calls Tryz.prog 20 #[.agg #[.int .i64 kd, .int .i64 fr, .int .i64 to, .int .i64 ch, .int .u64 ep, .int .u64 ba, .int .u64 nu, .int .u64 se, .int .u64 dn, .int .u64 ve, .int .i64 sl, .int .u32 ke, .int .i64 co, .int .i64 ck, .int .i64 cc, .int .u64 ce, .int .i64 cn, .int .i64 gc, .int .u64 ge, .slice ga gm gcp, .bool gf, .int .i64 gj, .slice va vm vcp, .slice ua um ucp, .slice dda dm dcp]] w fun e w' => e = .returned (.int .i64 (chkE x c)) ∧ Kept NoB w w' := by
  have e1 : x.kd = kd := by rw [hx]
  have e2 : x.fr = fr := by rw [hx]
  have e3 : x.to = to := by rw [hx]
  by_cases hg : (kindB kd && (addrB fr && addrB to)) = true
  · simp only [Bool.and_eq_true] at hg
    have hE : chkE x c = if chkB x c kd.toNat then 0 else 4 := by unfold chkE; rw [e1, e2, e3, if_pos hg.1, if_pos hg.2.1, if_pos hg.2.2]
    rw [hE]
    exact LCheck_good w kd fr to ch ep ba nu se dn ve sl ke co ck cc ce cn gc ge gj gf ga va ua dda gm gcp vm vcp um ucp dm dcp x c H hx h hnf hH ht hg.1 hg.2.1 hg.2.2
  · have hf : (kindB kd && (addrB fr && addrB to)) = false := by simpa using hg
    have hE : chkE x c = if kindB kd then 4 else 1 := by
      unfold chkE
      rw [e1, e2, e3]
      cases h1 : kindB kd <;> cases h2 : addrB fr <;> cases h3 : addrB to <;> simp [h1, h2, h3] at hf ⊢
    rw [hE]
    exact LCheck_bad w kd fr to ch ep ba nu se dn ve sl ke co ck cc ce cn gc ge (.slice ga gm gcp) gf gj (.slice va vm vcp) (.slice ua um ucp) (.slice dda dm dcp) (kindB kd) (addrB fr) (addrB to) rfl rfl rfl hf ⟨_, _, _, rfl⟩ ⟨_, _, _, rfl⟩ ⟨_, _, _, rfl⟩ ⟨_, _, _, rfl⟩
/-- What Fence tells. -/
def fenceP (c : Cf) (nd : Int) (x : LV) (lc : LC) : Int :=
  if chkE x lc = 0 then (if x.to = nd then (if rgtB c then (if fencedB x.kd then (if x.ch = c.ch then (if x.ep = c.ep then (if admC c nd x.kd x.fr then 0 else 12) else 10) else 7) else 12) else 7) else 7) else 4
end Go.Proofs.YtclfecninhipnaaGreatDoor
namespace Go.Proofs.YtclfecninhipnaaGreatDoor
open Go.RowKit
set_option linter.unusedVariables false
set_option linter.unusedSimpArgs false

def farU14 (u : Up) : Bool := decide (2100 < u.d.length)
def far14 (c : LC) : Bool := (c.us.take 9).any farU14 || (decide (8 < c.us.length) || (decide (600 < c.vs.length) || (decide (2100 < c.ds.length) || decide (30 < c.ns.length))))
theorem far14_ns {c : LC} (h : far14 c = false) : c.ns.length ≤ 30 ∧ c.vs.length ≤ 600 ∧ c.us.length ≤ 8 ∧ c.ds.length ≤ 2100 := by
  unfold far14 at h
  simp only [Bool.or_eq_false_iff, decide_eq_false_iff_not] at h
  omega
theorem far14_us {c : LC} (h : far14 c = false) : ∀ u ∈ c.us, u.d.length ≤ 2100 := by
  have hl := (far14_ns h).2.2.1
  unfold far14 at h
  rw [Bool.or_eq_false_iff] at h
  intro u hu
  have := List.any_eq_false.1 h.1 u (by rw [List.take_of_length_le (by omega)]; exact hu)
  unfold farU14 at this
  simp at this
  exact this
end Go.Proofs.YtclfecninhipnaaGreatDoor
namespace Go.Proofs.YtclfecninhipnaaGreatDoor
open Go.ChangeShapes Go.WideShapes Go.ChangeAt Go.RowKit Go.Deep
set_option linter.unusedVariables false

section
variable {H : Type} {enc : TypeId × Value → H} {W : World} {base b0 : Nat}
set_option maxRecDepth 100000 in
theorem vt_cells10 {fuel : Nat} {c0 c1 c2 c3 c4 c5 : Value} {x : DataW H × List MemPlace} (ht : DataW.trod enc Tryz.prog W base (fun _ => true) true fuel 137 [c0, c1, c2, c3, c4, c5] = some x) :
    ∃ o : Vt, c0 = .int .i64 o.s ∧ c1 = .int .u64 o.b ∧ c2 = .int .i64 o.k ∧ c3 = .int .i64 o.ch ∧ c4 = .int .u64 o.ep ∧ c5 = .int .i64 o.nd ∧ VtNm o := by
  obtain ⟨xs, n', _, _, _, hxl, hg⟩ := DataW.trod_struct Tryz.underlying137 ht
  have hxl3 : xs.length = 3 := hxl
  match xs, hxl3 with
  | [y0, y1, y2], _ =>
    have g0 : DataW.trod enc Tryz.prog W base (fun _ => true) true n' 3 [c0] = some y0 := hg 0 _ rfl
    have g1 : DataW.trod enc Tryz.prog W base (fun _ => true) true n' 23 [c1] = some y1 := hg 1 _ rfl
    have g2 : DataW.trod enc Tryz.prog W base (fun _ => true) true n' 41 [c2, c3, c4, c5] = some y2 := hg 2 _ rfl
    obtain ⟨ys, m', _, _, _, hyl, hh⟩ := DataW.trod_struct Tryz.underlying41 g2
    have hyl4 : ys.length = 4 := hyl
    match ys, hyl4 with
    | [z0, z1, z2, z3], _ =>
      have q0 : DataW.trod enc Tryz.prog W base (fun _ => true) true m' 3 [c2] = some z0 := hh 0 _ rfl
      have q1 : DataW.trod enc Tryz.prog W base (fun _ => true) true m' 3 [c3] = some z1 := hh 1 _ rfl
      have q2 : DataW.trod enc Tryz.prog W base (fun _ => true) true m' 23 [c4] = some z2 := hh 2 _ rfl
      have q3 : DataW.trod enc Tryz.prog W base (fun _ => true) true m' 3 [c5] = some z3 := hh 3 _ rfl
      obtain ⟨k0, e0, _, w0⟩ := DataW.trod_int Tryz.underlying3 g0
      obtain ⟨k1, e1, _, w1⟩ := DataW.trod_int Tryz.underlying23 g1
      obtain ⟨k2, e2, _, w2⟩ := DataW.trod_int Tryz.underlying3 q0
      obtain ⟨k3, e3, _, w3⟩ := DataW.trod_int Tryz.underlying3 q1
      obtain ⟨k4, e4, _, w4⟩ := DataW.trod_int Tryz.underlying23 q2
      obtain ⟨k5, e5, _, w5⟩ := DataW.trod_int Tryz.underlying3 q3
      simp only [List.cons.injEq, and_true] at e0 e1 e2 e3 e4 e5
      subst e0 e1 e2 e3 e4 e5
      have h1 := bounds_u64 w1
      have h4 := bounds_u64 w4
      exact ⟨⟨k0, k1, k2, k3, k4, k5⟩, rfl, rfl, rfl, rfl, rfl, rfl, h1.1, h1.2, h4.1⟩
theorem list6w {α : Type} {cs : List α} (h : cs.length = 6) : ∃ c0 c1 c2 c3 c4 c5, cs = [c0, c1, c2, c3, c4, c5] := by
  match cs, h with
  | [c0, c1, c2, c3, c4, c5], _ => exact ⟨_, _, _, _, _, _, rfl⟩
/-- One cell that reads as a slice of votes. -/
theorem vts_cell10 {fuel : Nat} {c : Value} {x : DataW H × List MemPlace} (hf : DataW.trod enc Tryz.prog W base (fun _ => true) true fuel 45 [c] = some x) :
    ∃ l : List Vt, VRd W (fun k => k < W.heap.size) c l ∧ ∀ v ∈ l, VtNm v := by
  rcases open_slice Tryz.underlying45 hf with ⟨hcs, _⟩ | ⟨x, len, c, m, n, D, Pl, hcs, _, hl, hm, hmm, _, hi⟩
  · simp only [List.cons.injEq, and_true] at hcs
    subst hcs
    exact ⟨[], VRd.nil _ _, fun x h => by cases h⟩
  · simp only [List.cons.injEq, and_true] at hcs
    subst hcs
    simp only [if_true] at hmm
    subst hmm
    have hC : Tryz.prog.cellsOf 137 = 6 := by kernel_rfl
    rw [hC] at hi
    have key : ∀ j, j < m → ∃ it : Vt, W.cell? (x.add (j * 6)) = some (.int .i64 it.s) ∧ W.cell? ((x.add (j * 6)).add 1) = some (.int .u64 it.b) ∧ W.cell? ((x.add (j * 6)).add 2) = some (.int .i64 it.k) ∧ W.cell? ((x.add (j * 6)).add 3) = some (.int .i64 it.ch) ∧ W.cell? ((x.add (j * 6)).add 4) = some (.int .u64 it.ep) ∧ W.cell? ((x.add (j * 6)).add 5) = some (.int .i64 it.nd) ∧ VtNm it := by
      intro j hj
      obtain ⟨cs', hc, ht⟩ := hi j hj
      obtain ⟨_, hlen, hat⟩ := World.cells?_some hc
      obtain ⟨c0, c1, c2, c3, c4, c5, rfl⟩ := list6w hlen
      obtain ⟨o, rfl, rfl, rfl, rfl, rfl, rfl, hfit⟩ := vt_cells10 ht
      have a0 : ∀ y : Addr, y.add 0 = y := fun y => by unfold Addr.add; split <;> simp_all
      have h0 := hat 0 (by omega)
      rw [a0] at h0
      exact ⟨o, h0, hat 1 (by omega), hat 2 (by omega), hat 3 (by omega), hat 4 (by omega), hat 5 (by omega), hfit⟩
    obtain ⟨it, hit⟩ := pick_all17 vt0 key
    have hll : ((List.range len).map it).length = len := by simp
    refine ⟨(List.range len).map it, ⟨some x, m, by rw [hll], by rw [hll]; exact hl, hm, (fun h => by cases h), fun hp => ?_⟩, fun y hy => ?_⟩
    · rw [hll] at hp
      obtain ⟨h0, _⟩ := hit 0 (by omega)
      obtain ⟨b, o, spot⟩ := x
      have hspot : spot = none := by simpa [Addr.add] using World.cell?_spot h0
      subst hspot
      have hb := World.block_lt_of_cell? W _ h0
      rw [addr_add17] at hb
      refine ⟨b, o, rfl, hb, hb, fun j hj => ?_⟩
      rw [hll] at hj
      obtain ⟨e0, e1, e2, e3, e4, e5, hf⟩ := hit j (by omega)
      simp only [addr_add17] at e0 e1 e2 e3 e4 e5
      rw [List.getElem_map, List.getElem_range]
      exact ⟨e0, e1, e2, e3, e4, e5⟩
    · obtain ⟨j, hj, rfl⟩ := List.mem_map.1 hy
      rw [List.mem_range] at hj
      exact (hit j (by omega)).2.2.2.2.2.2
/-- One cell that reads as a slice of updates. -/
theorem us_cell10 {fuel : Nat} {c : Value} {x : DataW H × List MemPlace} (hf : DataW.trod enc Tryz.prog W base (fun _ => true) true fuel 46 [c] = some x) :
    ∃ l : List Up, UsAt W (fun k => k < W.heap.size) c l := by
  have h1 : ∃ a len cap, c = .slice a len cap := by
    rcases open_slice Tryz.underlying46 hf with ⟨hcs, _⟩ | ⟨x, l, c, m, n, D, Pl, hcs, _⟩
    · simp only [List.cons.injEq, and_true] at hcs
      exact ⟨_, _, _, hcs⟩
    · simp only [List.cons.injEq, and_true] at hcs
      exact ⟨_, _, _, hcs⟩
  obtain ⟨a, len, cap, rfl⟩ := h1
  obtain ⟨d, p⟩ := x
  obtain ⟨l, hl, _⟩ := us_open (enc := enc) (W := W) (base := base) (d := d) (p := p) ⟨fuel, by simpa [Value.cells] using hf⟩
  exact ⟨l, hl⟩
/-- A letter by value. -/
def LtV (w : World) (v : Value) (y : LV × LC) : Prop := v = .agg (lcs y.1) ∧ LtM w (fun k => k < w.heap.size) y.1 y.2
theorem array25 {α : Type} {cs : Array α} (h : cs.size = 25) : ∃ c0 c1 c2 c3 c4 c5 c6 c7 c8 c9 c10 c11 c12 c13 c14 c15 c16 c17 c18 c19 c20 c21 c22 c23 c24, cs = #[c0, c1, c2, c3, c4, c5, c6, c7, c8, c9, c10, c11, c12, c13, c14, c15, c16, c17, c18, c19, c20, c21, c22, c23, c24] := by
  obtain ⟨l⟩ := cs
  match l, h with
  | [c0, c1, c2, c3, c4, c5, c6, c7, c8, c9, c10, c11, c12, c13, c14, c15, c16, c17, c18, c19, c20, c21, c22, c23, c24], _ => exact ⟨c0, c1, c2, c3, c4, c5, c6, c7, c8, c9, c10, c11, c12, c13, c14, c15, c16, c17, c18, c19, c20, c21, c22, c23, c24, rfl⟩
set_option maxRecDepth 100000 in
set_option maxHeartbeats 2000000 in
theorem lt_open {r : Reach} {v : Value} {d : DataW H} {p : List MemPlace} (hv : Value.okWide Tryz.prog W r b0 48 v)
    (h : DataW.Trod enc Tryz.prog W base (fun _ => true) true 48 v d p) : ∃ y : LV × LC, LtV W v y := by
  obtain ⟨cs, rfl, hsz⟩ := okWide_struct Tryz.underlying48 hv
  have hC : Tryz.prog.cellsOf 48 = 25 := by kernel_rfl
  obtain ⟨c0, c1, c2, c3, c4, c5, c6, c7, c8, c9, c10, c11, c12, c13, c14, c15, c16, c17, c18, c19, c20, c21, c22, c23, c24, rfl⟩ := array25 (hsz.trans hC)
  obtain ⟨fuel, hf⟩ := h
  obtain ⟨xs, n', _, _, _, hxl, hg⟩ := DataW.trod_struct Tryz.underlying48 (by simpa [Value.cells] using hf)
  have hxl18 : xs.length = 18 := hxl
  match xs, hxl18 with
  | [y0, y1, y2, y3, y4, y5, y6, y7, y8, y9, y10, y11, y12, y13, y14, y15, y16, y17], _ =>
    have g0 : DataW.trod enc Tryz.prog W base (fun _ => true) true n' 3 [c0] = some y0 := hg 0 _ rfl
    have g1 : DataW.trod enc Tryz.prog W base (fun _ => true) true n' 3 [c1] = some y1 := hg 1 _ rfl
    have g2 : DataW.trod enc Tryz.prog W base (fun _ => true) true n' 3 [c2] = some y2 := hg 2 _ rfl
    have g3 : DataW.trod enc Tryz.prog W base (fun _ => true) true n' 3 [c3] = some y3 := hg 3 _ rfl
    have g4 : DataW.trod enc Tryz.prog W base (fun _ => true) true n' 23 [c4] = some y4 := hg 4 _ rfl
    have g5 : DataW.trod enc Tryz.prog W base (fun _ => true) true n' 23 [c5] = some y5 := hg 5 _ rfl
    have g6 : DataW.trod enc Tryz.prog W base (fun _ => true) true n' 23 [c6] = some y6 := hg 6 _ rfl
    have g7 : DataW.trod enc Tryz.prog W base (fun _ => true) true n' 23 [c7] = some y7 := hg 7 _ rfl
    have g8 : DataW.trod enc Tryz.prog W base (fun _ => true) true n' 23 [c8] = some y8 := hg 8 _ rfl
    have g9 : DataW.trod enc Tryz.prog W base (fun _ => true) true n' 23 [c9] = some y9 := hg 9 _ rfl
    have g10 : DataW.trod enc Tryz.prog W base (fun _ => true) true n' 3 [c10] = some y10 := hg 10 _ rfl
    have g11 : DataW.trod enc Tryz.prog W base (fun _ => true) true n' 22 [c11] = some y11 := hg 11 _ rfl
    have g12 : DataW.trod enc Tryz.prog W base (fun _ => true) true n' 29 [c12] = some y12 := hg 12 _ rfl
    have g13 : DataW.trod enc Tryz.prog W base (fun _ => true) true n' 41 [c13, c14, c15, c16] = some y13 := hg 13 _ rfl
    have g14 : DataW.trod enc Tryz.prog W base (fun _ => true) true n' 44 [c17, c18, c19, c20, c21] = some y14 := hg 14 _ rfl
    have g15 : DataW.trod enc Tryz.prog W base (fun _ => true) true n' 45 [c22] = some y15 := hg 15 _ rfl
    have g16 : DataW.trod enc Tryz.prog W base (fun _ => true) true n' 46 [c23] = some y16 := hg 16 _ rfl
    have g17 : DataW.trod enc Tryz.prog W base (fun _ => true) true n' 24 [c24] = some y17 := hg 17 _ rfl
    obtain ⟨k0, e0, _, w0⟩ := DataW.trod_int Tryz.underlying3 g0
    obtain ⟨k1, e1, _, w1⟩ := DataW.trod_int Tryz.underlying3 g1
    obtain ⟨k2, e2, _, w2⟩ := DataW.trod_int Tryz.underlying3 g2
    obtain ⟨k3, e3, _, w3⟩ := DataW.trod_int Tryz.underlying3 g3
    obtain ⟨k4, e4, _, w4⟩ := DataW.trod_int Tryz.underlying23 g4
    obtain ⟨k5, e5, _, w5⟩ := DataW.trod_int Tryz.underlying23 g5
    obtain ⟨k6, e6, _, w6⟩ := DataW.trod_int Tryz.underlying23 g6
    obtain ⟨k7, e7, _, w7⟩ := DataW.trod_int Tryz.underlying23 g7
    obtain ⟨k8, e8, _, w8⟩ := DataW.trod_int Tryz.underlying23 g8
    obtain ⟨k9, e9, _, w9⟩ := DataW.trod_int Tryz.underlying23 g9
    obtain ⟨k10, e10, _, w10⟩ := DataW.trod_int Tryz.underlying3 g10
    obtain ⟨k11, e11, _, w11⟩ := DataW.trod_int Tryz.underlying22 g11
    obtain ⟨k12, e12, _, w12⟩ := DataW.trod_int Tryz.underlying29 g12
    obtain ⟨zs, m', _, _, _, hzl, hh⟩ := DataW.trod_struct Tryz.underlying41 g13
    have hzl4 : zs.length = 4 := hzl
    match zs, hzl4 with
    | [z0, z1, z2, z3], _ =>
      have q0 : DataW.trod enc Tryz.prog W base (fun _ => true) true m' 3 [c13] = some z0 := hh 0 _ rfl
      have q1 : DataW.trod enc Tryz.prog W base (fun _ => true) true m' 3 [c14] = some z1 := hh 1 _ rfl
      have q2 : DataW.trod enc Tryz.prog W base (fun _ => true) true m' 23 [c15] = some z2 := hh 2 _ rfl
      have q3 : DataW.trod enc Tryz.prog W base (fun _ => true) true m' 3 [c16] = some z3 := hh 3 _ rfl
      obtain ⟨r0, f0, _, _⟩ := DataW.trod_int Tryz.underlying3 q0
      obtain ⟨r1, f1, _, _⟩ := DataW.trod_int Tryz.underlying3 q1
      obtain ⟨r2, f2, _, v2⟩ := DataW.trod_int Tryz.underlying23 q2
      obtain ⟨r3, f3, _, _⟩ := DataW.trod_int Tryz.underlying3 q3
      obtain ⟨cf, rfl, rfl, hns, rfl, rfl, hp0, hp1⟩ := cf_cells g14
      obtain ⟨vs, hvs, hvn⟩ := vts_cell10 g15
      obtain ⟨us, hus⟩ := us_cell10 g16
      obtain ⟨ds, hds⟩ := bsl_cell17 g17
      simp only [List.cons.injEq, and_true] at e0 e1 e2 e3 e4 e5 e6 e7 e8 e9 e10 e11 e12 f0 f1 f2 f3
      subst e0 e1 e2 e3 e4 e5 e6 e7 e8 e9 e10 e11 e12 f0 f1 f2 f3
      have hb := bounds_u64 w5
      exact ⟨(⟨k0, k1, k2, k3, k4, k5, k6, k7, k8, k9, k10, k11, k12, r0, r1, r2, r3, cf.ch, cf.ep, c19, cf.fr, cf.jn, c22, c23, c24⟩, ⟨cf.ns, vs, us, ds⟩), rfl, hns.mono (fun k hk _ => hk), hvs, hus, hds, hvn, hb.1, hb.2, (bounds_u64 v2).1, hp0, hp1⟩
/-- A letter's slices are slices. -/
theorem LtM.forms {w : World} {K : Nat → Prop} {x : LV} {c : LC} (h : LtM w K x c) : ∃ ga gm gcp va vm vcp ua um ucp dda dm dcp, x.gn = .slice ga gm gcp ∧ x.vo = .slice va vm vcp ∧ x.up = .slice ua um ucp ∧ x.da = .slice dda dm dcp := by
  obtain ⟨ga, gcp, e1, _⟩ := h.ns
  obtain ⟨va, vcp, e2⟩ := h.vs.form
  obtain ⟨ua, ucp, e3⟩ := h.us.form
  obtain ⟨dda, dcp, e4, _⟩ := h.ds
  exact ⟨_, _, _, _, _, _, _, _, _, _, _, _, e1, e2, e3, e4⟩
end
end Go.Proofs.YtclfecninhipnaaGreatDoor
