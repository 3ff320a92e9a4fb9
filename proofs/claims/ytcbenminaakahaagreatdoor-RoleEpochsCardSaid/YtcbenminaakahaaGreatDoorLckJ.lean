/-
  Package letter: Check, of any letter.
-/
import Derived.Test.YtcbenminaakahaaGreatDoorLckI
import Derived.Deep.WholeRow
namespace Go.Proofs.YtcbenminaakahaaGreatDoor
open Go.RowKit
set_option linter.unusedVariables false
set_option linter.unusedSimpArgs false

/-- A letter without its head. -/
def bare0 (x : LV) : LV := { x with kd := 0, fr := 0, to := 0 }
/-- Without these parts. -/
def drps (ns : List Nat) (y : LV) : LV := ns.foldl (fun y i => drp i y) y
def drpC (i : Nat) (c : LC) : LC :=
  match i with
  | 12 => { c with ns := [] }
  | 13 => { c with vs := [] }
  | 14 => { c with us := [] }
  | 15 => { c with us := [] }
  | 16 => { c with ds := [] }
  | 17 => { c with ds := [] }
  | _ => c
def drpsC (ns : List Nat) (c : LC) : LC := ns.foldl (fun c i => drpC i c) c
theorem drps_snoc (ns : List Nat) (i : Nat) (y : LV) : drps (ns ++ [i]) y = drp i (drps ns y) := by simp [drps]
theorem drpsC_snoc (ns : List Nat) (i : Nat) (c : LC) : drpsC (ns ++ [i]) c = drpC i (drpsC ns c) := by simp [drpsC]
theorem LtM.drp {w : World} {H : Nat → Prop} {x : LV} {c : LC} (h : LtM w H x c) (i : Nat) : LtM w H (Go.Proofs.YtcbenminaakahaaGreatDoor.drp i x) (drpC i c) := by
  obtain ⟨a1, a2, a3, a4, a5, a6, a7, a8, a9, a10⟩ := h
  unfold Go.Proofs.YtcbenminaakahaaGreatDoor.drp
  split
  all_goals first
    | exact ⟨a1, a2, a3, a4, a5, a6, a7, a8, a9, a10⟩
    | exact ⟨a1, a2, a3, a4, a5, Int.le_refl 0, (by decide : (0 : Int) ≤ 18446744073709551615), a8, a9, a10⟩
    | exact ⟨a1, a2, a3, a4, a5, a6, a7, Int.le_refl 0, a9, a10⟩
    | exact ⟨NSl.nil _ _, a2, a3, a4, a5, a6, a7, a8, Int.le_refl 0, (by unfold topE; decide : (0 : Int) ≤ topE)⟩
    | exact ⟨a1, VRd.nil _ _, a3, a4, (fun v hv => absurd hv (List.not_mem_nil)), a6, a7, a8, a9, a10⟩
    | exact ⟨a1, a2, UsAt.nil _ _, a4, a5, a6, a7, a8, a9, a10⟩
    | exact ⟨a1, a2, a3, BSl.nil _ _, a5, a6, a7, a8, a9, a10⟩
    | (unfold drpC; split <;> first | exact ⟨a1, a2, a3, a4, a5, a6, a7, a8, a9, a10⟩ | (exfalso; simp_all))
theorem LtM.drps {w : World} {H : Nat → Prop} {x : LV} {c : LC} (h : LtM w H x c) (ns : List Nat) : LtM w H (Go.Proofs.YtcbenminaakahaaGreatDoor.drps ns x) (drpsC ns c) := by
  unfold Go.Proofs.YtcbenminaakahaaGreatDoor.drps drpsC
  induction ns generalizing x c with
  | nil => exact h
  | cons i ns ih => exact ih (h.drp i)
theorem LtM.bare0 {w : World} {H : Nat → Prop} {x : LV} {c : LC} (h : LtM w H x c) : LtM w H (Go.Proofs.YtcbenminaakahaaGreatDoor.bare0 x) c := ⟨h.ns, h.vs, h.us, h.ds, h.vok, h.ba0, h.ba1, h.ce0, h.ge0, h.ge1⟩
theorem drp_head (i : Nat) (y : LV) : (drp i y).kd = y.kd ∧ (drp i y).fr = y.fr ∧ (drp i y).to = y.to := by
  unfold drp
  split <;> exact ⟨rfl, rfl, rfl⟩
theorem drps_head (ns : List Nat) (y : LV) : (drps ns y).kd = y.kd ∧ (drps ns y).fr = y.fr ∧ (drps ns y).to = y.to := by
  unfold drps
  induction ns generalizing y with
  | nil => exact ⟨rfl, rfl, rfl⟩
  | cons i ns ih =>
    have h1 := ih (drp i y)
    have h2 := drp_head i y
    exact ⟨h1.1.trans h2.1, h1.2.1.trans h2.2.1, h1.2.2.trans h2.2.2⟩
theorem drpC_ns (i : Nat) (c : LC) : (drpC i c).ns.length ≤ c.ns.length := by
  unfold drpC
  split <;> simp
theorem drpsC_ns (ns : List Nat) (c : LC) : (drpsC ns c).ns.length ≤ c.ns.length := by
  unfold drpsC
  induction ns generalizing c with
  | nil => exact Nat.le_refl _
  | cons i ns ih => exact Nat.le_trans (ih (drpC i c)) (drpC_ns i c)
/-- Is all but what the kind has zero, and each part right? -/
def chkB (x : LV) (c : LC) (kd : Nat) : Bool := (prtK kd).all (fun i => rgt i x c) && lz (drps (prtK kd) (bare0 x)) (drpsC (prtK kd) c)
/-- What Check tells. -/
def chkE (x : LV) (c : LC) : Int := if kindB x.kd then (if addrB x.fr then (if addrB x.to then (if chkB x c x.kd.toNat then 0 else 4) else 4) else 4) else 1
/-- What the loop has done. -/
def ChkRel (x : LV) (c : LC) (kd : Nat) (W : World) (g : Nat) (jv : Value) (wr : World) : Prop :=
  ∃ j, j ≤ (prtK kd).length ∧ jv = .int .i64 (j : Int) ∧ wr.heap[g]? = some (.cells (lcs (drps ((prtK kd).take j) (bare0 x))) 34 (0, 0)) ∧ ((prtK kd).take j).all (fun i => rgt i x c) = true ∧ Kept (fun k => k = g) W wr
set_option maxRecDepth 100000 in
set_option maxHeartbeats 4000000 in
theorem LCheck_bad (w : World) (kd fr to ch ep ba nu se dn ve sl ke co ck cc ce cn gc ge : Int) (gn : Value) (gf : Bool) (gj : Int) (vo up da : Value) (b1 b2 b3 : Bool) (h1 : kindB kd = b1) (h2 : addrB fr = b2) (h3 : addrB to = b3) (hb : (b1 && (b2 && b3)) = false) (hgn : ∃ a n c, gn = .slice a n c) (hvo : ∃ a n c, vo = .slice a n c) (hup : ∃ a n c, up = .slice a n c) (hda : ∃ a n c, da = .slice a n c) :
    Calls Tryz.prog 13 #[.agg #[.int .i64 kd, .int .i64 fr, .int .i64 to, .int .i64 ch, .int .u64 ep, .int .u64 ba, .int .u64 nu, .int .u64 se, .int .u64 dn, .int .u64 ve, .int .i64 sl, .int .u32 ke, .int .i64 co, .int .i64 ck, .int .i64 cc, .int .u64 ce, .int .i64 cn, .int .i64 gc, .int .u64 ge, gn, .bool gf, .int .i64 gj, vo, up, da]] w fun e w' => e = .returned (.int .i64 (if b1 then 4 else 1)) ∧ Kept NoB w w' := by
  obtain ⟨ga, gn, gc', rfl⟩ := hgn
  obtain ⟨va, vn, vc', rfl⟩ := hvo
  obtain ⟨ua, un, uc', rfl⟩ := hup
  obtain ⟨dda, dn', dc', rfl⟩ := hda
  have HIK := Lib.hid (fun w => LisKind_any w kd)
  have HA1 := Lib.hid (fun w => LAddress_any w fr)
  have HA2 := Lib.hid (fun w => LAddress_any w to)
  rw [h1] at HIK
  rw [h2] at HA1
  rw [h3] at HA2
  have c0 : (w.alloc (.cells #[.int .i64 kd, .int .i64 fr, .int .i64 to, .int .i64 ch, .int .u64 ep, .int .u64 ba, .int .u64 nu, .int .u64 se, .int .u64 dn, .int .u64 ve, .int .i64 sl, .int .u32 ke, .int .i64 co, .int .i64 ck, .int .i64 cc, .int .u64 ce, .int .i64 cn, .int .i64 gc, .int .u64 ge, .slice ga gn gc', .bool gf, .int .i64 gj, .slice va vn vc', .slice ua un uc', .slice dda dn' dc'] 34 (0, 0))).cell? ⟨w.heap.size, 0, none⟩ = some (.int .i64 kd) := cell_of_row _ _ 0 _ _ _ (heap_alloc_new w _)
  have c1 : (w.alloc (.cells #[.int .i64 kd, .int .i64 fr, .int .i64 to, .int .i64 ch, .int .u64 ep, .int .u64 ba, .int .u64 nu, .int .u64 se, .int .u64 dn, .int .u64 ve, .int .i64 sl, .int .u32 ke, .int .i64 co, .int .i64 ck, .int .i64 cc, .int .u64 ce, .int .i64 cn, .int .i64 gc, .int .u64 ge, .slice ga gn gc', .bool gf, .int .i64 gj, .slice va vn vc', .slice ua un uc', .slice dda dn' dc'] 34 (0, 0))).cell? ⟨w.heap.size, 1, none⟩ = some (.int .i64 fr) := cell_of_row _ _ 1 _ _ _ (heap_alloc_new w _)
  have c2 : (w.alloc (.cells #[.int .i64 kd, .int .i64 fr, .int .i64 to, .int .i64 ch, .int .u64 ep, .int .u64 ba, .int .u64 nu, .int .u64 se, .int .u64 dn, .int .u64 ve, .int .i64 sl, .int .u32 ke, .int .i64 co, .int .i64 ck, .int .i64 cc, .int .u64 ce, .int .i64 cn, .int .i64 gc, .int .u64 ge, .slice ga gn gc', .bool gf, .int .i64 gj, .slice va vn vc', .slice ua un uc', .slice dda dn' dc'] 34 (0, 0))).cell? ⟨w.heap.size, 2, none⟩ = some (.int .i64 to) := cell_of_row _ _ 2 _ _ _ (heap_alloc_new w _)
  clear h1 h2 h3
  cases b1 with
  | false =>
    clear hb
    go_enter Tryz.func13, Tryz.ntmps13
    go_wp2_with fail
    refine (HIK.out _).mono ?_
    rintro e w1 ⟨rfl, rfl⟩
    go_wp2
    go_ret
    exact ⟨rfl, (Kept.refl _ _).alloc _⟩
  | true =>
    cases b2 with
    | false =>
      clear hb
      go_enter Tryz.func13, Tryz.ntmps13
      go_wp2_with fail
      refine (HIK.out _).mono ?_
      rintro e w1 ⟨rfl, rfl⟩
      go_wp2_with fail
      refine (HA1.out _).mono ?_
      rintro e w1 ⟨rfl, rfl⟩
      go_wp2
      go_ret
      exact ⟨rfl, (Kept.refl _ _).alloc _⟩
    | true =>
      cases b3 with
      | true => cases hb
      | false =>
        clear hb
        go_enter Tryz.func13, Tryz.ntmps13
        go_wp2_with fail
        refine (HIK.out _).mono ?_
        rintro e w1 ⟨rfl, rfl⟩
        go_wp2_with fail
        refine (HA1.out _).mono ?_
        rintro e w1 ⟨rfl, rfl⟩
        go_wp2_with fail
        refine (HA2.out _).mono ?_
        rintro e w1 ⟨rfl, rfl⟩
        go_wp2
        go_ret
        exact ⟨rfl, (Kept.refl _ _).alloc _⟩
set_option maxRecDepth 100000 in
set_option maxHeartbeats 8000000 in
theorem LCheck_good (w : World) (kd fr to ch ep ba nu se dn ve sl ke co ck cc ce cn gc ge gj : Int) (gf : Bool) (ga va ua dda : Option Addr) (gm gcp vm vcp um ucp dm dcp : Nat) (x : LV) (c : LC) (H : Nat → Prop) (hx : x = ⟨kd, fr, to, ch, ep, ba, nu, se, dn, ve, sl, ke, co, ck, cc, ce, cn, gc, ge, .slice ga gm gcp, gf, gj, .slice va vm vcp, .slice ua um ucp, .slice dda dm dcp⟩) (h : LtM w H x c) (hnf : c.ns.length ≤ 1000) (hH : ∀ k, H k → k < w.heap.size) (ht : Tab10 w) (h1 : kindB kd = true) (h2 : addrB fr = true) (h3 : addrB to = true) :
    Calls Tryz.prog 13 #[.agg #[.int .i64 kd, .int .i64 fr, .int .i64 to, .int .i64 ch, .int .u64 ep, .int .u64 ba, .int .u64 nu, .int .u64 se, .int .u64 dn, .int .u64 ve, .int .i64 sl, .int .u32 ke, .int .i64 co, .int .i64 ck, .int .i64 cc, .int .u64 ce, .int .i64 cn, .int .i64 gc, .int .u64 ge, .slice ga gm gcp, .bool gf, .int .i64 gj, .slice va vm vcp, .slice ua um ucp, .slice dda dm dcp]] w fun e w' => e = .returned (.int .i64 (if chkB x c kd.toNat then 0 else 4)) ∧ Kept NoB w w' := by
  obtain ⟨eb, heb⟩ : ∃ v : Int, v = if chkB x c kd.toNat then 0 else 4 := ⟨_, rfl⟩
  have HEB : Hid (eb = if chkB x c kd.toNat then 0 else 4) := Lib.hid heb
  rw [← heb]
  clear heb
  have hkk : 1 ≤ kd ∧ kd ≤ 20 := by unfold kindB at h1; simpa using h1
  obtain ⟨n, hn⟩ : ∃ n : Nat, kd = (n : Int) := ⟨kd.toNat, by omega⟩
  have hn21 : n < 21 := by omega
  have hnn : kd.toNat = n := by omega
  rw [hnn] at HEB
  have HIK := Lib.hid (fun w => LisKind_any w kd)
  have HA1 := Lib.hid (fun w => LAddress_any w fr)
  have HA2 := Lib.hid (fun w => LAddress_any w to)
  rw [h1] at HIK
  rw [h2] at HA1
  rw [h3] at HA2
  clear h1 h2 h3 hkk hnn
  have HNN := Lib.hid hn
  clear hn
  obtain ⟨W0, hW0⟩ : ∃ W0, W0 = (w.alloc (.cells #[.int .i64 kd, .int .i64 fr, .int .i64 to, .int .i64 ch, .int .u64 ep, .int .u64 ba, .int .u64 nu, .int .u64 se, .int .u64 dn, .int .u64 ve, .int .i64 sl, .int .u32 ke, .int .i64 co, .int .i64 ck, .int .i64 cc, .int .u64 ce, .int .i64 cn, .int .i64 gc, .int .u64 ge, .slice ga gm gcp, .bool gf, .int .i64 gj, .slice va vm vcp, .slice ua um ucp, .slice dda dm dcp] 34 (0, 0))).alloc (.cells #[.int .i64 kd, .int .i64 fr, .int .i64 to, .int .i64 ch, .int .u64 ep, .int .u64 ba, .int .u64 nu, .int .u64 se, .int .u64 dn, .int .u64 ve, .int .i64 sl, .int .u32 ke, .int .i64 co, .int .i64 ck, .int .i64 cc, .int .u64 ce, .int .i64 cn, .int .i64 gc, .int .u64 ge, .slice ga gm gcp, .bool gf, .int .i64 gj, .slice va vm vcp, .slice ua um ucp, .slice dda dm dcp] 34 (0, 0)) := ⟨_, rfl⟩
  have g1 : W0.heap[w.heap.size]? = some (.cells #[.int .i64 kd, .int .i64 fr, .int .i64 to, .int .i64 ch, .int .u64 ep, .int .u64 ba, .int .u64 nu, .int .u64 se, .int .u64 dn, .int .u64 ve, .int .i64 sl, .int .u32 ke, .int .i64 co, .int .i64 ck, .int .i64 cc, .int .u64 ce, .int .i64 cn, .int .i64 gc, .int .u64 ge, .slice ga gm gcp, .bool gf, .int .i64 gj, .slice va vm vcp, .slice ua um ucp, .slice dda dm dcp] 34 (0, 0)) := by rw [hW0]; exact blkU_alloc (heap_alloc_new w _) _
  have esz : (w.alloc (.cells #[.int .i64 kd, .int .i64 fr, .int .i64 to, .int .i64 ch, .int .u64 ep, .int .u64 ba, .int .u64 nu, .int .u64 se, .int .u64 dn, .int .u64 ve, .int .i64 sl, .int .u32 ke, .int .i64 co, .int .i64 ck, .int .i64 cc, .int .u64 ce, .int .i64 cn, .int .i64 gc, .int .u64 ge, .slice ga gm gcp, .bool gf, .int .i64 gj, .slice va vm vcp, .slice ua um ucp, .slice dda dm dcp] 34 (0, 0))).heap.size = w.heap.size + 1 := by simp
  have g2 : W0.heap[w.heap.size + 1]? = some (.cells #[.int .i64 kd, .int .i64 fr, .int .i64 to, .int .i64 ch, .int .u64 ep, .int .u64 ba, .int .u64 nu, .int .u64 se, .int .u64 dn, .int .u64 ve, .int .i64 sl, .int .u32 ke, .int .i64 co, .int .i64 ck, .int .i64 cc, .int .u64 ce, .int .i64 cn, .int .i64 gc, .int .u64 ge, .slice ga gm gcp, .bool gf, .int .i64 gj, .slice va vm vcp, .slice ua um ucp, .slice dda dm dcp] 34 (0, 0)) := by
    have := heap_alloc_new (w.alloc (.cells #[.int .i64 kd, .int .i64 fr, .int .i64 to, .int .i64 ch, .int .u64 ep, .int .u64 ba, .int .u64 nu, .int .u64 se, .int .u64 dn, .int .u64 ve, .int .i64 sl, .int .u32 ke, .int .i64 co, .int .i64 ck, .int .i64 cc, .int .u64 ce, .int .i64 cn, .int .i64 gc, .int .u64 ge, .slice ga gm gcp, .bool gf, .int .i64 gj, .slice va vm vcp, .slice ua um ucp, .slice dda dm dcp] 34 (0, 0))) (.cells #[.int .i64 kd, .int .i64 fr, .int .i64 to, .int .i64 ch, .int .u64 ep, .int .u64 ba, .int .u64 nu, .int .u64 se, .int .u64 dn, .int .u64 ve, .int .i64 sl, .int .u32 ke, .int .i64 co, .int .i64 ck, .int .i64 cc, .int .u64 ce, .int .i64 cn, .int .i64 gc, .int .u64 ge, .slice ga gm gcp, .bool gf, .int .i64 gj, .slice va vm vcp, .slice ua um ucp, .slice dda dm dcp] 34 (0, 0))
    rw [esz] at this
    rw [hW0]; exact this
  have HSR : Hid (((w.alloc (.cells #[.int .i64 kd, .int .i64 fr, .int .i64 to, .int .i64 ch, .int .u64 ep, .int .u64 ba, .int .u64 nu, .int .u64 se, .int .u64 dn, .int .u64 ve, .int .i64 sl, .int .u32 ke, .int .i64 co, .int .i64 ck, .int .i64 cc, .int .u64 ce, .int .i64 cn, .int .i64 gc, .int .u64 ge, .slice ga gm gcp, .bool gf, .int .i64 gj, .slice va vm vcp, .slice ua um ucp, .slice dda dm dcp] 34 (0, 0))).alloc (.cells #[.int .i64 0, .int .i64 0, .int .i64 0, .int .i64 0, .int .u64 0, .int .u64 0, .int .u64 0, .int .u64 0, .int .u64 0, .int .u64 0, .int .i64 0, .int .u32 0, .int .i64 0, .int .i64 0, .int .i64 0, .int .u64 0, .int .i64 0, .int .i64 0, .int .u64 0, .slice none 0 0, .bool false, .int .i64 0, .slice none 0 0, .slice none 0 0, .slice none 0 0] 34 (0, 0))).setRow (w.heap.size + 1) #[.int .i64 kd, .int .i64 fr, .int .i64 to, .int .i64 ch, .int .u64 ep, .int .u64 ba, .int .u64 nu, .int .u64 se, .int .u64 dn, .int .u64 ve, .int .i64 sl, .int .u32 ke, .int .i64 co, .int .i64 ck, .int .i64 cc, .int .u64 ce, .int .i64 cn, .int .i64 gc, .int .u64 ge, .slice ga gm gcp, .bool gf, .int .i64 gj, .slice va vm vcp, .slice ua um ucp, .slice dda dm dcp] = W0) := Lib.hid (by
    have := World.setRow_alloc_new (w.alloc (.cells #[.int .i64 kd, .int .i64 fr, .int .i64 to, .int .i64 ch, .int .u64 ep, .int .u64 ba, .int .u64 nu, .int .u64 se, .int .u64 dn, .int .u64 ve, .int .i64 sl, .int .u32 ke, .int .i64 co, .int .i64 ck, .int .i64 cc, .int .u64 ce, .int .i64 cn, .int .i64 gc, .int .u64 ge, .slice ga gm gcp, .bool gf, .int .i64 gj, .slice va vm vcp, .slice ua um ucp, .slice dda dm dcp] 34 (0, 0))) #[.int .i64 0, .int .i64 0, .int .i64 0, .int .i64 0, .int .u64 0, .int .u64 0, .int .u64 0, .int .u64 0, .int .u64 0, .int .u64 0, .int .i64 0, .int .u32 0, .int .i64 0, .int .i64 0, .int .i64 0, .int .u64 0, .int .i64 0, .int .i64 0, .int .u64 0, .slice none 0 0, .bool false, .int .i64 0, .slice none 0 0, .slice none 0 0, .slice none 0 0] #[.int .i64 kd, .int .i64 fr, .int .i64 to, .int .i64 ch, .int .u64 ep, .int .u64 ba, .int .u64 nu, .int .u64 se, .int .u64 dn, .int .u64 ve, .int .i64 sl, .int .u32 ke, .int .i64 co, .int .i64 ck, .int .i64 cc, .int .u64 ce, .int .i64 cn, .int .i64 gc, .int .u64 ge, .slice ga gm gcp, .bool gf, .int .i64 gj, .slice va vm vcp, .slice ua um ucp, .slice dda dm dcp] 34
    rw [esz] at this
    rw [hW0]; exact this)
  have HGZ : Hid (((w.alloc (.cells #[.int .i64 kd, .int .i64 fr, .int .i64 to, .int .i64 ch, .int .u64 ep, .int .u64 ba, .int .u64 nu, .int .u64 se, .int .u64 dn, .int .u64 ve, .int .i64 sl, .int .u32 ke, .int .i64 co, .int .i64 ck, .int .i64 cc, .int .u64 ce, .int .i64 cn, .int .i64 gc, .int .u64 ge, .slice ga gm gcp, .bool gf, .int .i64 gj, .slice va vm vcp, .slice ua um ucp, .slice dda dm dcp] 34 (0, 0))).alloc (.cells #[.int .i64 0, .int .i64 0, .int .i64 0, .int .i64 0, .int .u64 0, .int .u64 0, .int .u64 0, .int .u64 0, .int .u64 0, .int .u64 0, .int .i64 0, .int .u32 0, .int .i64 0, .int .i64 0, .int .i64 0, .int .u64 0, .int .i64 0, .int .i64 0, .int .u64 0, .slice none 0 0, .bool false, .int .i64 0, .slice none 0 0, .slice none 0 0, .slice none 0 0] 34 (0, 0))).heap[w.heap.size + 1]? = some (.cells #[.int .i64 0, .int .i64 0, .int .i64 0, .int .i64 0, .int .u64 0, .int .u64 0, .int .u64 0, .int .u64 0, .int .u64 0, .int .u64 0, .int .i64 0, .int .u32 0, .int .i64 0, .int .i64 0, .int .i64 0, .int .u64 0, .int .i64 0, .int .i64 0, .int .u64 0, .slice none 0 0, .bool false, .int .i64 0, .slice none 0 0, .slice none 0 0, .slice none 0 0] 34 (0, 0))) := Lib.hid (by
    have := heap_alloc_new (w.alloc (.cells #[.int .i64 kd, .int .i64 fr, .int .i64 to, .int .i64 ch, .int .u64 ep, .int .u64 ba, .int .u64 nu, .int .u64 se, .int .u64 dn, .int .u64 ve, .int .i64 sl, .int .u32 ke, .int .i64 co, .int .i64 ck, .int .i64 cc, .int .u64 ce, .int .i64 cn, .int .i64 gc, .int .u64 ge, .slice ga gm gcp, .bool gf, .int .i64 gj, .slice va vm vcp, .slice ua um ucp, .slice dda dm dcp] 34 (0, 0))) (.cells #[.int .i64 0, .int .i64 0, .int .i64 0, .int .i64 0, .int .u64 0, .int .u64 0, .int .u64 0, .int .u64 0, .int .u64 0, .int .u64 0, .int .i64 0, .int .u32 0, .int .i64 0, .int .i64 0, .int .i64 0, .int .u64 0, .int .i64 0, .int .i64 0, .int .u64 0, .slice none 0 0, .bool false, .int .i64 0, .slice none 0 0, .slice none 0 0, .slice none 0 0] 34 (0, 0))
    rw [esz] at this
    exact this)
  have kW0 : Kept NoB w W0 := by rw [hW0]; exact ((Kept.refl NoB w).alloc _).alloc _
  have sW0 : W0.heap.size = w.heap.size + 2 := by rw [hW0]; simp
  have HNE : Hid (¬ w.heap.size + 1 = w.heap.size) := Lib.hid (by omega)
  clear hW0
  obtain ⟨W, hW⟩ : ∃ W, W = ((W0.setCell ⟨w.heap.size + 1, 0, none⟩ (.int .i64 0)).setCell ⟨w.heap.size + 1, 1, none⟩ (.int .i64 0)).setCell ⟨w.heap.size + 1, 2, none⟩ (.int .i64 0) := ⟨_, rfl⟩
  have hh1 : W.heap[w.heap.size]? = some (.cells (lcs x) 34 (0, 0)) := by rw [hW, hx]; exact blkU_set_other (blkU_set_other (blkU_set_other g1 _ _ HNE.out) _ _ HNE.out) _ _ HNE.out
  have hh2 : W.heap[w.heap.size + 1]? = some (.cells (lcs (bare0 x)) 34 (0, 0)) := by
    have a0 := blkU_set g2 0 (.int .i64 0)
    have a1 := blkU_set a0 1 (.int .i64 0)
    rw [hW, hx]
    exact blkU_set a1 2 _
  have hkW : Kept NoB w W := by
    rw [hW]
    exact ((kW0.setCell (p := ⟨w.heap.size + 1, 0, none⟩) (.inr (by show w.heap.size ≤ w.heap.size + 1; omega)) _).setCell (p := ⟨w.heap.size + 1, 1, none⟩) (.inr (by show w.heap.size ≤ w.heap.size + 1; omega)) _).setCell (p := ⟨w.heap.size + 1, 2, none⟩) (.inr (by show w.heap.size ≤ w.heap.size + 1; omega)) _
  have hsW : W.heap.size = w.heap.size + 2 := by rw [hW]; simp [World.setCell, sW0]
  have d0 : W0.cell? ⟨w.heap.size + 1, 0, none⟩ = some (.int .i64 kd) := cell_of_row _ _ 0 _ _ _ g2
  have d1 : W0.cell? ⟨w.heap.size + 1, 1, none⟩ = some (.int .i64 fr) := cell_of_row _ _ 1 _ _ _ g2
  have d2 : W0.cell? ⟨w.heap.size + 1, 2, none⟩ = some (.int .i64 to) := cell_of_row _ _ 2 _ _ _ g2
  have z0 := blkU_frozen g2
  have e0 : W.cell? ⟨w.heap.size, 0, none⟩ = some (.int .i64 kd) := by rw [cell_of_row _ _ 0 _ _ _ hh1, hx]; rfl
  clear g1 g2 kW0 sW0 esz
  have HH1 := Lib.hid hh1
  have HH2 := Lib.hid hh2
  have HKW := Lib.hid hkW
  have HSW := Lib.hid hsW
  have HX := Lib.hid (h.no hkW)
  have HF := Lib.hid hH
  have HW := Lib.hid hW
  have HPO : Hid (Calls Tryz.prog 58 #[.int .i64 kd] W (PartsEnd W n)) := Lib.hid (by rw [HNN.out]; exact partsOf_any W n hn21 (ht.kept hkW (fun h => h)))
  have HXE := Lib.hid hx
  have c0 : (w.alloc (.cells #[.int .i64 kd, .int .i64 fr, .int .i64 to, .int .i64 ch, .int .u64 ep, .int .u64 ba, .int .u64 nu, .int .u64 se, .int .u64 dn, .int .u64 ve, .int .i64 sl, .int .u32 ke, .int .i64 co, .int .i64 ck, .int .i64 cc, .int .u64 ce, .int .i64 cn, .int .i64 gc, .int .u64 ge, .slice ga gm gcp, .bool gf, .int .i64 gj, .slice va vm vcp, .slice ua um ucp, .slice dda dm dcp] 34 (0, 0))).cell? ⟨w.heap.size, 0, none⟩ = some (.int .i64 kd) := cell_of_row _ _ 0 _ _ _ (heap_alloc_new w _)
  have c1 : (w.alloc (.cells #[.int .i64 kd, .int .i64 fr, .int .i64 to, .int .i64 ch, .int .u64 ep, .int .u64 ba, .int .u64 nu, .int .u64 se, .int .u64 dn, .int .u64 ve, .int .i64 sl, .int .u32 ke, .int .i64 co, .int .i64 ck, .int .i64 cc, .int .u64 ce, .int .i64 cn, .int .i64 gc, .int .u64 ge, .slice ga gm gcp, .bool gf, .int .i64 gj, .slice va vm vcp, .slice ua um ucp, .slice dda dm dcp] 34 (0, 0))).cell? ⟨w.heap.size, 1, none⟩ = some (.int .i64 fr) := cell_of_row _ _ 1 _ _ _ (heap_alloc_new w _)
  have c2 : (w.alloc (.cells #[.int .i64 kd, .int .i64 fr, .int .i64 to, .int .i64 ch, .int .u64 ep, .int .u64 ba, .int .u64 nu, .int .u64 se, .int .u64 dn, .int .u64 ve, .int .i64 sl, .int .u32 ke, .int .i64 co, .int .i64 ck, .int .i64 cc, .int .u64 ce, .int .i64 cn, .int .i64 gc, .int .u64 ge, .slice ga gm gcp, .bool gf, .int .i64 gj, .slice va vm vcp, .slice ua um ucp, .slice dda dm dcp] 34 (0, 0))).cell? ⟨w.heap.size, 2, none⟩ = some (.int .i64 to) := cell_of_row _ _ 2 _ _ _ (heap_alloc_new w _)
  clear hh1 hh2 hkW hsW h hx ht hH hn21 hW
  go_enter Tryz.func13, Tryz.ntmps13
  go_wp2_with fail
  refine (HIK.out _).mono ?_
  rintro e w1 ⟨rfl, rfl⟩
  go_wp2_with fail
  refine (HA1.out _).mono ?_
  rintro e w1 ⟨rfl, rfl⟩
  go_wp2_with fail
  refine (HA2.out _).mono ?_
  rintro e w1 ⟨rfl, rfl⟩
  have HG0 := Lib.hid (heap_alloc_new w (.cells #[.int .i64 kd, .int .i64 fr, .int .i64 to, .int .i64 ch, .int .u64 ep, .int .u64 ba, .int .u64 nu, .int .u64 se, .int .u64 dn, .int .u64 ve, .int .i64 sl, .int .u32 ke, .int .i64 co, .int .i64 ck, .int .i64 cc, .int .u64 ce, .int .i64 cn, .int .i64 gc, .int .u64 ge, .slice ga gm gcp, .bool gf, .int .i64 gj, .slice va vm vcp, .slice ua um ucp, .slice dda dm dcp] 34 (0, 0)))
  clear c0 c1 c2
  have hone : (#[.int .i64 kd, .int .i64 fr, .int .i64 to, .int .i64 ch, .int .u64 ep, .int .u64 ba, .int .u64 nu, .int .u64 se, .int .u64 dn, .int .u64 ve, .int .i64 sl, .int .u32 ke, .int .i64 co, .int .i64 ck, .int .i64 cc, .int .u64 ce, .int .i64 cn, .int .i64 gc, .int .u64 ge, .slice ga gm gcp, .bool gf, .int .i64 gj, .slice va vm vcp, .slice ua um ucp, .slice dda dm dcp] : Array Value).all (·.oneCell') = true := by rw [← Array.all_toList]; rfl
  have HONE := Lib.hid hone
  clear hone
  go_upto_region 7 with (first
    | (refine wpList_load_row rfl 34 _ rfl w.heap.size rfl 34 #[.int .i64 kd, .int .i64 fr, .int .i64 to, .int .i64 ch, .int .u64 ep, .int .u64 ba, .int .u64 nu, .int .u64 se, .int .u64 dn, .int .u64 ve, .int .i64 sl, .int .u32 ke, .int .i64 co, .int .i64 ck, .int .i64 cc, .int .u64 ce, .int .i64 cn, .int .i64 gc, .int .u64 ge, .slice ga gm gcp, .bool gf, .int .i64 gj, .slice va vm vcp, .slice ua um ucp, .slice dda dm dcp] (0, 0) _ HG0.out Tryz.underlying34 rfl (by kernel_rfl) ?_)
    | (refine wpList_store_row rfl 34 _ _ rfl (w.heap.size + 1) #[.int .i64 kd, .int .i64 fr, .int .i64 to, .int .i64 ch, .int .u64 ep, .int .u64 ba, .int .u64 nu, .int .u64 se, .int .u64 dn, .int .u64 ve, .int .i64 sl, .int .u32 ke, .int .i64 co, .int .i64 ck, .int .i64 cc, .int .u64 ce, .int .i64 cn, .int .i64 gc, .int .u64 ge, .slice ga gm gcp, .bool gf, .int .i64 gj, .slice va vm vcp, .slice ua um ucp, .slice dda dm dcp] rfl rfl 34 #[.int .i64 0, .int .i64 0, .int .i64 0, .int .i64 0, .int .u64 0, .int .u64 0, .int .u64 0, .int .u64 0, .int .u64 0, .int .u64 0, .int .i64 0, .int .u32 0, .int .i64 0, .int .i64 0, .int .i64 0, .int .u64 0, .int .i64 0, .int .i64 0, .int .u64 0, .slice none 0 0, .bool false, .int .i64 0, .slice none 0 0, .slice none 0 0, .slice none 0 0] HGZ.out (by kernel_rfl) rfl HONE.out ?_; rw [HSR.out]))
  rw [← HW.out]
  clear d0 d1 d2 z0
  go_wp2_with fail
  refine HPO.out.mono ?_
  rintro e w1 ⟨pa, pc, ps, rfl, hrow, hps, hk⟩
  have HROW := Lib.hid hrow
  have HPS := Lib.hid hps
  have HK1 := Lib.hid hk
  have HR1 := Lib.hid (hk.heap (fun h => h) HH1.out)
  have HR2 := Lib.hid (hk.heap (fun h => h) HH2.out)
  have HX1 := Lib.hid (HX.out.no hk)
  have HLN := Lib.hid (prtK_len n)
  clear hrow hps hk
  go_wp2
  generalize Value.agg #[.int .i64 kd, .int .i64 fr, .int .i64 to, .int .i64 ch, .int .u64 ep, .int .u64 ba, .int .u64 nu, .int .u64 se, .int .u64 dn, .int .u64 ve, .int .i64 sl, .int .u32 ke, .int .i64 co, .int .i64 ck, .int .i64 cc, .int .u64 ce, .int .i64 cn, .int .i64 gc, .int .u64 ge, .slice ga gm gcp, .bool gf, .int .i64 gj, .slice va vm vcp, .slice ua um ucp, .slice dda dm dcp] = LV0
  go_loopw [28] (ChkRel x c n w1 (w.heap.size + 1)) (fun j _ => (prtK n).length - (RowKit.intOf j).toNat)
  case atStart => exact ⟨0, Nat.zero_le _, rfl, HR2.out, rfl, Kept.refl _ _⟩
  case round =>
    obtain ⟨j, hj, rfl, hg2, hall, hK⟩ := hrel
    have HAL := Lib.hid hall
    have hsB : ∀ k, W.heap.size ≤ k → ¬ k = w.heap.size + 1 := fun k hk => by have := HSW.out; omega
    have HG2 := Lib.hid hg2
    have HKR := Lib.hid hK
    have HRW := Lib.hid (HROW.out.kept hK hsB)
    have HPR := Lib.hid (HPS.out.kept hK hsB)
    have HG1 := Lib.hid (hK.heap (k := w.heap.size) (by omega) HR1.out)
    have HXR := Lib.hid (HX1.out.kept hK (fun k hf => by have := HF.out k hf; omega))
    have hj0 : (0 : Int) ≤ (j : Int) := by omega
    have hj18 : (j : Int) ≤ 18 := by have := HLN.out; omega
    clear hg2 hK hsB hall
    by_cases hlt : j < (prtK n).length
    · have hlen := HPS.out.1
      obtain ⟨r, rfl, hBr, f0, f1, f2, f3⟩ := HRW.out.at_ (j := j) (by omega)
      have hp := HPR.out.2 j hlt
      rw [show ps.getD j q40 = ps[j]'(by omega) by rw [List.getD_eq_getElem?_getD, List.getElem?_eq_getElem (by omega)]; rfl] at hp
      obtain ⟨hone, P, fn1, fn4, k1, k4, hP, hpl⟩ := hp
      obtain ⟨i, hi⟩ : ∃ i, i = (prtK n).getD j 0 := ⟨_, rfl⟩
      rw [← hi] at hpl
      obtain ⟨q, hq⟩ : ∃ q, q = ps[j]'(by omega) := ⟨_, rfl⟩
      rw [← hq] at f0 f1 f2 f3 hone hpl
      obtain ⟨qa, qb, qc, qd⟩ := q
      obtain ⟨pa1, pd1, ⟨fn2, k2, pb1⟩, ⟨fn3, k3, pc1⟩, pe1, pe4, pr, pdr⟩ := hpl
      simp only at f0 f1 f2 f3 pa1 pd1 pb1 pc1
      subst pa1 pd1 pb1 pc1
      have HTK : Hid ((prtK n).take (j + 1) = (prtK n).take j ++ [i]) := Lib.hid (by rw [List.take_succ_eq_append_getElem hlt, hi, List.getD_eq_getElem?_getD, List.getElem?_eq_getElem hlt]; rfl)
      have hka := (Kept.refl NoB wr).alloc (.cells #[.func (.func fn1) #[] k1, .func (.func fn2) #[] k2, .func (.func fn3) #[] k3, .func (.func fn4) #[] k4] 106 (0, 0))
      obtain ⟨b0, b1, b2, b3⟩ := cells4p (heap_alloc_new wr (.cells #[.func (.func fn1) #[] k1, .func (.func fn2) #[] k2, .func (.func fn3) #[] k3, .func (.func fn4) #[] k4] 106 (0, 0)))
      have HB := Lib.hid (heap_alloc_new wr (.cells #[.func (.func fn1) #[] k1, .func (.func fn2) #[] k2, .func (.func fn3) #[] k3, .func (.func fn4) #[] k4] 106 (0, 0)))
      have hR := pr NoB _ hka (fun _ _ h => h) w.heap.size x c H (hka.heap (fun h => h) HG1.out) (HXR.out.no hka) hnf
      have HKA := Lib.hid hka
      have HDR := Lib.hid pdr
      have hent1 : ∀ (args : Array Value) (w : World), Sem.run Tryz.prog (callFunc fn1 args) w = .ok (.enter fn1 args) w := pe1
      have hent4 : ∀ (args : Array Value) (w : World), Sem.run Tryz.prog (callFunc fn4 args) w = .ok (.enter fn4 args) w := pe4
      obtain ⟨rb, hrb⟩ : ∃ rb, rb = rgt i x c := ⟨_, rfl⟩
      rw [← hrb] at hR
      have HRI := Lib.hid hR
      have HRB := Lib.hid hrb
      have hj1 : (j : Int) < ((prtK n).length : Int) := by omega
      obtain ⟨m, hm⟩ : ∃ m, m = (prtK n).length := ⟨_, rfl⟩
      have HM := Lib.hid hm
      have HLT := Lib.hid hlt
      have HI := Lib.hid hi
      clear hka hR hrb hone hP pr pdr pe1 pe4 hq hi hlen hBr
      cases rb with
      | false =>
        as_aux_lemma =>
          go_wp2_with fail
          refine HRI.out.mono ?_
          rintro e w2 ⟨rfl, hk2⟩
          have HK2 := Lib.hid (HKR.out.trans (HKA.out.trans hk2 (fun _ _ h => h)) (fun _ _ h => absurd h (fun h => h)))
          clear hk2
          go_wp2
          go_ret
          refine ⟨?_, (HKW.out.trans HK1.out (fun _ _ h => h)).trans HK2.out (fun i hi h => by omega)⟩
          have hf : chkB x c n = false := by
            unfold chkB
            rw [show ((prtK n).all fun i => rgt i x c) = false from ?_]
            · rfl
            · rw [Bool.eq_false_iff]
              intro hall
              have := List.all_eq_true.1 hall i (by rw [HI.out, List.getD_eq_getElem?_getD, List.getElem?_eq_getElem HLT.out]; exact List.getElem_mem _)
              rw [← HRB.out] at this
              cases this
          rw [HEB.out, hf]
          rfl
      | true =>
        as_aux_lemma =>
          go_wp2_with fail
          refine HRI.out.mono ?_
          rintro e w2 ⟨rfl, hk2⟩
          have hb2 := hk2.heap (fun h => h) HB.out
          obtain ⟨b0, b1, b2, b3⟩ := cells4p hb2
          have hk02 := HKA.out.trans hk2 (fun _ _ h => h)
          have hg2 := hk02.heap (fun h => h) HG2.out
          have HD := Lib.hid (HDR.out NoB w2 hk02 (fun _ _ h => h) (w.heap.size + 1) _ hg2)
          have HK2 := Lib.hid (HKR.out.trans hk02 (fun _ _ h => absurd h (fun h => h)))
          clear hk2 hb2 hg2 hk02
          go_wp2_with fail
          refine HD.out.mono ?_
          rintro e w3 ⟨rfl, hg3, hk3⟩
          have HG3 := Lib.hid hg3
          have HK3 := Lib.hid (HK2.out.trans hk3 (fun _ _ h => h))
          clear hg3 hk3
          go_wp2
          refine ⟨⟨j + 1, HLT.out, by go_num, ?_, ?_, HK3.out⟩, by simp [RowKit.intOf]; have := HLT.out; omega⟩
          · rw [HTK.out, drps_snoc]; exact HG3.out
          · rw [HTK.out, List.all_append, HAL.out]; simp [← HRB.out]
    · as_aux_lemma =>
        have hjn : j = (prtK n).length := by omega
        have HJN := Lib.hid hjn
        have hnlt : ¬ (j : Int) < ((prtK n).length : Int) := by omega
        have hall := HAL.out
        have hz := HG2.out
        have hm1 := (HXR.out.bare0).drps (prtK n)
        have hhd := drps_head (prtK n) (bare0 x)
        rw [hjn, List.take_length] at hall hz
        obtain ⟨y, hy⟩ : ∃ y, y = drps (prtK n) (bare0 x) := ⟨_, rfl⟩
        obtain ⟨d, hd⟩ : ∃ d, d = drpsC (prtK n) c := ⟨_, rfl⟩
        have hch : chkB x c n = lz y d := by unfold chkB; rw [hall, hy, hd]; rfl
        have hnd : d.ns.length ≤ 1000 := by rw [hd]; exact Nat.le_trans (drpsC_ns _ _) hnf
        rw [← hy, ← hd] at hm1
        rw [← hy] at hz hhd
        have HCH := Lib.hid hch
        have hb0 : (bare0 x).kd = 0 ∧ (bare0 x).fr = 0 ∧ (bare0 x).to = 0 := ⟨rfl, rfl, rfl⟩
        rw [hb0.1, hb0.2.1, hb0.2.2] at hhd
        clear hy hd hch hall hb0 hjn
        obtain ⟨ykd, yfr, yto, ych, yep, yba, ynu, yse, ydn, yve, ysl, yke, yco, yck, ycc, yce, ycn, ygc, yge, ygn, ygf, ygj, yvo, yup, yda⟩ := y
        simp only at hhd
        obtain ⟨rfl, rfl, rfl⟩ := hhd
        have HK3 := Lib.hid ((HKW.out.trans HK1.out (fun _ _ h => h)).trans HKR.out (fun i hi h => by omega))
        have HLS := Lib.hid (LSame_z0 wr _ _ _ _ _ _ _ _ _ _ _ _ _ _ _ _ _ _ _ _ _ _ d H hm1 hnd)
        clear hm1 hnd
        go_wp2_with (refine wpList_load_row rfl 34 _ rfl (w.heap.size + 1) rfl 34 _ (0, 0) _ hz Tryz.underlying34 rfl (by kernel_rfl) ?_)
        refine HLS.out.mono ?_
        rintro e w2 ⟨rfl, hk2⟩
        have HK4 := Lib.hid (HK3.out.trans hk2 (fun _ _ h => h))
        clear hk2
        obtain ⟨lb, hlb⟩ : ∃ lb, lb = chkB x c n := ⟨_, rfl⟩
        rw [← HCH.out, ← hlb]
        rw [← hlb] at HEB
        clear hlb
        cases lb with
        | true =>
          go_wp2
          go_ret
          exact ⟨by rw [HEB.out]; rfl, HK4.out⟩
        | false =>
          go_wp2
          go_ret
          exact ⟨by rw [HEB.out]; rfl, HK4.out⟩
end Go.Proofs.YtcbenminaakahaaGreatDoor
