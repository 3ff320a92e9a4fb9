/-
  Package window: Add.
-/
import Derived.Test.YtabjpmkkigflmaaGreatDoorWinG
import Derived.Deep.CutRange
namespace Go.Proofs.YtabjpmkkigflmaaGreatDoor
open Go.RowKit
set_option linter.unusedVariables false
set_option linter.unusedSimpArgs false

theorem step_append_held {w : World} {ops : Array Oper} {o : Oper} {a : Act} {K : Act → World → Prop} {Q : Exit → Act → World → Prop} {E : Prop} (hgd : o.guard = none) (s x : Operand)
    (ho : o.op = .call { callee := .builtin .append, args := #[s, x], argTypes := #[27, 27] })
    (S : Nat → Prop) (v : Value) (ps : List (Up × Value)) (hs : a.eval s = v) (hv : HeldAt w S v ps) (r o' c : Nat) (p : Up × Value) (hx : a.eval x = .slice (some ⟨r, o', none⟩) 1 c) (hp : CelU w r o' [p]) (hu : p.2.oneCell' = true) (hl : ps.length ≤ 50000) (n : Nat) (hn : n = ps.length + 1)
    (h : ∀ a' c' w', HeldAt w' (NewIn S w w') (.slice a' n c') (ps ++ [p]) → Kept S w w' → (∀ (z : Value) (l : List Int) (F : Nat → Prop), Own w F z l → Own w' F z l) → K (a.put o.dst (.slice a' n c')) w') :
    if Region.wanted o (yielded ops a.tmps) = true then Oper.wp Tryz.prog o a w K Q else E := by
  have hw : Region.wanted o (yielded ops a.tmps) = true := by simp [Region.wanted, hgd]
  rw [if_pos hw]
  obtain ⟨v', w', hrun, h2, h3, h4⟩ := run_append_held w o.type S v ps hv r o' c p hp hu hl
  obtain ⟨a', c', e, _⟩ := h2.rd
  rw [List.length_append, List.length_singleton, ← hn] at e
  subst e
  unfold Oper.wp execOp
  simp only [ho, resolve, invoke, builtin, Sem.run_bind, Sem.run_pure, Result.andThen_ok, List.map_toArray, List.map_cons, List.map_nil, hs, hx, hrun]
  exact h a' c' w' h2 h3 h4
/-- Copy of one update. -/
theorem Copy_one (w : World) (g : Nat) (u : Up) (y : Value) (G : Nat → Prop) (hb : w.heap[g]? = some (.cells #[.int .u64 u.q, .int .i64 u.c, .int .u64 u.n, .int .i64 u.k, .int .u32 u.key, .int .u64 u.r, y] 34 (0, 0))) (hd : BSl w G y u.d) (hG : ∀ k, G k → k < w.heap.size) (hf : FitU u) (hl : u.d.length ≤ 1000000) :
    Calls Tryz.prog 78 #[.slice (some ⟨g, 0, none⟩) 1 1] w fun e w' => ∃ r c z, e = .returned (.slice (some ⟨r, 0, none⟩) 1 c) ∧ CelU w' r 0 [(u, z)] ∧ w.heap.size ≤ r ∧ z.oneCell' = true ∧ Own w' (fun k => w.heap.size ≤ k) z u.d ∧ Kept NoB w w' := by
  have hus : UsAt w (fun k => G k ∨ k = g) (.slice (some ⟨g, 0, none⟩) 1 1) [u] := UsAt.one hb (.inr rfl) (hd.mono (fun _ _ h => .inl h))
  refine (Copy_any17 w _ [u] _ hus (fun k h => by
    rcases h with h | h
    · exact hG k h
    · rw [h]; exact heap_lt hb) (fun x hx => (List.mem_singleton.1 hx) ▸ hf) (by show 1 ≤ 5000; omega) (fun x hx => (List.mem_singleton.1 hx) ▸ hl)).mono ?_
  rintro e w' ⟨a, c, qs, rfl, ho, hm, hdt, hk⟩
  match qs, hm with
  | [(u', z)], hm =>
    obtain rfl : u' = u := by simpa using hm
    have ho' : w'.ownsRow w.heap.size 34 7 (.slice a 1 c) 1 (ucl [(u', z)]) := ho
    obtain ⟨r, cap, e, hr, _⟩ : ∃ g cap', Value.slice a 1 c = .slice (some ⟨g, 0, none⟩) 1 cap' ∧ w.heap.size ≤ g ∧ g < w'.heap.size := World.ownsRow.form ho' (show 0 < 1 from Nat.one_pos)
    injection e with e1 _ e3
    subst e1 e3
    have hdz := hdt (u', z) (by simp)
    refine ⟨r, c, z, rfl, fun j hj i hi v hv => ?_, hr, ?_, hdz, hk⟩
    · obtain rfl : j = 0 := by simpa using hj
      have := ho'.cells (g := r) rfl (0 * 7 + i) v (by rw [ucl_at [(u', z)] 0 i Nat.one_pos hi]; exact hv)
      rw [addr_add17] at this
      rw [show 0 + 0 * 7 + i = 0 + (0 * 7 + i) by omega]
      exact this
    · obtain ⟨_, _, e, _⟩ := hdz.bsl
      have e : z = _ := e
      rw [e]
      rfl
def addC (x : Wn) (u : Up) : Int := if chkU areUs u = 0 then (if u.q = (x.en : Int) + 1 then 0 else 12) else chkU areUs u
def addN (x : Wn) (u : Up) : Wn := if chkU areUs u = 0 ∧ u.q = (x.en : Int) + 1 then addW x u else x
def AddE (w : World) (S : Nat → Prop) (b : Nat) (x : Wn) (u : Up) (e : Ending) (w' : World) : Prop :=
  e = .returned (.int .i64 (addC x u)) ∧ ∃ S', WinAt w' S' b (addN x u) ∧ (∀ k, S' k → S k ∨ w.heap.size ≤ k) ∧ Kept S w w'
theorem chkU_ok {u : Up} (h : chkU areUs u = 0) : u.d.length ≤ 2048 ∧ 1 ≤ u.q := by
  unfold chkU at h
  split at h
  · omega
  · split at h
    · omega
    · split at h
      · rename_i h1 h2 h3
        refine ⟨by omega, ?_⟩
        unfold areUs at h3
        simp at h3
        omega
      · omega
theorem WinH.held0 {w : World} {S : Nat → Prop} {b : Nat} {x : Wn} {h h' : Value} {ps ps' : List (Up × Value)} {S' : Nat → Prop} {w0 : World} (H : WinH w0 S b x h ps) (hk : Kept (But S b) w0 w) (u : Up) (hh : HeldAt w (But S' b) h' ps') (hs : ps'.map Prod.fst = x.l ++ [u]) (hd : DatO w (But S' b) ps') (hS : ∀ k, S k → S' k) (hb : ∀ k, S' k → k < w.heap.size) (q : Int) (hq : q = ((x.en + 1 : Nat) : Int)) :
    WinH ((w.setCell ⟨b, 0, none⟩ h').setCell ⟨b, 2, none⟩ (.int .u64 q)) S' b ⟨x.low, x.en + 1, x.done, x.l ++ [u]⟩ h' ps' := by
  subst hq
  have hkb : Kept (fun i => i = b) w ((w.setCell ⟨b, 0, none⟩ h').setCell ⟨b, 2, none⟩ (.int .u64 ((x.en + 1 : Nat) : Int))) := ((Kept.refl (fun i => i = b) w).setCell (p := ⟨b, 0, none⟩) (.inl rfl) _).setCell (p := ⟨b, 2, none⟩) (.inl rfl) _
  have hblk := hk.heap (fun h => h.2 rfl) H.blk
  exact ⟨blkU_set (blkU_set hblk 0 _) 2 _, hS b H.inb, hh.kept hkb (fun k hS h => hS.2 h), hs, hd.kept17 hkb (fun k _ _ _ hS h => hS.2 h), fun k hk' => Nat.lt_of_lt_of_le (hb k hk') hkb.size⟩
set_option maxRecDepth 100000 in
set_option maxHeartbeats 4000000 in
theorem WAdd_any (w : World) (S : Nat → Prop) (b : Nat) (x : Wn) (H : WinAt w S b x) (ok : WnOk x) (v : Value) (u : Up) (G : Nat → Prop) (hu : UpV w G v u) (hG : ∀ k, G k → k < w.heap.size) (hf : FitU u) (ht : Tab10 w) (hroom : x.l.length < 5000) (htop : x.en + 1 ≤ 9223372036854775807) :
    Calls Tryz.prog 19 #[pw b, v] w (AddE w S b x u) := by
  have HUC := Lib.hid (fun w' (hk : Kept NoB w w') => UCheck_any w' v u G (hu.no hk) (fun k h => Nat.lt_of_lt_of_le (hG k h) hk.size) (ht.kept hk (fun h => h)))
  have HC0 := Lib.hid (@chkU_ok u)
  have HAC : Hid (addC x u = if chkU areUs u = 0 then (if u.q = (x.en : Int) + 1 then 0 else 12) else chkU areUs u) := Lib.hid rfl
  have HAN : Hid (addN x u = if chkU areUs u = 0 ∧ u.q = (x.en : Int) + 1 then addW x u else x) := Lib.hid rfl
  obtain ⟨h, ps, H⟩ := H
  have HA := Lib.hid H
  have HU := Lib.hid hu
  have HG := Lib.hid hG
  have HF := Lib.hid hf
  obtain ⟨a, c, rfl, hc1, hc2, hc3, hrd, hpl⟩ := H.held.rd
  have hlen := H.len
  have hps : ps.length < 5000 := by omega
  have HOK := Lib.hid ok
  obtain ⟨z, hz⟩ : ∃ z, z = chkU areUs u := ⟨_, rfl⟩
  rw [← hz] at HUC HC0 HAC HAN
  obtain ⟨va, rfl, hd⟩ := hu
  obtain ⟨vad, vc, rfl, _⟩ := id hd
  obtain ⟨y0, y1, y2, y3, y4, y5, y6⟩ := u
  simp only at HUC HC0 HAC HAN hd hf ⊢
  obtain ⟨V, hV⟩ : ∃ V, V = w.alloc (.cells #[.int .u64 y0, .int .i64 y1, .int .u64 y2, .int .i64 y3, .int .u32 y4, .int .u64 y5, .slice vad y6.length vc] 34) := ⟨_, rfl⟩
  have HB : Hid (V.heap[w.heap.size]? = some (.cells #[.int .u64 y0, .int .i64 y1, .int .u64 y2, .int .i64 y3, .int .u32 y4, .int .u64 y5, .slice vad y6.length vc] 34 (0, 0))) := Lib.hid (by rw [hV]; exact heap_alloc_new w _)
  have HKV : Hid (Kept NoB w V) := Lib.hid (by rw [hV]; exact (Kept.refl _ _).alloc _)
  have HV := Lib.hid hV
  have hq0 : 0 ≤ y0 := hf.1
  have hqt : y0 ≤ 18446744073709551615 := hf.2.1
  clear hV hz hd hrd hc3 H hf ht hG
  by_cases hz0 : z = 0
  · subst hz0
    have hq1 := (HC0.out rfl).2
    have hlen6 := (HC0.out rfl).1
    by_cases hq : y0 = (x.en : Int) + 1
    · have hE1 : Hid (addC x ⟨y0, y1, y2, y3, y4, y5, y6⟩ = 0) := Lib.hid (by rw [HAC.out, if_pos rfl, if_pos hq])
      have hE2 : Hid (addN x ⟨y0, y1, y2, y3, y4, y5, y6⟩ = forgetW ⟨x.low, x.en + 1, x.done, x.l ++ [⟨y0, y1, y2, y3, y4, y5, y6⟩]⟩) := Lib.hid (by rw [HAN.out, if_pos ⟨rfl, hq⟩]; rfl)
      have hye : y0 - 1 = (x.en : Int) := by omega
      have HQ : Hid (y0 = ((x.en + 1 : Nat) : Int)) := Lib.hid (by omega)
      have HMO := Lib.hid (moreW_ok ok (u := ⟨y0, y1, y2, y3, y4, y5, y6⟩) (show y0 = _ by omega) HF.out (show y6.length ≤ 1000000 by omega) htop hroom)
      have hbs : b < w.heap.size := HA.out.bound b HA.out.inb
      clear hq HAC HAN HC0 hlen hroom
      go_enter Tryz.func19, Tryz.ntmps19
      go_wp2_with fail
      rw [← HV.out]
      refine (HUC.out V HKV.out).mono ?_
      rintro e w1 ⟨rfl, hk1⟩
      have HK1 := Lib.hid (HKV.out.trans hk1 (fun _ _ h => h))
      have HW1 := Lib.hid (HA.out.no HK1.out)
      have HBX := Lib.hid (hk1.heap (fun h => h) HB.out)
      obtain ⟨c0, c1, c2, c3⟩ := cells4w HW1.out.blk
      obtain ⟨d0, d1, d2, d3, d4, d5, d6⟩ := cells7 HBX.out
      clear hk1
      go_wp2_with fail
      go_region
      go_upto_region 8 with fail
      obtain ⟨W, hW⟩ : ∃ W, W = w1.drew := ⟨_, rfl⟩
      rw [← hW]
      have HKW : Hid (Kept NoB w W) := Lib.hid (by rw [hW]; exact HK1.out.drew)
      have HBW : Hid (W.heap[w.heap.size]? = some (.cells #[.int .u64 y0, .int .i64 y1, .int .u64 y2, .int .i64 y3, .int .u32 y4, .int .u64 y5, .slice vad y6.length vc] 34 (0, 0))) := Lib.hid (by rw [hW]; exact HBX.out)
      have HAW := Lib.hid (HA.out.no HKW.out)
      have HDU : Hid (BSl W G (.slice vad y6.length vc) y6) := Lib.hid (by
        obtain ⟨v', e, hd'⟩ := HU.out
        injection e with e
        have e := congrArg (fun a => a[6]?) e
        simp at e
        subst e
        exact hd'.kept HKW.out (fun _ _ h => h))
      have HCP : Hid (∀ w', Kept NoB W w' → w'.heap[W.heap.size]? = some (.cells #[.int .u64 y0, .int .i64 y1, .int .u64 y2, .int .i64 y3, .int .u32 y4, .int .u64 y5, .slice vad y6.length vc] 34 (0, 0)) → Calls Tryz.prog 78 #[.slice (some ⟨W.heap.size, 0, none⟩) 1 1] w' (fun e w'' => ∃ r c z, e = .returned (.slice (some ⟨r, 0, none⟩) 1 c) ∧ CelU w'' r 0 [(⟨y0, y1, y2, y3, y4, y5, y6⟩, z)] ∧ w'.heap.size ≤ r ∧ z.oneCell' = true ∧ Own w'' (fun k => w'.heap.size ≤ k) z y6 ∧ Kept NoB w' w'')) := Lib.hid (fun w' hk hb =>
        Copy_one w' W.heap.size ⟨y0, y1, y2, y3, y4, y5, y6⟩ _ G hb (HDU.out.kept hk (fun _ _ h => h)) (fun k h => Nat.lt_of_lt_of_le (HG.out k h) (HKW.out.trans hk (fun _ _ h => h)).size) HF.out (show y6.length ≤ 1000000 by omega))
      clear c0 c1 c2 c3 d0 d1 d2 d3 d4 d5 d6 hW
      obtain ⟨c0, c1, c2, c3⟩ := cells4w HAW.out.blk
      obtain ⟨d0, d1, d2, d3, d4, d5, d6⟩ := cells7 HBW.out
      have z0 := blkU_frozen HAW.out.blk
      have c0a := cell_alloc (w := W.drew) c0 (.cells #[.int .u64 y0, .int .i64 y1, .int .u64 y2, .int .i64 y3, .int .u32 y4, .int .u64 y5, .slice vad y6.length vc] 34)
      have c0b := cell_alloc (w := W) c0 (.cells #[.int .u64 y0, .int .i64 y1, .int .u64 y2, .int .i64 y3, .int .u32 y4, .int .u64 y5, .slice vad y6.length vc] 34)
      have hl5 : ps.length ≤ 50000 := by omega
      go_region_law (first
        | (refine step_append_held rfl (.tmp 25) (.tmp 28) rfl (But S b) (.slice a ps.length c) ps (by rfl) (HAW.out.held.kept HKC.out (fun _ _ h => h)) rc 0 cc (⟨y0, y1, y2, y3, y4, y5, y6⟩, zc) (by rfl) HCE.out HZ.out hl5 (ps.length + 1) rfl ?_; intro a3 c3' w3 hh3 hk3 ho3; have HH3 := Lib.hid hh3; have HO3 := Lib.hid ho3; have e03 := (hk3.cell (p := ⟨w.heap.size, 0, none⟩) (fun h => by have h1 := HA.out.bound w.heap.size h.1; omega) (HKC.out.cell (p := ⟨w.heap.size, 0, none⟩) (fun h => h) d0)); have HK3 := Lib.hid hk3; have c03 := hk3.cell (p := ⟨b, 0, none⟩) (fun h => h.2 rfl) (HKC.out.cell (p := ⟨b, 0, none⟩) (fun h => h) c0); have z03 : w3.frozen? ⟨b, 0, none⟩ = false := blkU_frozen (hk3.heap (fun h => h.2 rfl) (HKC.out.heap (fun h => h) HAW.out.blk)) 0; clear hh3 hk3 ho3)
        | (go_simp; go_at_call 78; refine (HCP.out _ (by first | exact (Kept.refl NoB W).drew.alloc _ | exact ((Kept.refl NoB W).alloc _).drew) (by first | exact heap_alloc_new W.drew _ | exact heap_alloc_new W _)).mono ?_; rintro e w2 ⟨rc, cc, zc, rfl, hce, hrc, hz1, hoz, hkc⟩; have HCE := Lib.hid hce; have HZ := Lib.hid hz1; have HOZ := Lib.hid hoz; have HKC : Hid (Kept NoB W w2) := Lib.hid ((by first | exact (Kept.refl NoB W).drew.alloc _ | exact ((Kept.refl NoB W).alloc _).drew : Kept NoB W _).trans hkc (fun _ _ h => h)); have c0c := HKC.out.cell (p := ⟨b, 0, none⟩) (fun h => h) c0; clear hce hrc hz1 hoz hkc)
        | fail)
      all_goals
        have hsz : w.heap.size ≤ w2.heap.size := (HKW.out.trans HKC.out (fun _ _ h => h)).size
        have hsz3 := HK3.out.size
        have HWW := Lib.hid (WinH.held0 (S' := fun k => S k ∨ (w.heap.size ≤ k ∧ k < w3.heap.size)) (h' := .slice a3 (ps.length + 1) c3') (ps' := ps ++ [(⟨y0, y1, y2, y3, y4, y5, y6⟩, zc)]) HA.out (w := w3) (((HKW.out.trans HKC.out (fun _ _ h => h)).mono (fun _ _ h => absurd h (fun h => h))).trans HK3.out (fun _ _ h => h)) ⟨y0, y1, y2, y3, y4, y5, y6⟩
          (HH3.out.mono (fun k hk => by
            rcases hk with hk | hk
            · exact ⟨.inl hk.1, hk.2⟩
            · exact ⟨.inr ⟨by omega, hk.2⟩, by omega⟩))
          (by rw [List.map_append, HA.out.same]; rfl)
          (fun p hp => by
            rcases List.mem_append.1 hp with hp | hp
            · exact (HO3.out _ _ _ ((HA.out.data.no (HKW.out.trans HKC.out (fun _ _ h => h))) p hp)).mono (fun k _ hk => ⟨.inl hk.1, hk.2⟩)
            · obtain rfl : p = (⟨y0, y1, y2, y3, y4, y5, y6⟩, zc) := by simpa using hp
              refine (HO3.out _ _ _ HOZ.out).mono (fun k hk3 hk => ⟨.inr ⟨?_, hk3⟩, ?_⟩)
              · have h1 := HKW.out.size; simp at hk; omega
              · have h1 := HKW.out.size; simp at hk; omega)
          (fun k h => .inl h) (fun k h => by rcases h with h | h; have := HA.out.bound k h; omega; exact h.2) y0 HQ.out)
        have HFG := Lib.hid (forget_any _ _ b _ ⟨_, _, HWW.out⟩ HMO.out)
        have HKS : Hid (Kept S w ((w3.setCell ⟨b, 0, none⟩ (.slice a3 (ps.length + 1) c3')).setCell ⟨b, 2, none⟩ (.int .u64 y0))) := Lib.hid (((((HKW.out.trans HKC.out (fun _ _ h => h)).mono (fun _ _ h => absurd h (fun h => h))).trans (HK3.out.mono (T := S) (fun _ _ h => h.1)) (fun _ _ h => h)).setCell (p := ⟨b, 0, none⟩) (.inl HA.out.inb) _).setCell (p := ⟨b, 2, none⟩) (.inl HA.out.inb) _)
        have hbne : ¬ b = w.heap.size := by omega
        have hblk3 := (((HKW.out.trans HKC.out (fun _ _ h => h)).mono (fun _ _ h => absurd h (fun h => h))).trans HK3.out (fun _ _ h => h)).heap (fun h => h.2 rfl) HA.out.blk
        obtain ⟨g0, g1, g2, g3⟩ := cells4w hblk3
        have z3 := blkU_frozen hblk3
        clear hblk3 c0 c1 c2 c3 d0 d1 d2 d3 d4 d5 d6 c0a c0b c03 z03 z0
        go_wp2_with fail
        refine HFG.out.mono ?_
        rintro e w5 ⟨rfl, hw5, hk5⟩
        have HW5 := Lib.hid hw5
        have HK5 := Lib.hid hk5
        clear hw5 hk5 g0 g1 g2 g3 z3
        go_wp2
        go_ret
        refine ⟨(by rw [hE1.out] <;> rfl), _, by rw [hE2.out]; exact HW5.out, fun k h => by rcases h with h | h; exact .inl h; exact .inr h.1, HKS.out.trans HK5.out (fun k hk h => by rcases h with h | h; exact h; omega)⟩
    · have hE1 : Hid (addC x ⟨y0, y1, y2, y3, y4, y5, y6⟩ = 12) := Lib.hid (by rw [HAC.out, if_pos rfl, if_neg hq])
      have hE2 : Hid (addN x ⟨y0, y1, y2, y3, y4, y5, y6⟩ = x) := Lib.hid (by rw [HAN.out, if_neg (fun h => hq h.2)])
      have hne : ¬ y0 - 1 = (x.en : Int) := by omega
      have hneb : ((y0 - 1) == (x.en : Int)) = false := beq_eq_false_iff_ne.2 hne
      have hneb2 : ((y0 - 1) != (x.en : Int)) = true := by simpa using hne
      clear hq hlen6
      go_enter Tryz.func19, Tryz.ntmps19
      go_wp2_with fail
      rw [← HV.out]
      refine (HUC.out V HKV.out).mono ?_
      rintro e w1 ⟨rfl, hk1⟩
      have HK1 := Lib.hid (HKV.out.trans hk1 (fun _ _ h => h))
      have HW1 := Lib.hid (HA.out.no HK1.out)
      obtain ⟨c0, c1, c2, c3⟩ := cells4w HW1.out.blk
      obtain ⟨d0, d1, d2, d3, d4, d5, d6⟩ := cells7 (hk1.heap (fun h => h) HB.out)
      clear hk1
      go_wp2_with fail
      go_region
      all_goals go_wp2
      all_goals go_ret
      all_goals exact ⟨(by rw [hE1.out] <;> rfl), S, ⟨_, ps, by rw [hE2.out]; exact HA.out.no (by first | exact HK1.out.drew | exact HK1.out)⟩, fun k h => .inl h, (by first | exact (HK1.out.drew.mono (fun _ _ h => absurd h (fun h => h))) | exact (HK1.out.mono (fun _ _ h => absurd h (fun h => h))))⟩
  · have hE1 : Hid (addC x ⟨y0, y1, y2, y3, y4, y5, y6⟩ = z) := Lib.hid (by rw [HAC.out, if_neg hz0])
    have hE2 : Hid (addN x ⟨y0, y1, y2, y3, y4, y5, y6⟩ = x) := Lib.hid (by rw [HAN.out, if_neg (fun h => hz0 h.1)])
    have hzb : (z == 0) = false := beq_eq_false_iff_ne.2 hz0
    have hzb2 : (z != 0) = true := by simpa using hz0
    go_enter Tryz.func19, Tryz.ntmps19
    go_wp2_with fail
    rw [← HV.out]
    refine (HUC.out V HKV.out).mono ?_
    rintro e w1 ⟨rfl, hk1⟩
    have HK1 := Lib.hid (HKV.out.trans hk1 (fun _ _ h => h))
    clear hk1
    go_wp2
    go_ret
    exact ⟨(by rw [hE1.out] <;> rfl), S, ⟨_, ps, by rw [hE2.out]; exact HA.out.no HK1.out⟩, fun k h => .inl h, HK1.out.mono (fun _ _ h => absurd h (fun h => h))⟩
end Go.Proofs.YtabjpmkkigflmaaGreatDoor
