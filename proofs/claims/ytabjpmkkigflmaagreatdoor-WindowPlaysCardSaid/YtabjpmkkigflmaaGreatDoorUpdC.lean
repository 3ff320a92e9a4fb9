/-
  Package update: copyOf, selected.
-/
import Derived.Test.YtabjpmkkigflmaaGreatDoorUpdB
namespace Go.Proofs.YtabjpmkkigflmaaGreatDoor
open Go.RowKit
set_option linter.unusedVariables false
set_option linter.unusedSimpArgs false

theorem info_upd : (Tryz.prog.info? 34).map (fun i => (i.zero, i.size, i.bytes)) = some (some (.agg #[.int .u64 0, .int .i64 0, .int .u64 0, .int .i64 0, .int .u32 0, .int .u64 0, .slice none 0 0]), 7, 72) := by kernel_rfl
/-- bytes.Clone: a slice of the call's own. -/
theorem Clone_own17 (v : Value) (l : List Int) (F : Nat → Prop) (w : World) (h : BSl w F v l) (hl : l.length ≤ 1000000) :
    Calls Tryz.prog 175 #[v] w fun e w' => ∃ v', e = .returned v' ∧ Own w' (fun k => w.heap.size ≤ k) v' l ∧ Kept NoB w w' := by
  obtain ⟨i0, hi0, hz0, hz1, hz2⟩ := info_parts Tryz.info5
  have HB := Lib.hid h
  obtain ⟨a, cap, rfl, hc, hm, hn, hr⟩ := h
  have hq := fun (w : World) => Lib.run_eql_slice_nil (P := Tryz.prog) w 32 5 a l.length cap 0 0 Tryz.underlying32
  rcases a with _ | ad
  · have h0 := hn rfl
    subst h0
    have hl : l = [] := List.eq_nil_of_length_eq_zero (by omega)
    subst hl
    simp only [Option.isNone, List.length_nil] at hq
    go_enter Tryz.func175, Tryz.ntmps175
    go_wp2
    go_ret
    exact ⟨_, rfl, Own.nil _ _, Kept.refl _ _⟩
  · simp only [Option.isNone] at hq
    clear hr hn
    go_enter Tryz.func175, Tryz.ntmps175
    go_wp2_with (at_builtin; refine wpList_append_bsl _ rfl (.tmp 5) (.tmp 6) _ rfl 5 i0 _ Tryz.underlying32 hi0 hz0 hz1 hz2 rfl (.slice (some ⟨w.heap.size, 0, none⟩) 0 0) 0 [] rfl (World.ownsRow_made w #[] 0 (Nat.zero_le _) (by decide) rfl) F _ l rfl (HB.out.kept ((Kept.refl NoB _).alloc _) (fun _ _ h => h)) (by omega) ?_; intro a' c' w1 hown1 hg1 hat1)
    go_ret
    have hk1 : Kept NoB w w1 := ((Kept.refl _ _).alloc _).grown hg1 (fun k hk => .inr (by simp [Value.ownBlock] at hk; omega))
    simp only [Nat.zero_add, List.nil_append] at hown1 hat1
    refine ⟨.slice a' l.length c', rfl, ⟨HB.out.isB, hown1, fun k hk => ?_⟩, hk1⟩
    rcases hat1 with e | e <;> rw [e] at hk <;> simp [Value.ownBlock] at hk <;> omega

/-- A function of the program that has a body. -/
def Enters17 (f : FuncId) : Prop := ∀ (args : Array Value) (w : World), Sem.run Tryz.prog (callFunc f args) w = .ok (.enter f args) w
set_option maxRecDepth 100000 in
set_option maxHeartbeats 1000000 in
theorem UCopyOf_any (w : World) (v : Value) (x : Up) (F : Nat → Prop) (h : UpV w F v x) (hl : x.d.length ≤ 1000000) : Calls Tryz.prog 213 #[v] w fun e w' => ∃ v', e = .returned v' ∧ UpO w' (fun k => w.heap.size ≤ k) v' x ∧ Kept NoB w w' := by
  obtain ⟨u, rfl, hd⟩ := h
  obtain ⟨y0, y1, y2, y3, y4, y5, y6⟩ := x
  simp only at hd hl ⊢
  have hk2 := ((Kept.refl NoB w).alloc (.cells #[.int .u64 y0, .int .i64 y1, .int .u64 y2, .int .i64 y3, .int .u32 y4, .int .u64 y5, u] 34)).alloc (.cells #[.int .u64 0, .int .i64 0, .int .u64 0, .int .i64 0, .int .u32 0, .int .u64 0, .slice none 0 0] 34)
  have h1 := heap_alloc_new w (.cells #[.int .u64 y0, .int .i64 y1, .int .u64 y2, .int .i64 y3, .int .u32 y4, .int .u64 y5, u] 34)
  have h2 := heap_alloc_new (w.alloc (.cells #[.int .u64 y0, .int .i64 y1, .int .u64 y2, .int .i64 y3, .int .u32 y4, .int .u64 y5, u] 34)) (.cells #[.int .u64 0, .int .i64 0, .int .u64 0, .int .i64 0, .int .u32 0, .int .u64 0, .slice none 0 0] 34)
  have HC := Lib.hid (Clone_own17 u y6 F _ (hd.kept hk2 (fun _ _ h => h)) hl)
  have h1' := blkU_alloc h1 (.cells #[.int .u64 0, .int .i64 0, .int .u64 0, .int .i64 0, .int .u32 0, .int .u64 0, .slice none 0 0] 34)
  rw [show (w.alloc (.cells #[.int .u64 y0, .int .i64 y1, .int .u64 y2, .int .i64 y3, .int .u32 y4, .int .u64 y5, u] 34)).heap.size = w.heap.size + 1 by simp] at h2
  obtain ⟨ua, uc, rfl, _⟩ := hd
  have HK := Lib.hid hk2
  have H1 := Lib.hid h1'
  have H2 := Lib.hid h2
  have HZ : Hid (((w.alloc (.cells #[.int .u64 y0, .int .i64 y1, .int .u64 y2, .int .i64 y3, .int .u32 y4, .int .u64 y5, .slice ua y6.length uc] 34)).alloc (.cells #[.int .u64 0, .int .i64 0, .int .u64 0, .int .i64 0, .int .u32 0, .int .u64 0, .slice none 0 0] 34)).heap.size = w.heap.size + 2) := Lib.hid (by simp)
  clear hk2 h1 h2 h1' hl
  go_enter Tryz.func213, Tryz.ntmps213
  go_wp2_with fail
  refine HC.out.mono ?_
  rintro e w1 ⟨v', rfl, hv, hk⟩
  obtain ⟨va, vc, rfl⟩ := own_form hv.2.1
  have HV := Lib.hid (hv.mono (G := fun k => w.heap.size + 2 ≤ k) (fun k _ h => by have := HZ.out; omega))
  have HK1 := Lib.hid (HK.out.trans hk (fun _ _ h => h))
  have h1 := hk.heap (fun h => h) H1.out
  have h2 := hk.heap (fun h => h) H2.out
  obtain ⟨c0, c1, c2, c3, c4, c5, c6⟩ := cells7 h1
  obtain ⟨r0, r1, r2, r3, r4, r5, r6⟩ := cells7 h2
  have z1 := blkU_frozen h1
  have z2 := blkU_frozen h2
  have H1' := Lib.hid h1
  have H2' := Lib.hid h2
  have hne : ¬ w.heap.size + 1 = w.heap.size := by omega
  have hne2 : ¬ w.heap.size = w.heap.size + 1 := by omega
  clear hk hv h1 h2
  go_wp2
  have hF := seven17_at (blkU_set_other H2'.out 6 (.slice va y6.length vc) hne2) (.int .u64 y0) (.int .i64 y1) (.int .u64 y2) (.int .i64 y3) (.int .u32 y4) (.int .u64 y5) (.slice va y6.length vc)
  have hK := (HK1.out.setCell (p := ⟨w.heap.size, 6, none⟩) (.inr (Nat.le_refl _)) (.slice va y6.length vc)).seven17 (b := w.heap.size + 1) (.inr (by omega)) 0 (.int .u64 y0) (.int .i64 y1) (.int .u64 y2) (.int .i64 y3) (.int .u32 y4) (.int .u64 y5) (.slice va y6.length vc)
  have hO := HV.out.kept (((Kept.refl (fun k => k < w.heap.size + 2) w1).setCell (p := ⟨w.heap.size, 6, none⟩) (.inl (by show w.heap.size < w.heap.size + 2; omega)) (.slice va y6.length vc)).seven17 (b := w.heap.size + 1) (.inl (by omega)) 0 (.int .u64 y0) (.int .i64 y1) (.int .u64 y2) (.int .i64 y3) (.int .u32 y4) (.int .u64 y5) (.slice va y6.length vc)) (fun k h h' => by omega)
  clear c0 c1 c2 c3 c4 c5 c6 r0 r1 r2 r3 r4 r5 r6 z1 z2
  obtain ⟨r0, r1, r2, r3, r4, r5, r6⟩ := cells7 hF
  clear hF
  unfold seven17 at r0 r1 r2 r3 r4 r5 r6 hK hO
  simp only [Nat.zero_add] at r0 r1 r2 r3 r4 r5 r6 hK hO
  generalize hW : World.setCell _ _ _ = W3 at r0 r1 r2 r3 r4 r5 r6 hK hO ⊢
  exact bodyPost_ret (v := .agg #[.int .u64 y0, .int .i64 y1, .int .u64 y2, .int .i64 y3, .int .u32 y4, .int .u64 y5, .slice va y6.length vc]) (by simp [results, Tryz.results213, go_sem, r0, r1, r2, r3, r4, r5, r6]) rfl ⟨_, rfl, ⟨_, rfl, hO.mono (fun k _ h => by omega)⟩, hK⟩
/-- Their data are rows of the call's own. -/
def DatO (w : World) (F : Nat → Prop) (ps : List (Up × Value)) : Prop := ∀ p ∈ ps, Own w F p.2 p.1.d
theorem DatO.u {w : World} {F : Nat → Prop} {ps : List (Up × Value)} (h : DatO w F ps) : DatU w F ps := fun p hp => (h p hp).bsl
theorem DatO.mono {F G : Nat → Prop} {w : World} {ps : List (Up × Value)} (h : DatO w F ps) (hG : ∀ k, k < w.heap.size → F k → G k) : DatO w G ps := fun p hp => (h p hp).mono hG
theorem Own.row17 {w : World} {F : Nat → Prop} {v : Value} {l : List Int} (h : Own w F v l) {k : Nat} (hk : v.ownBlock = some k) : ∃ cs fr, w.heap[k]? = some (.cells cs 5 fr) := by
  rcases h.2.1.2 with ⟨rfl, _⟩ | ⟨r, cap, cur, rfl, _, hr, _⟩
  · cases hk
  · injection hk with hk
    subst hk
    exact ⟨_, _, hr⟩
/-- Data are not a block of updates. -/
theorem Own.kept17 {S F : Nat → Prop} {w w' : World} {v : Value} {l : List Int} (h : Own w F v l) (hk : Kept S w w') (hs : ∀ k cs fr, w.heap[k]? = some (.cells cs 5 fr) → F k → ¬ S k) : Own w' F v l := by
  have h2 : Own w (fun k => F k ∧ v.ownBlock = some k) v l := ⟨h.1, h.2.1, fun k hk => ⟨h.2.2 k hk, hk⟩⟩
  have h3 := h2.kept hk (fun k ⟨h4, h5⟩ => by obtain ⟨cs, fr, h6⟩ := h.row17 h5; exact hs k cs fr h6 h4)
  exact ⟨h3.1, h3.2.1, fun k hk => (h3.2.2 k hk).1⟩
theorem DatO.kept17 {S F : Nat → Prop} {w w' : World} {ps : List (Up × Value)} (h : DatO w F ps) (hk : Kept S w w') (hs : ∀ k cs fr, w.heap[k]? = some (.cells cs 5 fr) → F k → ¬ S k) : DatO w' F ps := fun p hp => (h p hp).kept17 hk hs
theorem DatO.no {F : Nat → Prop} {w w' : World} {ps : List (Up × Value)} (h : DatO w F ps) (hk : Kept NoB w w') : DatO w' F ps := h.kept17 hk (fun _ _ _ _ _ h => h)
/-- A function literal that keeps a number, and tells by it. -/
structure TakesU (f : FuncId) (caps : Array Value) (T : Nat → Prop) (st : Int → Up → Bool × Int) (St : Int → World → Prop) (s0 : Int) (w : World) (F : Nat → Prop) (l : List Up) : Prop where
  ent : Enters17 f
  keep : ∀ s a b S, St s a → Kept S a b → (∀ k, k < w.heap.size → ¬ S k) → St s b
  lt : ∀ k, T k → k < w.heap.size
  far : ∀ k, F k → ¬ T k ∧ k < w.heap.size
  call : ∀ s x v w', (∃ k, k < l.length ∧ s = endU st s0 (l.take k)) → x ∈ l → UpV w' F v x → St s w' → Kept T w w' → Calls Tryz.prog f (#[v] ++ caps) w' fun e w'' => e = .returned (.bool (st s x).1) ∧ St (st s x).2 w'' ∧ Kept T w' w''
/-- What is chosen: a row of the call's own, with data of its own. -/
def SelEnd (w : World) (T : Nat → Prop) (St : Int → World → Prop) (s : Int) (out : List Up) (e : Ending) (w' : World) : Prop :=
  ∃ a c ps, e = .returned (.slice a out.length c) ∧ UOw 34 w.heap.size w' (.slice a out.length c) ps ∧ ps.map Prod.fst = out ∧ DatO w' (fun k => w.heap.size ≤ k) ps ∧ St s w' ∧ Kept T w w'
def SelRel (w : World) (l : List Up) (st : Int → Up → Bool × Int) (T : Nat → Prop) (St : Int → World → Prop) (s0 : Int) (ov iv : Value) (wr : World) : Prop :=
  ∃ (k : Nat) (ps : List (Up × Value)), k ≤ l.length ∧ iv = .int .i64 k ∧ UOw 34 w.heap.size wr ov ps ∧ ps.map Prod.fst = selU st s0 (l.take k) ∧ DatO wr (fun k => w.heap.size ≤ k) ps ∧ St (endU st s0 (l.take k)) wr ∧ Kept T w wr
set_option maxRecDepth 100000 in
set_option maxHeartbeats 1000000 in
theorem selected_any (w : World) (v : Value) (l : List Up) (F T : Nat → Prop) (f : FuncId) (caps : Array Value) (st : Int → Up → Bool × Int) (St : Int → World → Prop) (s0 : Int) (h : UsAt w F v l) (hp : TakesU f caps T st St s0 w F l) (hs : St s0 w) (hl : l.length ≤ 5000) (hd : ∀ x ∈ l, x.d.length ≤ 1000000) :
    Calls Tryz.prog 150 #[v, .func (.func f) #[] caps] w (SelEnd w T St (endU st s0 l) (selU st s0 l)) := by
  obtain ⟨i0, hi0, hz0, hz1, hz2⟩ := info_parts info_upd
  obtain ⟨a, c, rfl⟩ := h.form
  have HU := Lib.hid h
  have HP := Lib.hid hp
  have HS := Lib.hid hs
  have HD := Lib.hid hd
  have hll : (l.length : Int) ≤ 5000 := by omega
  have hent : ∀ (args : Array Value) (w : World), Sem.run Tryz.prog (callFunc f args) w = .ok (.enter f args) w := hp.ent
  clear h hp hs hd
  go_enter Tryz.func150, Tryz.ntmps150
  go_wp2
  go_loopw [5, 10] (SelRel w l st T St s0) (fun _ i _ => l.length - (RowKit.intOf i).toNat)
  case atStart => exact ⟨0, [], Nat.zero_le _, rfl, UOw.nil _ _ _, rfl, (fun p hp => by cases hp), HS.out, Kept.refl _ _⟩
  case round =>
    obtain ⟨k, ps, hk, rfl, hown, hps, hdat, hst, hK⟩ := hrel
    obtain ⟨oa, oc, rfl⟩ := hown.form
    have HPS := Lib.hid hps
    have HDR := Lib.hid hdat
    have HKR := Lib.hid hK
    have HO := Lib.hid hown
    have HST := Lib.hid hst
    have hk0 : (0 : Int) ≤ (k : Int) := by omega
    have hpl : ps.length ≤ 5000 := by
      have := congrArg List.length hps
      rw [List.length_map] at this
      have h2 := selU_len st s0 (l.take k)
      rw [List.length_take] at h2
      omega
    have hur := HU.out.kept hK (fun k hf => (HP.out.far k hf).1)
    clear hown hps hdat hst hK
    by_cases hlt : k < l.length
    · have hk1 : (k : Int) < (l.length : Int) := by omega
      have HSS := Lib.hid (takeU hlt)
      have HM : Hid (nthU l k ∈ l) := Lib.hid (by rw [nthU_at hlt]; exact List.getElem_mem _)
      obtain ⟨b, o, rfl, hFb, hb, u, e0, e1, e2, e3, e4, e5, e6, hdd⟩ := hur.at_ hlt
      obtain ⟨⟨y0, y1, y2, y3, y4, y5, y6⟩, hy⟩ : ∃ y, y = nthU l k := ⟨_, rfl⟩
      rw [← hy] at e0 e1 e2 e3 e4 e5 hdd HSS HM
      simp only at e0 e1 e2 e3 e4 e5 hdd
      have HDD := Lib.hid hdd
      obtain ⟨va, vc, rfl, _⟩ := hdd
      clear hur hy hFb hb
      have hka := (Kept.refl NoB wr).alloc (.cells #[.int .u64 y0, .int .i64 y1, .int .u64 y2, .int .i64 y3, .int .u32 y4, .int .u64 y5, .slice va y6.length vc] 34)
      have HKA := Lib.hid hka
      have HB := Lib.hid (heap_alloc_new wr (.cells #[.int .u64 y0, .int .i64 y1, .int .u64 y2, .int .i64 y3, .int .u32 y4, .int .u64 y5, .slice va y6.length vc] 34))
      have HUV := Lib.hid (show UpV (wr.alloc (.cells #[.int .u64 y0, .int .i64 y1, .int .u64 y2, .int .i64 y3, .int .u32 y4, .int .u64 y5, .slice va y6.length vc] 34)) F (.agg #[.int .u64 y0, .int .i64 y1, .int .u64 y2, .int .i64 y3, .int .u32 y4, .int .u64 y5, .slice va y6.length vc]) ⟨y0, y1, y2, y3, y4, y5, y6⟩ from ⟨_, rfl, HDD.out.kept hka (fun _ _ h => h)⟩)
      have HST2 := Lib.hid (HP.out.keep _ _ _ NoB HST.out hka (fun _ _ h => h))
      have HKT := Lib.hid (HKR.out.trans hka (fun _ _ h => absurd h (fun h => h)))
      have HC := Lib.hid (HP.out.call _ _ _ _ ⟨k, hlt, rfl⟩ HM.out HUV.out HST2.out HKT.out)
      have HSN := Lib.hid (selU_snoc st s0 (l.take k) ⟨y0, y1, y2, y3, y4, y5, y6⟩)
      have HEN := Lib.hid (endU_snoc st s0 (l.take k) ⟨y0, y1, y2, y3, y4, y5, y6⟩)
      obtain ⟨⟨tb, tn⟩, ht⟩ : ∃ r, r = st (endU st s0 (l.take k)) ⟨y0, y1, y2, y3, y4, y5, y6⟩ := ⟨_, rfl⟩
      rw [← ht] at HC HSN HEN
      clear ht hka
      go_wp2_with fail
      refine HC.out.mono ?_
      rintro e w2 ⟨rfl, hs2, hk2⟩
      have hsz := HKR.out.size
      have HS2 := Lib.hid hs2
      have HO2 := Lib.hid ((HO.out.no HKA.out).kept hk2 (fun i hi ht => by have := (HO.out.base i hi).1; have := HP.out.lt i ht; omega))
      have HD2 := Lib.hid ((HDR.out.no HKA.out).kept17 hk2 (fun i _ _ _ hi ht => by have := HP.out.lt i ht; omega))
      have HK2 := Lib.hid (HKT.out.trans hk2 (fun _ _ h => h))
      have hb2 := hk2.heap (k := wr.heap.size) (fun ht => by have := HP.out.lt _ ht; omega) HB.out
      have HUV2 := Lib.hid (HUV.out.kept hk2 (fun k hf => (HP.out.far k hf).1))
      obtain ⟨c0, c1, c2, c3, c4, c5, c6⟩ := cells7 hb2
      clear hs2 hk2 hb2
      cases tb with
      | false =>
        go_wp2
        exact ⟨⟨k + 1, ps, by omega, by go_num, HO2.out, by rw [HSS.out, HSN.out]; exact HPS.out.trans (List.append_nil _).symm, HD2.out, by rw [HSS.out, HEN.out]; exact HS2.out, HK2.out⟩, by simp [RowKit.intOf]; omega⟩
      | true =>
        go_wp2_with fail
        refine (UCopyOf_any _ _ _ F HUV2.out (by have := HD.out _ HM.out; exact this)).mono ?_
        rintro e w3 ⟨v3, rfl, hv3, hk3⟩
        obtain ⟨u3, rfl, hu3⟩ := hv3
        have HU3 := Lib.hid hu3
        obtain ⟨ua3, uc3, rfl⟩ := own_form hu3.2.1
        have hka3 := hk3.alloc (.cells #[.int .u64 y0, .int .i64 y1, .int .u64 y2, .int .i64 y3, .int .u32 y4, .int .u64 y5, .slice ua3 y6.length uc3] 34)
        have HO3 := Lib.hid (HO2.out.no hka3)
        have HD3 := Lib.hid (HD2.out.no hka3)
        have HK3 := Lib.hid (HK2.out.trans hka3 (fun _ _ h => absurd h (fun h => h)))
        have HB3 := Lib.hid (heap_alloc_new w3 (.cells #[.int .u64 y0, .int .i64 y1, .int .u64 y2, .int .i64 y3, .int .u32 y4, .int .u64 y5, .slice ua3 y6.length uc3] 34))
        have HUO := Lib.hid (HU3.out.kept ((Kept.refl NoB w3).alloc (.cells #[.int .u64 y0, .int .i64 y1, .int .u64 y2, .int .i64 y3, .int .u32 y4, .int .u64 y5, .slice ua3 y6.length uc3] 34)) (fun _ _ h => h))
        have HS3 := Lib.hid (HP.out.keep _ _ _ NoB HS2.out hka3 (fun _ _ h => h))
        have hs2w := HK2.out.size
        clear hk3 hu3 hka3 c0 c1 c2 c3 c4 c5 c6
        go_wp2_with (at_builtin; refine wpList_append_u1 27 34 i0 Tryz.underlying27 hi0 hz0 hz1 hz2 _ rfl _ _ rfl w.heap.size (.slice oa ps.length oc) ps rfl HO3.out w3.heap.size ⟨y0, y1, y2, y3, y4, y5, y6⟩ (.slice ua3 y6.length uc3) _ rfl HB3.out rfl (by omega) HK3.out.size (ps.length + 1) rfl ?_; intro a' c' w' hown' hgrow' hat')
        have hk4 : Kept T w w' := HK3.out.grown hgrow' (fun i hi => .inr (HO3.out.base i hi).1)
        have hk5 : Kept (fun i => some i = (Value.slice oa ps.length oc).ownBlock) (w3.alloc (.cells #[.int .u64 y0, .int .i64 y1, .int .u64 y2, .int .i64 y3, .int .u32 y4, .int .u64 y5, .slice ua3 y6.length uc3] 34)) w' := (Kept.refl _ _).grown hgrow' (fun i hi => .inl hi.symm)
        have hno : ∀ i cs fr, (w3.alloc (.cells #[.int .u64 y0, .int .i64 y1, .int .u64 y2, .int .i64 y3, .int .u32 y4, .int .u64 y5, .slice ua3 y6.length uc3] 34)).heap[i]? = some (.cells cs 5 fr) → (fun k => w.heap.size ≤ k) i → ¬ some i = (Value.slice oa ps.length oc).ownBlock := fun i cs fr hi _ he => own_ne HO3.out hi (by decide) he
        refine ⟨⟨k + 1, ps ++ [(⟨y0, y1, y2, y3, y4, y5, y6⟩, .slice ua3 y6.length uc3)], by omega, by go_num, hown', ?_, ?_, ?_, hk4⟩, by simp [RowKit.intOf]; omega⟩
        · rw [HSS.out, HSN.out, List.map_append, HPS.out]
          rfl
        · intro p hm
          rcases List.mem_append.1 hm with hm | hm
          · exact (HD3.out p hm).kept17 hk5 hno
          · obtain rfl : p = (⟨y0, y1, y2, y3, y4, y5, y6⟩, .slice ua3 y6.length uc3) := by simpa using hm
            exact (HUO.out.mono (fun k _ h => by omega)).kept17 hk5 hno
        · rw [HSS.out, HEN.out]
          exact HP.out.keep _ _ _ _ HS3.out hk5 (fun i ht hi => by have := (HO3.out.base i hi.symm).1; omega)
    · obtain rfl : k = l.length := by omega
      clear hur
      go_wp2
      go_ret
      have hg := HPS.out
      rw [List.take_length] at hg
      have hpn : ps.length = (selU st s0 l).length := by rw [← hg, List.length_map]
      refine ⟨oa, oc, ps, by rw [← hpn]; rfl, by rw [← hpn]; exact HO.out, hg, HDR.out, by have := HST.out; rwa [List.take_length] at this, HKR.out⟩
end Go.Proofs.YtabjpmkkigflmaaGreatDoor
