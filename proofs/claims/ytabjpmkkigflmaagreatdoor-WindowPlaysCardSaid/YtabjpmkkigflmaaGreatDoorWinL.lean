/-
  append of updates to a row of the call's own; the chapter's window: New, kept.
-/
import Derived.Test.YtabjpmkkigflmaaGreatDoorWinK
import Derived.Test.YtabjpmkkigflmaaGreatDoorUpdG
import Derived.Test.YtabjpmkkigflmaaGreatDoorLtrD
namespace Go.Proofs.YtabjpmkkigflmaaGreatDoor
open Go.RowKit
set_option linter.unusedVariables false
set_option linter.unusedSimpArgs false

theorem UsAt.ps {w : World} {F : Nat → Prop} {a : Option Addr} {n c : Nat} {l : List Up} (h : UsAt w F (.slice a n c) l) :
    ∃ ps : List (Up × Value), ps.map Prod.fst = l ∧ DatU w F ps ∧ ∀ ad, a = some ad → ∀ j u, (ucl ps)[j]? = some u → w.cell? (ad.add j) = some u := by
  have hlen := h.len.1
  rcases Nat.eq_zero_or_pos l.length with h0 | h0
  · obtain rfl : l = [] := List.eq_nil_of_length_eq_zero h0
    exact ⟨[], rfl, (fun p hp => by cases hp), fun ad _ j u hu => by simp [ucl] at hu⟩
  · obtain ⟨b, o, ha, hF, hb, _⟩ := h.at_ h0
    have key : ∀ j, j < l.length → ∃ u, w.cell? ⟨b, o + j * 7 + 6, none⟩ = some u ∧ BSl w F u (nthU l j).d := by
      intro j hj
      obtain ⟨b', o', ha', _, _, u, _, _, _, _, _, _, e6, hd⟩ := h.at_ hj
      rw [ha] at ha'
      injection ha' with ha'
      injection ha' with e1 e2 _
      subst e1 e2
      exact ⟨u, e6, hd⟩
    have hex : ∃ g : Nat → Value, ∀ j, j < l.length → w.cell? ⟨b, o + j * 7 + 6, none⟩ = some (g j) ∧ BSl w F (g j) (nthU l j).d :=
      ⟨fun j => if hj : j < l.length then Classical.choose (key j hj) else .bool false, fun j hj => by
        simp only [dif_pos hj]
        exact Classical.choose_spec (key j hj)⟩
    obtain ⟨g, hg⟩ := hex
    have hl : ((List.range l.length).map fun j => (nthU l j, g j)).length = l.length := by simp
    have hcel : CelU w b o ((List.range l.length).map fun j => (nthU l j, g j)) := by
      intro j hj i hi u hu
      rw [hl] at hj
      simp only [List.getElem_map, List.getElem_range] at hu
      obtain ⟨b', o', ha', _, _, u', e0, e1, e2, e3, e4, e5, e6, hd⟩ := h.at_ hj
      rw [ha] at ha'
      injection ha' with ha'
      injection ha' with f1 f2 _
      subst f1 f2
      have e6' := (hg j hj).1
      match i, hi with
      | 0, _ => simp only [ucs] at hu; simp at hu; subst hu; exact e0
      | 1, _ => simp only [ucs] at hu; simp at hu; subst hu; exact e1
      | 2, _ => simp only [ucs] at hu; simp at hu; subst hu; exact e2
      | 3, _ => simp only [ucs] at hu; simp at hu; subst hu; exact e3
      | 4, _ => simp only [ucs] at hu; simp at hu; subst hu; exact e4
      | 5, _ => simp only [ucs] at hu; simp at hu; subst hu; exact e5
      | 6, _ => simp only [ucs] at hu; simp at hu; subst hu; exact e6'
    refine ⟨(List.range l.length).map fun j => (nthU l j, g j), ?_, fun p hp => ?_, fun ad had j u hu => ?_⟩
    · rw [List.map_map]
      refine List.ext_getElem (by simp) fun j h1 h2 => ?_
      simp [nthU_at h2]
    · obtain ⟨j, hj, rfl⟩ := List.mem_map.1 hp
      exact (hg j (List.mem_range.1 hj)).2
    · rw [ha] at had
      injection had with had
      subst had
      exact hcel.flat j u hu
theorem ucl_one {w : World} {F : Nat → Prop} {ps : List (Up × Value)} (h : DatU w F ps) : ∀ u ∈ ucl ps, u.oneCell' = true := by
  intro u hu
  unfold ucl at hu
  obtain ⟨p, hp, hu⟩ := List.mem_flatMap.1 hu
  exact ucs_one (h p hp) u hu
theorem run_append_us (w : World) (base : Nat) (ty : TypeId) (v : Value) (qs : List (Up × Value)) (hown : UOw 34 base w v qs) (F : Nat → Prop) (a : Option Addr) (n c : Nat) (l : List Up) (hy : UsAt w F (.slice a n c) l) (ps : List (Up × Value)) (hps : ps.map Prod.fst = l) (hd : DatU w F ps) (hc : ∀ ad, a = some ad → ∀ j u, (ucl ps)[j]? = some u → w.cell? (ad.add j) = some u) (hl : qs.length + l.length ≤ 100000) (hbase : base ≤ w.heap.size) :
    ∃ a' c' w', (Builtin.append_ #[27, 27] ty #[v, .slice a n c]).run Tryz.prog w = .ok (.slice a' (qs.length + n) c') w' ∧ UOw 34 base w' (.slice a' (qs.length + n) c') (qs ++ ps) ∧ w.grownBy w' v.ownBlock ∧ ((Value.slice a' (qs.length + n) c').ownBlock = v.ownBlock ∨ (Value.slice a' (qs.length + n) c').ownBlock = some w.heap.size) := by
  obtain ⟨i0, hi, hz0, hz1, hz2⟩ := info_parts info_upd
  obtain ⟨hn, hnc, hcm, ha0⟩ := hy.len
  have hpl : ps.length = n := by rw [hn, ← hps, List.length_map]
  have key : ∃ v' w', (Builtin.append_ #[27, 27] ty #[v, .slice a n c]).run Tryz.prog w = .ok v' w' ∧ w'.ownsRow base 34 7 v' (qs.length + n) (ucl qs ++ ucl ps) ∧ w.grownBy w' v.ownBlock ∧ (v'.ownBlock = v.ownBlock ∨ v'.ownBlock = some w.heap.size) := by
    rcases a with _ | ad
    · have h0 := ha0 rfl
      subst h0
      obtain rfl : n = 0 := by omega
      obtain rfl : ps = [] := List.eq_nil_of_length_eq_zero hpl
      refine ⟨v, w, run_append_owned_none w base 27 ty 34 i0 7 Tryz.underlying27 hi v qs.length _ hown, ?_, ⟨rfl, rfl, rfl, Nat.le_refl _, fun _ _ _ => rfl⟩, .inl rfl⟩
      have h : w.ownsRow base 34 7 v qs.length (ucl qs) := hown
      simpa [ucl] using h
    · obtain ⟨v', w', hrun, h2, h3, _, h5⟩ := run_append_own_at (P := Tryz.prog) w base 27 ty 34 i0 _ 7 72 Tryz.underlying27 hi hz0 hz1 hz2 rfl (by decide) v qs.length _ hown ad n c (ucl ps) (by rw [ucl_len, hpl]) (hc ad rfl) (ucl_one hd) (by unfold maxLen; omega) (by omega) hbase
      exact ⟨v', w', hrun, h2, h3, h5⟩
  obtain ⟨v', w', h1, h2, h3, h4⟩ := key
  have h2' : UOw 34 base w' v' (qs ++ ps) := by unfold UOw; rw [ucl_app, List.length_append, hpl]; exact h2
  obtain ⟨a', c', e⟩ := h2'.form
  rw [List.length_append, hpl] at e
  subst e
  exact ⟨a', c', w', h1, h2', h3, h4⟩
theorem step_append_us (w : World) {ops : Array Oper} {o : Oper} {a : Act} {K : Act → World → Prop} {Q : Exit → Act → World → Prop} {E : Prop} (hgd : o.guard = none) (s x : Operand)
    (ho : o.op = .call { callee := .builtin .append, args := #[s, x], argTypes := #[27, 27] })
    (base : Nat) (v : Value) (qs : List (Up × Value)) (hs : a.eval s = v) (hown : UOw 34 base w v qs) (F : Nat → Prop) (xa : Option Addr) (n c : Nat) (l : List Up) (hx : a.eval x = .slice xa n c) (hy : UsAt w F (.slice xa n c) l) (ps : List (Up × Value)) (hps : ps.map Prod.fst = l) (hd : DatU w F ps) (hc : ∀ ad, xa = some ad → ∀ j u, (ucl ps)[j]? = some u → w.cell? (ad.add j) = some u) (hl : qs.length + l.length ≤ 100000) (hbase : base ≤ w.heap.size) (N : Nat) (hN : N = qs.length + n)
    (h : ∀ a' c' w', UOw 34 base w' (.slice a' N c') (qs ++ ps) → w.grownBy w' v.ownBlock → K (a.put o.dst (.slice a' N c')) w') :
    if Region.wanted o (yielded ops a.tmps) = true then Oper.wp Tryz.prog o a w K Q else E := by
  have hw : Region.wanted o (yielded ops a.tmps) = true := by simp [Region.wanted, hgd]
  rw [if_pos hw]
  subst hN
  obtain ⟨a', c', w', hrun, h2, h3, h4⟩ := run_append_us w base o.type v qs hown F xa n c l hy ps hps hd hc hl hbase
  unfold Oper.wp execOp
  simp only [ho, resolve, invoke, builtin, Sem.run_bind, Sem.run_pure, Result.andThen_ok, List.map_toArray, List.map_cons, List.map_nil, hs, hx, hrun]
  exact h a' c' w' h2 h3
/-- The chapter's window by value. -/
def RwV (w : World) (F : Nat → Prop) (v : Value) (x : Wn) : Prop := ∃ u, v = .agg #[.int .u64 x.low, .int .u64 x.en, .int .u64 x.done, u] ∧ UsAt w F u x.l
theorem RwV.kept {S F : Nat → Prop} {w w' : World} {v : Value} {x : Wn} (h : RwV w F v x) (hk : Kept S w w') (hs : ∀ k, F k → ¬ S k) : RwV w' F v x := by
  obtain ⟨u, h1, h2⟩ := h
  exact ⟨u, h1, h2.kept hk hs⟩
theorem RwV.no {F : Nat → Prop} {w w' : World} {v : Value} {x : Wn} (h : RwV w F v x) (hk : Kept NoB w w') : RwV w' F v x := h.kept hk (fun _ _ h => h)
theorem RwV.mono {F G : Nat → Prop} {w : World} {v : Value} {x : Wn} (h : RwV w F v x) (hG : ∀ k, k < w.heap.size → F k → G k) : RwV w G v x := by
  obtain ⟨u, h1, h2⟩ := h
  exact ⟨u, h1, h2.mono hG⟩
set_option maxRecDepth 100000 in
theorem RNew20_any (w : World) (a : Nat) : Calls Tryz.prog 16 #[.int .u64 a] w fun e w' => e = .returned (.agg #[.int .u64 a, .int .u64 a, .int .u64 a, .slice none 0 0]) ∧ Kept NoB w w' := by
  go_enter Tryz.func16, Tryz.ntmps16
  go_wp2
  obtain ⟨r0, r1, r2, r3⟩ := cells4w (heap_alloc_new w (.cells #[.int .u64 a, .int .u64 a, .int .u64 a, .slice none 0 0] 29))
  exact bodyPost_ret (v := .agg #[.int .u64 a, .int .u64 a, .int .u64 a, .slice none 0 0]) (by simp [results, Tryz.results16, go_sem, r0, r1, r2, r3]) rfl ⟨rfl, (Kept.refl _ _).alloc _⟩
/-- What the chapter's functions on a window tell. -/
def RwE (w : World) (F : Nat → Prop) (x : Wn) (e : Ending) (w' : World) : Prop := ∃ v', e = .returned v' ∧ RwV w' (NewOr17 F w.heap.size) v' x ∧ Kept NoB w w'
theorem filter_snoc {l : List Up} {k : Nat} (hk : k < l.length) (p : Up → Bool) : (l.take (k + 1)).filter p = (l.take k).filter p ++ (if p (nthU l k) then [nthU l k] else []) := by
  rw [takeU hk, List.filter_append]
  simp [List.filter_cons]
set_option maxRecDepth 100000 in
set_option maxHeartbeats 4000000 in
theorem Rkept_any (w : World) (v : Value) (x : Wn) (F : Nat → Prop) (h : RwV w F v x) (hF : ∀ k, F k → k < w.heap.size) (ok : WnOk x) : Calls Tryz.prog 76 #[v] w (RwE w F (forgetW x)) := by
  obtain ⟨i0, hi0, hz0, hz1, hz2⟩ := info_parts info_upd
  obtain ⟨u, rfl, hu⟩ := h
  obtain ⟨a, c, rfl⟩ := hu.form
  have HF := Lib.hid hF
  have HU := Lib.hid hu
  have HKF := Lib.hid (kept_filter ok)
  have HOK := Lib.hid ok
  have hfew := ok.few
  have htop := ok.top
  have hld := ok.ld
  have hde := ok.de
  have HFI := Lib.hid ok.fit
  obtain ⟨lo, en, dn, l⟩ := x
  simp only at HKF HU HFI hu hfew htop hld hde ⊢
  have HFW : Hid (forgetW ⟨lo, en, dn, l⟩ = ⟨lowW ⟨lo, en, dn, l⟩, en, dn, (forgetW ⟨lo, en, dn, l⟩).l⟩) := Lib.hid rfl
  have HLW : Hid (lowW ⟨lo, en, dn, l⟩ = max lo (min dn (en - 32))) := Lib.hid rfl
  obtain ⟨V, hV⟩ : ∃ V, V = (w.alloc (.cells #[.int .u64 lo, .int .u64 en, .int .u64 dn, .slice a l.length c] 29)).alloc (.cells #[.int .u64 0, .int .u64 0, .int .u64 0, .slice none 0 0] 29) := ⟨_, rfl⟩
  have HB1 : Hid (V.heap[w.heap.size]? = some (.cells #[.int .u64 lo, .int .u64 en, .int .u64 dn, .slice a l.length c] 29 (0, 0))) := Lib.hid (by rw [hV]; exact blkU_alloc (heap_alloc_new w _) _)
  have HB2 : Hid (V.heap[w.heap.size + 1]? = some (.cells #[.int .u64 0, .int .u64 0, .int .u64 0, .slice none 0 0] 29 (0, 0))) := Lib.hid (by
    rw [hV]
    have := heap_alloc_new (w.alloc (.cells #[.int .u64 lo, .int .u64 en, .int .u64 dn, .slice a l.length c] 29)) (.cells #[.int .u64 0, .int .u64 0, .int .u64 0, .slice none 0 0] 29)
    simpa using this)
  have HKV : Hid (Kept NoB w V) := Lib.hid (by rw [hV]; exact ((Kept.refl _ _).alloc _).alloc _)
  have HVS : Hid (V.heap.size = w.heap.size + 2) := Lib.hid (by rw [hV]; simp)
  have HV := Lib.hid hV
  obtain ⟨c0, c1, c2, c3⟩ := cells4w HB1.out
  have f2 := blkU_frozen HB2.out
  clear hV hu hF ok
  by_cases h32 : en < 32
  · have h32i : (en : Int) < 32 := by omega
    have HE : Hid (forgetW ⟨lo, en, dn, l⟩ = ⟨lo, en, dn, l⟩) := Lib.hid (norm_same (show min dn (en - 32) ≤ lo by omega))
    clear h32 HFW HLW HKF hld hde
    go_enter Tryz.func76, Tryz.ntmps76
    go_wp2_with fail
    have r := heap_alloc_new (w.alloc (.cells #[.int .u64 lo, .int .u64 en, .int .u64 dn, .slice a l.length c] 29)) (.cells #[.int .u64 lo, .int .u64 en, .int .u64 dn, .slice a l.length c] 29)
    rw [show (w.alloc (.cells #[.int .u64 lo, .int .u64 en, .int .u64 dn, .slice a l.length c] 29)).heap.size = w.heap.size + 1 by simp] at r
    obtain ⟨r0, r1, r2, r3⟩ := cells4w r
    have hkk := ((Kept.refl NoB w).alloc (.cells #[.int .u64 lo, .int .u64 en, .int .u64 dn, .slice a l.length c] 29)).alloc (.cells #[.int .u64 lo, .int .u64 en, .int .u64 dn, .slice a l.length c] 29)
    refine bodyPost_ret (v := .agg #[.int .u64 lo, .int .u64 en, .int .u64 dn, .slice a l.length c]) (by simp [results, Tryz.results76, go_sem, r0, r1, r2, r3]) rfl ⟨_, rfl, ?_, hkk⟩
    rw [HE.out]
    exact ⟨_, rfl, (HU.out.no hkk).mono (fun _ _ h => .inl h)⟩
  · have h32i : ¬ (en : Int) < 32 := by omega
    have hws : IntKind.u64.wrap ((en : Int) - 32) = (en : Int) - 32 := IntWalk.u64_in _ (by omega)
    obtain ⟨LW, hLW⟩ : ∃ LW, LW = lowW ⟨lo, en, dn, l⟩ := ⟨_, rfl⟩
    obtain ⟨R, hR⟩ : ∃ R, R = (forgetW ⟨lo, en, dn, l⟩).l := ⟨_, rfl⟩
    rw [← hLW] at HKF HFW HLW
    rw [← hR] at HKF HFW
    obtain ⟨M, hM⟩ : ∃ M, M = min dn (en - 32) := ⟨_, rfl⟩
    have HM : Hid ((dn < en - 32 → M = dn) ∧ (¬ dn < en - 32 → M = en - 32)) := Lib.hid (by rw [Nat.min_def] at hM; split at hM <;> omega)
    have HFL : Hid ((M < lo → LW = lo) ∧ (¬ M < lo → LW = M)) := Lib.hid (by have := HLW.out; rw [← hM, Nat.max_def] at this; split at this <;> omega)
    clear hM
    clear hLW hR HLW
    go_enter Tryz.func76, Tryz.ntmps76
    go_upto_if 16 with fail
    rw [← HV.out]
    go_cut [3] from 16 to 18 (fun x wc => x = .int .u64 M ∧ wc = V)
    case first =>
      by_cases hd : (dn : Int) < (en : Int) - 32
      · have hE : (M : Int) = (dn : Int) := by have := HM.out; omega
        go_wp2
        all_goals
          go_meet
          case rel => exact ⟨by first | rfl | (rw [hE]; done) | (congr 1; omega), rfl⟩
      · have hE : (M : Int) = (en : Int) - 32 := by have := HM.out; omega
        go_wp2
        all_goals
          go_meet
          case rel => exact ⟨by first | rfl | (rw [hE]; done) | (congr 1; omega), rfl⟩
    case rest =>
     obtain ⟨rfl, rfl⟩ := hcut
     go_upto_if 22 with fail
     go_cut [3] from 22 to 24 (fun x w2 => x = .int .u64 LW ∧ w2 = wc)
     case first =>
      by_cases hd : (M : Int) < (lo : Int)
      · have hE : (LW : Int) = (lo : Int) := by have := HFL.out; omega
        go_wp2
        all_goals
          go_meet
          case rel => exact ⟨by first | rfl | (rw [hE]; done) | (congr 1; omega), rfl⟩
      · have hE : (LW : Int) = (M : Int) := by have := HFL.out; omega
        go_wp2
        all_goals
          go_meet
          case rel => exact ⟨by first | rfl | (rw [hE]; done) | (congr 1; omega), rfl⟩
     case rest =>
      obtain ⟨rfl, rfl⟩ := hcut
      clear h32 h32i hws hld hde
      go_wp2
      go_loopw [4, 5] (fun ov iv wr => ∃ (k : Nat) (ps : List (Up × Value)), k ≤ l.length ∧ iv = .int .i64 k ∧ UOw 34 wc.heap.size wr ov ps ∧ ps.map Prod.fst = (l.take k).filter (fun u => decide ((LW : Int) < u.q)) ∧ DatU wr F ps ∧ Kept NoB wc wr) (fun _ i _ => l.length - (RowKit.intOf i).toNat)
      case atStart => exact ⟨0, [], Nat.zero_le _, rfl, UOw.nil _ _ _, rfl, (fun p hp => by cases hp), Kept.refl _ _⟩
      case round =>
        obtain ⟨k, ps, hk, rfl, hown, hps, hdat, hK⟩ := hrel
        have HPS := Lib.hid hps
        have HD := Lib.hid hdat
        have HKR := Lib.hid hK
        have HO := Lib.hid hown
        have hk0 : (0 : Int) ≤ (k : Int) := by omega
        have hpl : ps.length ≤ 5000 := by
          have := congrArg List.length hps
          rw [List.length_map] at this
          have h2 := List.length_filter_le (fun u => decide ((LW : Int) < u.q)) (l.take k)
          rw [List.length_take] at h2
          omega
        have hur := HU.out.no (HKV.out.trans hK (fun _ _ h => h))
        obtain ⟨oa, oc, rfl⟩ := hown.form
        have HBR := Lib.hid (hK.heap (fun h => h) HB1.out)
        have HBR2 := Lib.hid (hK.heap (fun h => h) HB2.out)
        clear c0 c1 c2 c3 f2
        obtain ⟨c0, c1, c2, c3⟩ := cells4w HBR.out
        clear hown hps hdat hK
        by_cases hlt : k < l.length
        · have hk1 : (k : Int) < (l.length : Int) := by omega
          have HSS := Lib.hid (filter_snoc hlt (fun u => decide ((LW : Int) < u.q)))
          have hfy := HFI.out.at_ hlt
          obtain ⟨b, o, rfl, hFb, hb, u, e0, e1, e2, e3, e4, e5, e6, hdd⟩ := hur.at_ hlt
          obtain ⟨⟨y0, y1, y2, y3, y4, y5, y6⟩, hy⟩ : ∃ y, y = nthU l k := ⟨_, rfl⟩
          rw [← hy] at e0 e1 e2 e3 e4 e5 hdd HSS hfy
          simp only at e0 e1 e2 e3 e4 e5 hdd
          have HDD := Lib.hid hdd
          obtain ⟨va, vc, rfl, _⟩ := hdd
          clear hur hy hFb hb hfy
          by_cases hz : (LW : Int) < y0
          · have hka := (Kept.refl NoB wr).alloc (.cells #[.int .u64 y0, .int .i64 y1, .int .u64 y2, .int .i64 y3, .int .u32 y4, .int .u64 y5, .slice va y6.length vc] 34)
            have HST : Hid (((l.take (k + 1)).filter (fun u => decide ((LW : Int) < u.q))) = (l.take k).filter (fun u => decide ((LW : Int) < u.q)) ++ [⟨y0, y1, y2, y3, y4, y5, y6⟩]) := Lib.hid (by rw [HSS.out, if_pos (decide_eq_true hz)])
            have HO3 := Lib.hid (HO.out.no hka)
            have HD3 := Lib.hid (HD.out.kept hka (fun _ _ h => h))
            have HDD3 := Lib.hid (HDD.out.kept hka (fun _ _ h => h))
            have HK3 := Lib.hid (HKR.out.trans hka (fun _ _ h => h))
            have HB3 := Lib.hid (heap_alloc_new wr (.cells #[.int .u64 y0, .int .i64 y1, .int .u64 y2, .int .i64 y3, .int .u32 y4, .int .u64 y5, .slice va y6.length vc] 34))
            clear hka
            go_wp2_with (at_builtin; refine wpList_append_u1 27 34 i0 Tryz.underlying27 hi0 hz0 hz1 hz2 _ rfl _ _ rfl wc.heap.size (.slice oa ps.length oc) ps rfl HO3.out wr.heap.size ⟨y0, y1, y2, y3, y4, y5, y6⟩ (.slice va y6.length vc) _ rfl HB3.out rfl (by omega) HK3.out.size (ps.length + 1) rfl ?_; intro a' c' w' hown' hgrow' hat')
            have hk4 : Kept NoB wc w' := HK3.out.grown hgrow' (fun i hi => .inr (HO3.out.base i hi).1)
            have hk5 : Kept (fun i => some i = (Value.slice oa ps.length oc).ownBlock) (wr.alloc (.cells #[.int .u64 y0, .int .i64 y1, .int .u64 y2, .int .i64 y3, .int .u32 y4, .int .u64 y5, .slice va y6.length vc] 34)) w' := (Kept.refl _ _).grown hgrow' (fun i hi => .inl hi.symm)
            have hFo : ∀ i, F i → ¬ some i = (Value.slice oa ps.length oc).ownBlock := fun i hi h => by
              have h1 := (HO3.out.base i h.symm).1
              have h2 := HF.out i hi
              have h3 := HKV.out.size
              omega
            refine ⟨⟨k + 1, ps ++ [(⟨y0, y1, y2, y3, y4, y5, y6⟩, .slice va y6.length vc)], by omega, by go_num, hown', ?_, ?_, hk4⟩, by simp [RowKit.intOf]; omega⟩
            · rw [List.map_append, HPS.out, HST.out]
              rfl
            · intro p hm
              rcases List.mem_append.1 hm with hm | hm
              · exact (HD3.out p hm).kept hk5 hFo
              · obtain rfl : p = (⟨y0, y1, y2, y3, y4, y5, y6⟩, .slice va y6.length vc) := by simpa using hm
                exact HDD3.out.kept hk5 hFo
          · have HST : Hid (((l.take (k + 1)).filter (fun u => decide ((LW : Int) < u.q))) = (l.take k).filter (fun u => decide ((LW : Int) < u.q))) := Lib.hid (by rw [HSS.out, if_neg (by simpa using hz), List.append_nil])
            go_wp2
            exact ⟨⟨k + 1, ps, by omega, by go_num, HO.out, by rw [HPS.out, HST.out], HD.out, HKR.out⟩, by simp [RowKit.intOf]; omega⟩
        · obtain rfl : k = l.length := by omega
          have f1 := blkU_frozen HBR.out
          have f2 := blkU_frozen HBR2.out
          obtain ⟨g0, g1, g2, g3⟩ := cells4w HBR2.out
          have HVC := Lib.hid HVS.out
          clear hur
          go_wp2
          have HZ : ((wr.setCell ⟨w.heap.size, 0, none⟩ (.int .u64 LW)).setCell ⟨w.heap.size, 3, none⟩ (.slice oa ps.length oc)).heap[w.heap.size + 1]? = some (.cells #[.int .u64 0, .int .u64 0, .int .u64 0, .slice none 0 0] 29 (0, 0)) :=
            blkU_set_other (blkU_set_other HBR2.out _ _ (by omega)) _ _ (by omega)
          have r := four10_at HZ (.int .u64 LW) (.int .u64 en) (.int .u64 dn) (.slice oa ps.length oc)
          have hkk : Kept (fun k => k = w.heap.size ∨ k = w.heap.size + 1) wr (Go.Proofs.YtabjpmkkigflmaaGreatDoor.four10 ((wr.setCell ⟨w.heap.size, 0, none⟩ (.int .u64 LW)).setCell ⟨w.heap.size, 3, none⟩ (.slice oa ps.length oc)) (w.heap.size + 1) 0 (.int .u64 LW) (.int .u64 en) (.int .u64 dn) (.slice oa ps.length oc)) :=
            (((Kept.refl _ wr).setCell (p := ⟨w.heap.size, 0, none⟩) (.inl (.inl rfl)) _).setCell (p := ⟨w.heap.size, 3, none⟩) (.inl (.inl rfl)) _).four10 (.inl (.inr rfl)) 0 _ _ _ _
          unfold Go.Proofs.YtabjpmkkigflmaaGreatDoor.four10 at r hkk
          simp only [Nat.zero_add] at r hkk
          obtain ⟨r0, r1, r2, r3⟩ := cells4w r
          have hkw := (HKV.out.trans HKR.out (fun _ _ h => h)).trans hkk (T := fun k => k = w.heap.size ∨ k = w.heap.size + 1) (fun i hi h => by rcases h with h | h <;> omega)
          refine bodyPost_ret (v := .agg #[.int .u64 LW, .int .u64 en, .int .u64 dn, .slice oa ps.length oc]) (by simp [results, Tryz.results76, go_sem, r0, r1, r2, r3]) rfl ⟨_, rfl, ?_, hkw⟩
          rw [HFW.out]
          have hg := HPS.out
          rw [List.take_length, HKF.out] at hg
          have hus := HO.out.us (F := NewOr17 F wc.heap.size) (fun k hk => .inr (HO.out.base k hk).1) (HD.out.mono (fun k _ h => .inl h))
          rw [hg] at hus
          refine ⟨_, rfl, (hus.kept hkk (fun k h1 h2 => ?_)).mono (fun k _ h => ?_)⟩
          · have h3 := HVC.out
            rcases h1 with h1 | h1
            · have := HF.out k h1; omega
            · omega
          · have h3 := HVC.out
            rcases h with h | h
            · exact .inl h
            · exact .inr (by omega)
end Go.Proofs.YtabjpmkkigflmaaGreatDoor
