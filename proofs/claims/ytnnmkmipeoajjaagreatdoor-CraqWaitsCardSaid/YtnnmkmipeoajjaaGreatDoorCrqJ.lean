/-
  Package craq: Ask.
-/
import Derived.Test.YtnnmkmipeoajjaaGreatDoorCrqI
import Derived.Deep.RegionWith
namespace Go.Proofs.YtnnmkmipeoajjaaGreatDoor
open Go.RowKit
set_option linter.unusedVariables false
set_option linter.unusedSimpArgs false

theorem step_append_rq {e tl : TypeId} (hU : Tryz.prog.underlying tl = some (.slice e)) (hI : (Tryz.prog.info? e).map (fun i => (i.zero, i.size, i.bytes)) = some (some (.agg #[.int .u64 0, .int .i64 0, .int .u64 0, .int .u32 0]), 4, 32)) (w : World) {ops : Array Oper} {o : Oper} {a : Act} {K : Act → World → Prop} {Q : Exit → Act → World → Prop} {E : Prop} (hgd : o.guard = none) (s x : Operand)
    (ho : o.op = .call { callee := .builtin .append, args := #[s, x], argTypes := #[tl, tl] })
    (base : Nat) (v : Value) (L : List Rq) (hs : a.eval s = v) (hown : RqOw e base w v L) (b : Nat) (y : Rq) (hx : a.eval x = .slice (some ⟨b, 0, none⟩) 1 1) (hb : w.heap[b]? = some (.cells #[.int .u64 y.t, .int .i64 y.c, .int .u64 y.n, .int .u32 y.k] e (0, 0))) (hl : L.length ≤ 100000) (hbase : base ≤ w.heap.size) (N : Nat) (hN : L.length + 1 = N)
    (h : ∀ a' c' w', RqOw e base w' (.slice a' N c') (L ++ [y]) → w.grownBy w' v.ownBlock → ((Value.slice a' N c').ownBlock = v.ownBlock ∨ (Value.slice a' N c').ownBlock = some w.heap.size) → K (a.put o.dst (.slice a' N c')) w') :
    if Region.wanted o (yielded ops a.tmps) = true then Oper.wp Tryz.prog o a w K Q else E := by
  have hw : Region.wanted o (yielded ops a.tmps) = true := by simp [Region.wanted, hgd]
  rw [if_pos hw]
  subst hN
  obtain ⟨a', c', w', hrun, h2, h3, h4⟩ := run_append_rq hU hI w base o.type v L hown b y hb hl hbase
  unfold Oper.wp execOp
  simp only [ho, resolve, invoke, builtin, Sem.run_bind, Sem.run_pure, Result.andThen_ok, List.map_toArray, List.map_cons, List.map_nil, hs, hx, hrun]
  exact h a' c' w' h2 h3 h4
def QAskP (g : Nat) (a : Option Addr) (d : Nat) (tk : Int) (L : List Rq) (c n k : Int) (w : World) (e : Ending) (w' : World) : Prop :=
  e = .returned (.tuple #[rqv (askF tk L c n k).2.2.1, .int .i64 (askF tk L c n k).2.2.2]) ∧ (∃ a' d', RdsAt w' g a' d' (askF tk L c n k).1 (askF tk L c n k).2.1 ∧ OwnR w (.slice a L.length d) (.slice a' (askF tk L c n k).2.1.length d')) ∧ Kept (FtR g a L.length d) w w'
theorem ask_end {g : Nat} {a a' : Option Addr} {d d' : Nat} {tk : Int} {L : List Rq} {c n k : Int} {w W : World} {y : Nat} {t' : Int} {L' : List Rq} {x : Rq} {er : Int} {p q u v : Value} (hA : askF tk L c n k = (t', L', x, er)) (hr : RdsAt W g a' d' t' L') (hgy : g ≠ y) (hj : ∀ j, (Value.slice a' L'.length d').ownBlock = some j → j ≠ y) (hk : Kept (FtR g a L.length d) w W) (hy : w.heap.size ≤ y) (ho : OwnR w (.slice a L.length d) (.slice a' L'.length d')) :
    QAskP g a d tk L c n k w (.returned (.tuple #[rqv x, .int .i64 er])) ((((W.setCell ⟨y, 0, none⟩ p).setCell ⟨y, 1, none⟩ q).setCell ⟨y, 2, none⟩ u).setCell ⟨y, 3, none⟩ v) := by
  have HK4 := four22_kept W y p q u v
  unfold QAskP
  rw [hA]
  refine ⟨rfl, ⟨a', d', ⟨HK4.heap (fun h => hgy h) hr.1, hr.2.kept HK4 (fun j h1 h2 => hj j h1 h2)⟩, ho⟩, hk.trans HK4 (fun i hi h => ?_)⟩
  have h : i = y := h
  omega
theorem RdsAt.rows {w : World} {g : Nat} {a : Option Addr} {d : Nat} {t : Int} {L : List Rq} (h : RdsAt w g a d t L) : ∀ j, (Value.slice a L.length d).ownBlock = some j → j < w.heap.size ∧ j ≠ g := by
  intro j hj
  refine ⟨(h.2.base j hj).2, ?_⟩
  rintro rfl
  rcases h.2.2 with ⟨hv, _⟩ | ⟨r, cap, cur, hv, _, hr, _⟩
  · rw [hv] at hj; simp [Value.ownBlock] at hj
  · rw [hv] at hj
    injection hj with hj
    subst hj
    rw [h.1] at hr
    injection hr with hr
    injection hr with _ hr
    exact absurd hr (by decide)
theorem row_ne22 {e u : TypeId} {B : Nat} {w : World} {v : Value} {L : List Rq} {j : Nat} {cs : Array Value} (h : RqOw e B w v L) (hb : w.heap[j]? = some (.cells cs u (0, 0))) (hne : u ≠ e) (hj : v.ownBlock = some j) : False := by
  rcases h.2 with ⟨hv, _⟩ | ⟨r, cap, cur, hv, _, hr, _⟩
  · rw [hv] at hj; simp [Value.ownBlock] at hj
  · rw [hv] at hj
    injection hj with hj
    subst hj
    rw [hb] at hr
    injection hr with hr
    injection hr with _ hr
    exact hne hr
theorem same_none {L : List Rq} {c : Int} (n k : Int) (h : L.any (fun x => x.c == c) = false) : L.find? (sameA c n k) = none ∧ notC c L = L := by
  refine ⟨?_, keepR_none (p := fun x => x.c == c) h⟩
  rw [List.find?_eq_none]
  intro x hx
  have := List.any_eq_false.1 h x hx
  have h2 : ¬ x.c = c := by simpa using this
  rw [sameA_else h2]; simp
theorem same_some {L : List Rq} {c n k : Int} (hd : Dis L) {j : Nat} (hj : j < L.length) (hc : L[j].c = c) : (sameA c n k L[j] = true → L.find? (sameA c n k) = some L[j]) ∧ (sameA c n k L[j] = false → L.find? (sameA c n k) = none) ∧ (notC c L).length + 1 ≤ L.length := by
  have hne : ∀ i (hi : i < L.length), i ≠ j → ¬ L[i].c = c := by
    intro i hi hij e
    rcases Nat.lt_or_gt_of_ne hij with h | h
    · exact (hd.at_ h hj).1 (e.trans hc.symm)
    · exact (hd.at_ h hi).1 (hc.trans e.symm)
  refine ⟨fun h => ?_, fun h => ?_, ?_⟩
  · refine find_take hj ?_ h
    rw [List.find?_eq_none]
    intro x hx
    obtain ⟨i, hi, rfl⟩ := List.mem_iff_getElem.1 hx
    rw [List.length_take] at hi
    rw [List.getElem_take, sameA_else (hne i (by omega) (by omega))]; simp
  · rw [List.find?_eq_none]
    intro x hx
    obtain ⟨i, hi, rfl⟩ := List.mem_iff_getElem.1 hx
    by_cases hij : i = j
    · subst hij; rw [h]; simp
    · rw [sameA_else (hne i hi hij)]; simp
  · have e : L = L.take j ++ L[j] :: L.drop (j + 1) := by rw [List.getElem_cons_drop, List.take_append_drop]
    have : notC c L = notC c (L.take j) ++ notC c (L.drop (j + 1)) := by
      conv => lhs; rw [e]
      unfold notC
      rw [List.filter_append, List.filter_cons]
      simp [hc]
    rw [this, List.length_append]
    have h1 := notC_len c (L.take j)
    have h2 := notC_len c (L.drop (j + 1))
    rw [List.length_take] at h1
    rw [List.length_drop] at h2
    omega
set_option maxRecDepth 100000 in
set_option maxHeartbeats 2000000 in
theorem QAsk_any (g : Nat) (a : Option Addr) (d : Nat) (tk : Int) (L : List Rq) (c n k : Int) (w : World) (h : RdsAt w g a d tk L) (hd : Dis L) (hl : L.length ≤ 16) (ht0 : 0 ≤ tk) (ht1 : tk ≤ 1000) (hn : 0 ≤ n) (hk0 : 0 ≤ k) : Calls Tryz.prog 15 #[.pointer (some ⟨g, 0, none⟩), .int .i64 c, .int .u64 n, .int .u32 k] w (QAskP g a d tk L c n k w) := by
  obtain ⟨V, hV⟩ : ∃ V, V = (w.alloc (.cells #[.int .i64 c] 3)).alloc (.cells #[.int .u64 0, .int .i64 0, .int .u64 0, .int .u32 0] 33) := ⟨_, rfl⟩
  have hk : Kept NoB w V := by rw [hV]; exact ((Kept.refl _ _).alloc _).alloc _
  have hb : V.heap[w.heap.size + 1]? = some (.cells #[.int .u64 0, .int .i64 0, .int .u64 0, .int .u32 0] 33 (0, 0)) := by
    rw [hV]; have := heap_alloc_new (w.alloc (.cells #[.int .i64 c] 3)) (.cells #[.int .u64 0, .int .i64 0, .int .u64 0, .int .u32 0] 33); rwa [World.size_alloc] at this
  have hx : V.heap[w.heap.size]? = some (.cells #[.int .i64 c] 3 (0, 0)) := by
    rw [hV]; exact (heap_alloc_old _ _ (by simp)).trans (heap_alloc_new w _)
  obtain ⟨m, hm⟩ : ∃ m, m = L.length := ⟨_, rfl⟩
  have hg := h.no hk
  have hgl : g < w.heap.size := heap_lt h.1
  have hrow := h.rows
  have HIX := Lib.hid (IndexR_any _ L _ w.heap.size _ _ 0 V hg.2 hx (ask1_any w.heap.size c) (by omega))
  have HRV := Lib.hid hg
  unfold RdsAt at hg
  rw [← hm] at hg HIX hrow
  have HM := Lib.hid hm
  have HJ := Lib.hid hrow
  have HV := Lib.hid hV
  have HK := Lib.hid hk
  have HX := Lib.hid hx
  have HB := Lib.hid hb
  have HG := Lib.hid hg.1
  have HO := Lib.hid hg.2
  have HD := Lib.hid hd
  have hml : m ≤ 16 := by rw [hm]; exact hl
  have c0 : V.cell? ⟨w.heap.size, 0, none⟩ = some (.int .i64 c) := cell_of_row _ _ 0 _ _ _ hx
  obtain ⟨q0, q1, z0, z1⟩ := cells2q hg.1
  obtain ⟨d0, d1, d2, d3, f0, f1, f2, f3⟩ := cells4q hb
  clear hV hk hb hx hg hm h hd hrow
  by_cases hb : badA c n
  · have HA : Hid (askF tk L c n k = (tk, L, rq0, 1)) := Lib.hid (by unfold askF; rw [if_pos hb])
    unfold badA at hb
    by_cases h1 : c < 1
    · have d1 : decide (c < 1) = true := decide_eq_true h1
      clear hb
      go_enter Tryz.func15, Tryz.ntmps15
      go_upto_region 1 with fail
      rw [← HV.out]
      go_wp2
      obtain ⟨s0, s1, s2, s3, _⟩ := cells4q (four22_at HB.out (.int .u64 0) (.int .i64 0) (.int .u64 0) (.int .u32 0))
      refine bodyPost_ret (v := .tuple #[.agg #[.int .u64 0, .int .i64 0, .int .u64 0, .int .u32 0], .int .i64 1]) (by simp [results, Tryz.results15, go_sem, s0, s1, s2, s3]) rfl ?_
      exact ask_end HA.out HRV.out (by omega) (fun j hj => by have := (HJ.out j (by rw [HM.out]; exact hj)).1; omega) (HK.out.mono (fun _ _ h => h.elim)) (by omega) (fun j h => .inl h)
    · have d1 : decide (c < 1) = false := decide_eq_false h1
      by_cases h2 : 6 < c
      · have d2 : decide (6 < c) = true := decide_eq_true h2
        clear hb
        go_enter Tryz.func15, Tryz.ntmps15
        go_upto_region 1 with fail
        rw [← HV.out]
        go_wp2
        obtain ⟨s0, s1, s2, s3, _⟩ := cells4q (four22_at HB.out (.int .u64 0) (.int .i64 0) (.int .u64 0) (.int .u32 0))
        refine bodyPost_ret (v := .tuple #[.agg #[.int .u64 0, .int .i64 0, .int .u64 0, .int .u32 0], .int .i64 1]) (by simp [results, Tryz.results15, go_sem, s0, s1, s2, s3]) rfl ?_
        exact ask_end HA.out HRV.out (by omega) (fun j hj => by have := (HJ.out j (by rw [HM.out]; exact hj)).1; omega) (HK.out.mono (fun _ _ h => h.elim)) (by omega) (fun j h => .inl h)
      · have d2 : decide (6 < c) = false := decide_eq_false h2
        have d3 : (n == 0) = true := by simp; omega
        clear hb
        go_enter Tryz.func15, Tryz.ntmps15
        go_upto_region 1 with fail
        rw [← HV.out]
        go_wp2
        obtain ⟨s0, s1, s2, s3, _⟩ := cells4q (four22_at HB.out (.int .u64 0) (.int .i64 0) (.int .u64 0) (.int .u32 0))
        refine bodyPost_ret (v := .tuple #[.agg #[.int .u64 0, .int .i64 0, .int .u64 0, .int .u32 0], .int .i64 1]) (by simp [results, Tryz.results15, go_sem, s0, s1, s2, s3]) rfl ?_
        exact ask_end HA.out HRV.out (by omega) (fun j hj => by have := (HJ.out j (by rw [HM.out]; exact hj)).1; omega) (HK.out.mono (fun _ _ h => h.elim)) (by omega) (fun j h => .inl h)
  · have HNB := Lib.hid hb
    have d1 : decide (c < 1) = false := decide_eq_false (by unfold badA at hb; omega)
    have d2 : decide (6 < c) = false := decide_eq_false (by unfold badA at hb; omega)
    have d3 : (n == 0) = false := by simp; unfold badA at hb; omega
    clear hb
    go_enter Tryz.func15, Tryz.ntmps15
    go_upto_region 1 with fail
    rw [← HV.out]
    go_wp2_with fail
    refine HIX.out.mono ?_
    rintro e w1 ⟨r0, rfl, hk1, (⟨rfl, hnone⟩ | ⟨j, hj, rfl, hno, hyes⟩)⟩
    · have HK1 := Lib.hid hk1
      obtain ⟨hf1, hf2⟩ := same_none n k hnone
      have HR1 := Lib.hid (HRV.out.no hk1)
      have HB1 := Lib.hid (hk1.heap (fun h => h) HB.out)
      have HX1 := Lib.hid (hk1.heap (fun h => h) HX.out)
      have HG1 := Lib.hid (hk1.heap (fun h => h) HG.out)
      have hs1 := hk1.size
      obtain ⟨N, hN⟩ : ∃ N, N = (notC c L).length := ⟨_, rfl⟩
      have HNN := Lib.hid hN
      have HNL : Hid (N = m) := Lib.hid (by rw [hN, hf2]; exact HM.out.symm)
      have hN100 : N ≤ 16 := by have := HNL.out; omega
      obtain ⟨q0, q1, z0, z1⟩ := cells2q HG1.out
      obtain ⟨d0, d1, d2, d3, f0, f1, f2, f3⟩ := cells4q HB1.out
      have c0 : w1.cell? ⟨w.heap.size, 0, none⟩ = some (.int .i64 c) := cell_of_row _ _ 0 _ _ _ HX1.out
      by_cases hf : 16 ≤ N
      · have HA : Hid (askF tk L c n k = (tk, L, rq0, 9)) := Lib.hid (by unfold askF; rw [if_neg HNB.out, hf1]; show (if 16 ≤ (notC c L).length then _ else _) = _; rw [if_pos (by rw [← hN]; exact hf)])
        have df : (16 : Int) ≤ (m : Int) := by have := HNL.out; omega
        clear hk1 hnone hf1 hf2 hN
        go_wp2
        obtain ⟨s0, s1, s2, s3, _⟩ := cells4q (four22_at HB1.out (.int .u64 0) (.int .i64 0) (.int .u64 0) (.int .u32 0))
        refine bodyPost_ret (v := .tuple #[.agg #[.int .u64 0, .int .i64 0, .int .u64 0, .int .u32 0], .int .i64 9]) (by simp [results, Tryz.results15, go_sem, s0, s1, s2, s3]) rfl ?_
        exact ask_end HA.out HR1.out (by omega) (fun j hj => by have := (HJ.out j (by rw [HM.out]; exact hj)).1; omega) ((HK.out.trans HK1.out (fun _ _ h => h)).mono (fun _ _ h => h.elim)) (by omega) (fun j h => .inl h)
      have HA : Hid (askF tk L c n k = (tk + 1, notC c L ++ [⟨tk + 1, c, n, k⟩], ⟨tk + 1, c, n, k⟩, 0)) := Lib.hid (by unfold askF; rw [if_neg HNB.out, hf1]; show (if 16 ≤ (notC c L).length then _ else _) = _; rw [if_neg (by rw [← hN]; exact hf)])
      have df : ¬ (16 : Int) ≤ (m : Int) := by have := HNL.out; omega
      clear hk1 hnone hf1 hf2 hN hf
      go_upto_region 12 with fail
      obtain ⟨W2, hW2⟩ : ∃ W2, W2 = w1.setCell ⟨g, 1, none⟩ (.int .u64 (tk + 1)) := ⟨_, rfl⟩
      have hkg : Kept (fun i => i = g) w1 W2 := by rw [hW2]; exact (Kept.refl (fun i => i = g) w1).setCell (p := ⟨g, 1, none⟩) (.inl (by show g = g; rfl)) _
      have HG2 : Hid (W2.heap[g]? = some (.cells #[.slice a m d, .int .u64 (tk + 1)] 133 (0, 0))) := Lib.hid (by rw [hW2]; simpa using blkV_set HG1.out 1 (.int .u64 (tk + 1)))
      have HB2 := Lib.hid (hkg.heap (fun h => by have h : w.heap.size + 1 = g := h; omega) HB1.out)
      have HX2 := Lib.hid (hkg.heap (fun h => by have h : w.heap.size = g := h; omega) HX1.out)
      have HO2 := Lib.hid (HR1.out.2.kept hkg (fun j hj h => by have := (HJ.out j (by rw [HM.out]; exact hj)).2; exact this h))
      have HKG := Lib.hid hkg
      have hs2 := hkg.size
      rw [← hW2]
      clear hW2 hkg q0 q1 z0 z1 d0 d1 d2 d3 f0 f1 f2 f3 c0
      obtain ⟨q0, q1, z0, z1⟩ := cells2q HG2.out
      have c0 : W2.cell? ⟨w.heap.size, 0, none⟩ = some (.int .i64 c) := cell_of_row _ _ 0 _ _ _ HX2.out
      have c0a := cell_alloc c0 (.cells #[.int .u64 0, .int .i64 0, .int .u64 0, .int .u32 0] 33)
      have q1a := cell_alloc q1 (.cells #[.int .u64 0, .int .i64 0, .int .u64 0, .int .u32 0] 33)
      have hz := heap_alloc_new W2 (.cells #[.int .u64 0, .int .i64 0, .int .u64 0, .int .u32 0] 33)
      obtain ⟨v0, v1, v2, v3, y0, y1, y2, y3⟩ := cells4q hz
      have HZ := Lib.hid hz
      clear hz
      go_region
      obtain ⟨W3, hW3⟩ : ∃ W3, W3 = (W2.alloc (.cells #[.int .u64 (tk + 1), .int .i64 c, .int .u64 n, .int .u32 k] 33)).drew := ⟨_, rfl⟩
      obtain ⟨bx, hbx⟩ : ∃ bx, bx = W2.heap.size := ⟨_, rfl⟩
      have hk3 : Kept NoB W2 W3 := by rw [hW3]; exact ((Kept.refl _ _).alloc _).drew
      have HR3 : Hid (W3.heap[bx]? = some (.cells #[.int .u64 (tk + 1), .int .i64 c, .int .u64 n, .int .u32 k] 33 (0, 0))) := Lib.hid (by rw [hW3, hbx]; exact heap_alloc_new W2 _)
      have HG3 := Lib.hid (hk3.heap (fun h => h) HG2.out)
      have HX3 := Lib.hid (hk3.heap (fun h => h) HX2.out)
      have HB3 := Lib.hid (hk3.heap (fun h => h) HB2.out)
      have HO3 := Lib.hid (HO2.out.no hk3)
      have hs3 := hk3.size
      have hsV := HK.out.size
      have hV2 : w.heap.size + 1 < V.heap.size := heap_lt HB.out
      have HKW : Hid (Kept (FtR g a L.length d) w W3) := Lib.hid ((((HK.out.trans HK1.out (fun _ _ h => h)).mono (T := FtR g a L.length d) (fun _ _ h => h.elim)).trans HKG.out (fun i _ h => .inl h)).trans hk3 (fun _ _ h => h.elim))
      have hbxv : w.heap.size ≤ bx := by omega
      have hbxy : w.heap.size + 1 < bx := by have := heap_lt HB2.out; omega
      rw [← hW3]
      rw [← hbx]
      have HDF : Hid (∀ W', Kept NoB W3 W' → Calls Tryz.prog 77 #[.slice a m d, .func (.func 75) #[] #[.pointer (some ⟨w.heap.size, 0, none⟩)]] W' fun e w' => e = .returned (.slice a N d) ∧ RqOw 33 0 w' (.slice a N d) (notC c L) ∧ Kept (fun i => some i = (Value.slice a m d).ownBlock) W' w') := Lib.hid (fun W' hk => by
        have h := DeleteR_any a d L _ w.heap.size _ _ _ 0 W' (HO3.out.no hk) (hk.heap (fun h => h) HX3.out) (by decide) (ask1_any w.heap.size c) (by omega)
        rw [← HM.out] at h
        refine h.mono ?_
        rintro e w' ⟨h1, h2, h3⟩
        rw [HNN.out, notC_keep]
        rw [← HM.out] at h3
        exact ⟨h1, h2, h3⟩)
      have HOWN : Hid (∀ j, some j = (Value.slice a m d).ownBlock → j < w.heap.size ∧ j ≠ g) := Lib.hid (fun j hj => HJ.out j hj.symm)
      clear v0 v1 v2 v3 y0 y1 y2 y3 q0 q1 z0 z1 c0 c0a q1a hk3 hW3 hbx
      obtain ⟨q0, q1, z0, z1⟩ := cells2q HG3.out
      obtain ⟨v0, v1, v2, v3, _⟩ := cells4q HR3.out
      have q0a := cell_alloc q0 (.cells #[.int .u64 (tk + 1), .int .i64 c, .int .u64 n, .int .u32 k] 33)
      go_upto_region 13 with fail
      have hyo : ∀ i, w.heap.size ≤ i → ¬ some i = (Value.slice a m d).ownBlock := fun i hi h => by have := (HOWN.out i h).1; omega
      have HYO := Lib.hid hyo
      have HGO : Hid (¬ some g = (Value.slice a m d).ownBlock) := Lib.hid (fun h => (HOWN.out g h).2 rfl)
      have hW3s : w.heap.size ≤ W3.heap.size := by omega
      have hbg : ¬ bx = g := by omega
      have hgb : ¬ g = bx := by omega
      have hby : ¬ bx = w.heap.size + 1 := by omega
      have hyb : ¬ w.heap.size + 1 = bx := by omega
      have hyg : ¬ w.heap.size + 1 = g := by omega
      have hgy : ¬ g = w.heap.size + 1 := by omega
      clear hyo
      go_region_law (first
        | (go_simp; go_at_call 77; (with_reducible refine (HDF.out _ (by first | exact (Kept.refl NoB W3).drew | exact ((Kept.refl NoB W3).drew.alloc _) | exact ((Kept.refl NoB W3).alloc _).drew | exact ((Kept.refl NoB W3).alloc _))).mono ?_); rintro e w4 ⟨rfl, ho4, hk4⟩; have HO4 := Lib.hid ho4; have HK4 : Hid (Kept (fun i => some i = (Value.slice a m d).ownBlock) W3 w4) := Lib.hid (((by first | exact (Kept.refl _ W3).drew | exact ((Kept.refl _ W3).drew.alloc _) | exact ((Kept.refl _ W3).alloc _).drew : Kept NoB W3 _).mono (fun _ _ h => h.elim)).trans hk4 (fun _ _ h => h)); (try (have HN4 : Hid (w4.heap[W3.heap.size]? = some (.cells #[.int .u64 (tk + 1), .int .i64 c, .int .u64 n, .int .u32 k] 33 (0, 0))) := Lib.hid (hk4.heap (HYO.out _ hW3s) (by first | exact heap_alloc_new W3.drew _ | exact heap_alloc_new W3 _)))); obtain ⟨u0, u1, u2, u3, _⟩ := cells4q (HK4.out.heap (HYO.out _ hbxv) HR3.out); clear ho4 hk4)
        | (refine step_append_rq Tryz.underlying46 info_rq22 _ (by rfl) _ _ (by rfl) 0 (.slice a N d) (notC c L) (by rfl) (HO4.out.no ((Kept.refl NoB w4).alloc _)) w4.heap.size ⟨tk + 1, c, n, k⟩ (by rfl) (heap_alloc_new w4 _) (by rw [← HNN.out]; omega) (Nat.zero_le _) (N + 1) (by rw [← HNN.out]) ?_; intro a5 d5 w5 hown5 hg5 hat5; have HO5 := Lib.hid hown5; have HK5 : Hid (Kept (fun i => some i = (Value.slice a m d).ownBlock) W3 w5) := Lib.hid ((HK4.out.alloc (.cells #[.int .u64 (tk + 1), .int .i64 c, .int .u64 n, .int .u32 k] 33)).grown hg5 (fun i hi => .inl (by rw [← hi]; cases a <;> rfl))); have HOR : Hid (OwnR w (.slice a m d) (.slice a5 (N + 1) d5)) := Lib.hid (fun j hj => by rcases hat5 with h | h; exact .inl (by rw [← hj, h]; cases a <;> rfl); rw [h] at hj; injection hj with hj; have := HK4.out.size; first | omega | (simp at hj; omega)); have HAT5 : Hid (∀ j, (Value.slice a5 (N + 1) d5).ownBlock = some j → j ≠ w.heap.size + 1) := Lib.hid (fun j hj => by rcases hat5 with h | h; exact fun e => HYO.out j (by omega) (by rw [← hj, h]; cases a <;> rfl); rw [h] at hj; injection hj with hj; have := HK4.out.size; simp at hj; omega); obtain ⟨t0, t1, tz0, tz1⟩ := cells2q (HK5.out.heap HGO.out HG3.out); clear hown5 hg5 hat5)
        | (refine step_append_rq Tryz.underlying46 info_rq22 _ (by rfl) _ _ (by rfl) 0 (.slice a N d) (notC c L) (by rfl) HO4.out W3.heap.size ⟨tk + 1, c, n, k⟩ (by rfl) HN4.out (by rw [← HNN.out]; omega) (Nat.zero_le _) (N + 1) (by rw [← HNN.out]) ?_; intro a5 d5 w5 hown5 hg5 hat5; have HO5 := Lib.hid hown5; have HK5 : Hid (Kept (fun i => some i = (Value.slice a m d).ownBlock) W3 w5) := Lib.hid (HK4.out.grown hg5 (fun i hi => .inl (by rw [← hi]; cases a <;> rfl))); have HOR : Hid (OwnR w (.slice a m d) (.slice a5 (N + 1) d5)) := Lib.hid (fun j hj => by rcases hat5 with h | h; exact .inl (by rw [← hj, h]; cases a <;> rfl); rw [h] at hj; injection hj with hj; have := HK4.out.size; first | omega | (simp at hj; omega)); have HAT5 : Hid (∀ j, (Value.slice a5 (N + 1) d5).ownBlock = some j → j ≠ w.heap.size + 1) := Lib.hid (fun j hj => by rcases hat5 with h | h; exact fun e => HYO.out j (by omega) (by rw [← hj, h]; cases a <;> rfl); rw [h] at hj; injection hj with hj; have := HK4.out.size; omega); obtain ⟨t0, t1, tz0, tz1⟩ := cells2q (HK5.out.heap HGO.out HG3.out); clear hown5 hg5 hat5)
        | fail)
      all_goals
        obtain ⟨v0, v1, v2, v3, _⟩ := cells4q (HK5.out.heap (HYO.out _ hbxv) HR3.out)
        have HB5 := Lib.hid (HK5.out.heap (HYO.out _ (by omega)) HB3.out)
        obtain ⟨d0, d1, d2, d3, f0, f1, f2, f3⟩ := cells4q HB5.out
        go_wp2
        have hkg : Kept (fun i => i = g) w5 (w5.setCell ⟨g, 0, none⟩ (.slice a5 (N + 1) d5)) := (Kept.refl (fun i => i = g) w5).setCell (p := ⟨g, 0, none⟩) (.inl (by show g = g; rfl)) _
        have HKG6 := Lib.hid hkg
        have HB6 := Lib.hid (hkg.heap (fun h => hgy h.symm) HB5.out)
        have HG6 : Hid ((w5.setCell ⟨g, 0, none⟩ (.slice a5 (N + 1) d5)).heap[g]? = some (.cells #[.slice a5 (N + 1) d5, .int .u64 (tk + 1)] 133 (0, 0))) := Lib.hid (by simpa using blkV_set (HK5.out.heap HGO.out HG3.out) 0 (.slice a5 (N + 1) d5))
        clear hkg
        obtain ⟨s0, s1, s2, s3, _⟩ := cells4q (four22_at HB6.out (.int .u64 (tk + 1)) (.int .i64 c) (.int .u64 n) (.int .u32 k))
        refine bodyPost_ret (v := .tuple #[.agg #[.int .u64 (tk + 1), .int .i64 c, .int .u64 n, .int .u32 k], .int .i64 0]) (by simp [results, Tryz.results15, go_sem, s0, s1, s2, s3]) rfl ?_
        have hlen : (notC c L ++ [(⟨tk + 1, c, n, k⟩ : Rq)]).length = N + 1 := by rw [List.length_append, ← HNN.out]; rfl
        refine ask_end (a' := a5) (d' := d5) HA.out ⟨?_, ?_⟩ hgy ?_ ?_ (by omega) (fun j hj => (HOR.out j (by rw [← hj]; cases a5 <;> rfl)).imp (fun h => by rw [← h]; cases a <;> rfl) id)
        · rw [hlen]
          exact HG6.out
        · rw [hlen]
          exact HO5.out.kept HKG6.out (fun j hj h => by
            have h : j = g := h
            subst h
            exact row_ne22 HO5.out (HK5.out.heap HGO.out HG3.out) (by decide) hj)
        · rw [hlen]
          exact HAT5.out
        · exact (HKW.out.trans (HK5.out.mono (T := FtR g a L.length d) (fun i _ h => .inr (by rw [h]; cases a <;> rfl))) (fun _ _ h => h)).trans HKG6.out (fun i _ h => .inl h)
    · have HK1 := Lib.hid hk1
      have hjc : L[j].c = c := by simpa using hyes
      obtain ⟨hf1, hf2, hf3⟩ := same_some (n := n) (k := k) HD.out hj hjc
      have HR1 := Lib.hid (HRV.out.no hk1)
      have HB1 := Lib.hid (hk1.heap (fun h => h) HB.out)
      have HX1 := Lib.hid (hk1.heap (fun h => h) HX.out)
      have HG1 := Lib.hid (hk1.heap (fun h => h) HG.out)
      have hs1 := hk1.size
      obtain ⟨N, hN⟩ : ∃ N, N = (notC c L).length := ⟨_, rfl⟩
      have HNN := Lib.hid hN
      have hN100 : N ≤ 15 := by rw [hN]; omega
      obtain ⟨r, d', he, hd, hr, e0, e1, e2, e3⟩ := (HO.out.no hk1).cells j hj
      injection he with he1 he2 he3
      clear he2
      subst he1 he3
      obtain ⟨y, hy⟩ : ∃ y, y = L[j] := ⟨_, rfl⟩
      rw [← hy] at e0 e1 e2 e3 hf1 hf2 hjc
      obtain ⟨yt, yc, yn, yk⟩ := y
      simp only at e0 e1 e2 e3 hjc
      have hjm : (j : Int) < (m : Int) := by have := HM.out; omega
      have hj0 : ¬ (j : Int) < 0 := by omega
      have hj1 : (0 : Int) ≤ j := by omega
      have hrw := (HJ.out r rfl).1
      have hry : ¬ r = w.heap.size + 1 := by omega
      have hyr : ¬ w.heap.size + 1 = r := by omega
      obtain ⟨q0, q1, z0, z1⟩ := cells2q HG1.out
      obtain ⟨d0, d1, d2, d3, f0, f1, f2, f3⟩ := cells4q HB1.out
      have c0 : w1.cell? ⟨w.heap.size, 0, none⟩ = some (.int .i64 c) := cell_of_row _ _ 0 _ _ _ HX1.out
      by_cases hyn : yn = n
      · by_cases hyk : yk = k
        · have hsm : sameA c n k ⟨yt, yc, yn, yk⟩ = true := sameA_yes hjc hyn hyk
          have HA : Hid (askF tk L c n k = (tk, L, ⟨yt, yc, yn, yk⟩, 0)) := Lib.hid (by unfold askF; rw [if_neg HNB.out, hf1 hsm])
          have hyn2 := hyn.symm
          have hyk2 := hyk.symm
          subst hyn2 hyk2
          have db1 : (n == n) = true := by simp
          have db2 : (k == k) = true := by simp
          clear hk1 hno hyes hf1 hf2 hf3 hN hy hjc hsm hd
          go_wp2
          obtain ⟨s0, s1, s2, s3, _⟩ := cells4q (four22_at HB1.out (.int .u64 yt) (.int .i64 yc) (.int .u64 n) (.int .u32 k))
          refine bodyPost_ret (v := .tuple #[.agg #[.int .u64 yt, .int .i64 yc, .int .u64 n, .int .u32 k], .int .i64 0]) (by simp [results, Tryz.results15, go_sem, s0, s1, s2, s3]) rfl ?_
          exact ask_end HA.out HR1.out (by omega) (fun j hj => by have := (HJ.out j (by rw [HM.out]; exact hj)).1; omega) ((HK.out.trans HK1.out (fun _ _ h => h)).mono (fun _ _ h => h.elim)) (by omega) (fun j h => .inl h)
        · have hsm : sameA c n k ⟨yt, yc, yn, yk⟩ = false := sameA_false (fun h => hyk h.2)
          have HA : Hid (askF tk L c n k = (tk + 1, notC c L ++ [⟨tk + 1, c, n, k⟩], ⟨tk + 1, c, n, k⟩, 0)) := Lib.hid (by unfold askF; rw [if_neg HNB.out, hf2 hsm]; show (if 16 ≤ (notC c L).length then _ else _) = _; rw [if_neg (by omega)])
          have hyn2 := hyn.symm
          subst hyn2
          have db1 : (n == n) = true := by simp
          have db2 : (yk == k) = false := by simpa using hyk
          clear hk1 hno hyes hf1 hf2 hf3 hN hy hjc hsm hd hyk
          go_upto_region 12 with fail
          obtain ⟨W2, hW2⟩ : ∃ W2, W2 = w1.setCell ⟨g, 1, none⟩ (.int .u64 (tk + 1)) := ⟨_, rfl⟩
          have hkg : Kept (fun i => i = g) w1 W2 := by rw [hW2]; exact (Kept.refl (fun i => i = g) w1).setCell (p := ⟨g, 1, none⟩) (.inl (by show g = g; rfl)) _
          have HG2 : Hid (W2.heap[g]? = some (.cells #[.slice (some ⟨r, 0, none⟩) m d, .int .u64 (tk + 1)] 133 (0, 0))) := Lib.hid (by rw [hW2]; simpa using blkV_set HG1.out 1 (.int .u64 (tk + 1)))
          have HB2 := Lib.hid (hkg.heap (fun h => by have h : w.heap.size + 1 = g := h; omega) HB1.out)
          have HX2 := Lib.hid (hkg.heap (fun h => by have h : w.heap.size = g := h; omega) HX1.out)
          have HO2 := Lib.hid (HR1.out.2.kept hkg (fun j hj h => by have := (HJ.out j (by rw [HM.out]; exact hj)).2; exact this h))
          have HKG := Lib.hid hkg
          have hs2 := hkg.size
          rw [← hW2]
          clear hW2 hkg q0 q1 z0 z1 d0 d1 d2 d3 f0 f1 f2 f3 c0
          obtain ⟨q0, q1, z0, z1⟩ := cells2q HG2.out
          have c0 : W2.cell? ⟨w.heap.size, 0, none⟩ = some (.int .i64 c) := cell_of_row _ _ 0 _ _ _ HX2.out
          have c0a := cell_alloc c0 (.cells #[.int .u64 0, .int .i64 0, .int .u64 0, .int .u32 0] 33)
          have q1a := cell_alloc q1 (.cells #[.int .u64 0, .int .i64 0, .int .u64 0, .int .u32 0] 33)
          have hz := heap_alloc_new W2 (.cells #[.int .u64 0, .int .i64 0, .int .u64 0, .int .u32 0] 33)
          obtain ⟨v0, v1, v2, v3, y0, y1, y2, y3⟩ := cells4q hz
          have HZ := Lib.hid hz
          clear hz
          go_region
          obtain ⟨W3, hW3⟩ : ∃ W3, W3 = (W2.alloc (.cells #[.int .u64 (tk + 1), .int .i64 c, .int .u64 n, .int .u32 k] 33)).drew := ⟨_, rfl⟩
          obtain ⟨bx, hbx⟩ : ∃ bx, bx = W2.heap.size := ⟨_, rfl⟩
          have hk3 : Kept NoB W2 W3 := by rw [hW3]; exact ((Kept.refl _ _).alloc _).drew
          have HR3 : Hid (W3.heap[bx]? = some (.cells #[.int .u64 (tk + 1), .int .i64 c, .int .u64 n, .int .u32 k] 33 (0, 0))) := Lib.hid (by rw [hW3, hbx]; exact heap_alloc_new W2 _)
          have HG3 := Lib.hid (hk3.heap (fun h => h) HG2.out)
          have HX3 := Lib.hid (hk3.heap (fun h => h) HX2.out)
          have HB3 := Lib.hid (hk3.heap (fun h => h) HB2.out)
          have HO3 := Lib.hid (HO2.out.no hk3)
          have hs3 := hk3.size
          have hsV := HK.out.size
          have hV2 : w.heap.size + 1 < V.heap.size := heap_lt HB.out
          have HKW : Hid (Kept (FtR g (some ⟨r, 0, none⟩) L.length d) w W3) := Lib.hid ((((HK.out.trans HK1.out (fun _ _ h => h)).mono (T := FtR g (some ⟨r, 0, none⟩) L.length d) (fun _ _ h => h.elim)).trans HKG.out (fun i _ h => .inl h)).trans hk3 (fun _ _ h => h.elim))
          have hbxv : w.heap.size ≤ bx := by omega
          have hbxy : w.heap.size + 1 < bx := by have := heap_lt HB2.out; omega
          rw [← hW3]
          rw [← hbx]
          have HDF : Hid (∀ W', Kept NoB W3 W' → Calls Tryz.prog 77 #[.slice (some ⟨r, 0, none⟩) m d, .func (.func 75) #[] #[.pointer (some ⟨w.heap.size, 0, none⟩)]] W' fun e w' => e = .returned (.slice (some ⟨r, 0, none⟩) N d) ∧ RqOw 33 0 w' (.slice (some ⟨r, 0, none⟩) N d) (notC c L) ∧ Kept (fun i => some i = (Value.slice (some ⟨r, 0, none⟩) m d).ownBlock) W' w') := Lib.hid (fun W' hk => by
            have h := DeleteR_any (some ⟨r, 0, none⟩) d L _ w.heap.size _ _ _ 0 W' (HO3.out.no hk) (hk.heap (fun h => h) HX3.out) (by decide) (ask1_any w.heap.size c) (by omega)
            rw [← HM.out] at h
            refine h.mono ?_
            rintro e w' ⟨h1, h2, h3⟩
            rw [HNN.out, notC_keep]
            rw [← HM.out] at h3
            exact ⟨h1, h2, h3⟩)
          have HOWN : Hid (∀ j, some j = (Value.slice (some ⟨r, 0, none⟩) m d).ownBlock → j < w.heap.size ∧ j ≠ g) := Lib.hid (fun j hj => HJ.out j hj.symm)
          clear v0 v1 v2 v3 y0 y1 y2 y3 q0 q1 z0 z1 c0 c0a q1a hk3 hW3 hbx
          obtain ⟨q0, q1, z0, z1⟩ := cells2q HG3.out
          obtain ⟨v0, v1, v2, v3, _⟩ := cells4q HR3.out
          have q0a := cell_alloc q0 (.cells #[.int .u64 (tk + 1), .int .i64 c, .int .u64 n, .int .u32 k] 33)
          go_upto_region 13 with fail
          have hyo : ∀ i, w.heap.size ≤ i → ¬ some i = (Value.slice (some ⟨r, 0, none⟩) m d).ownBlock := fun i hi h => by have := (HOWN.out i h).1; omega
          have HYO := Lib.hid hyo
          have HGO : Hid (¬ some g = (Value.slice (some ⟨r, 0, none⟩) m d).ownBlock) := Lib.hid (fun h => (HOWN.out g h).2 rfl)
          have hW3s : w.heap.size ≤ W3.heap.size := by omega
          have hbg : ¬ bx = g := by omega
          have hgb : ¬ g = bx := by omega
          have hby : ¬ bx = w.heap.size + 1 := by omega
          have hyb : ¬ w.heap.size + 1 = bx := by omega
          have hyg : ¬ w.heap.size + 1 = g := by omega
          have hgy : ¬ g = w.heap.size + 1 := by omega
          clear hyo
          go_region_law (first
            | (go_simp; go_at_call 77; (with_reducible refine (HDF.out _ (by first | exact (Kept.refl NoB W3).drew | exact ((Kept.refl NoB W3).drew.alloc _) | exact ((Kept.refl NoB W3).alloc _).drew | exact ((Kept.refl NoB W3).alloc _))).mono ?_); rintro e w4 ⟨rfl, ho4, hk4⟩; have HO4 := Lib.hid ho4; have HK4 : Hid (Kept (fun i => some i = (Value.slice (some ⟨r, 0, none⟩) m d).ownBlock) W3 w4) := Lib.hid (((by first | exact (Kept.refl _ W3).drew | exact ((Kept.refl _ W3).drew.alloc _) | exact ((Kept.refl _ W3).alloc _).drew : Kept NoB W3 _).mono (fun _ _ h => h.elim)).trans hk4 (fun _ _ h => h)); (try (have HN4 : Hid (w4.heap[W3.heap.size]? = some (.cells #[.int .u64 (tk + 1), .int .i64 c, .int .u64 n, .int .u32 k] 33 (0, 0))) := Lib.hid (hk4.heap (HYO.out _ hW3s) (by first | exact heap_alloc_new W3.drew _ | exact heap_alloc_new W3 _)))); obtain ⟨u0, u1, u2, u3, _⟩ := cells4q (HK4.out.heap (HYO.out _ hbxv) HR3.out); clear ho4 hk4)
            | (refine step_append_rq Tryz.underlying46 info_rq22 _ (by rfl) _ _ (by rfl) 0 (.slice (some ⟨r, 0, none⟩) N d) (notC c L) (by rfl) (HO4.out.no ((Kept.refl NoB w4).alloc _)) w4.heap.size ⟨tk + 1, c, n, k⟩ (by rfl) (heap_alloc_new w4 _) (by rw [← HNN.out]; omega) (Nat.zero_le _) (N + 1) (by rw [← HNN.out]) ?_; intro a5 d5 w5 hown5 hg5 hat5; have HO5 := Lib.hid hown5; have HK5 : Hid (Kept (fun i => some i = (Value.slice (some ⟨r, 0, none⟩) m d).ownBlock) W3 w5) := Lib.hid ((HK4.out.alloc (.cells #[.int .u64 (tk + 1), .int .i64 c, .int .u64 n, .int .u32 k] 33)).grown hg5 (fun i hi => .inl (by rw [← hi]; rfl))); have HOR : Hid (OwnR w (.slice (some ⟨r, 0, none⟩) m d) (.slice a5 (N + 1) d5)) := Lib.hid (fun j hj => by rcases hat5 with h | h; exact .inl (by rw [← hj, h]; rfl); rw [h] at hj; injection hj with hj; have := HK4.out.size; first | omega | (simp at hj; omega)); have HAT5 : Hid (∀ j, (Value.slice a5 (N + 1) d5).ownBlock = some j → j ≠ w.heap.size + 1) := Lib.hid (fun j hj => by rcases hat5 with h | h; exact fun e => HYO.out j (by omega) (by rw [← hj, h]; rfl); rw [h] at hj; injection hj with hj; have := HK4.out.size; simp at hj; omega); obtain ⟨t0, t1, tz0, tz1⟩ := cells2q (HK5.out.heap HGO.out HG3.out); clear hown5 hg5 hat5)
            | (refine step_append_rq Tryz.underlying46 info_rq22 _ (by rfl) _ _ (by rfl) 0 (.slice (some ⟨r, 0, none⟩) N d) (notC c L) (by rfl) HO4.out W3.heap.size ⟨tk + 1, c, n, k⟩ (by rfl) HN4.out (by rw [← HNN.out]; omega) (Nat.zero_le _) (N + 1) (by rw [← HNN.out]) ?_; intro a5 d5 w5 hown5 hg5 hat5; have HO5 := Lib.hid hown5; have HK5 : Hid (Kept (fun i => some i = (Value.slice (some ⟨r, 0, none⟩) m d).ownBlock) W3 w5) := Lib.hid (HK4.out.grown hg5 (fun i hi => .inl (by rw [← hi]; rfl))); have HOR : Hid (OwnR w (.slice (some ⟨r, 0, none⟩) m d) (.slice a5 (N + 1) d5)) := Lib.hid (fun j hj => by rcases hat5 with h | h; exact .inl (by rw [← hj, h]; rfl); rw [h] at hj; injection hj with hj; have := HK4.out.size; first | omega | (simp at hj; omega)); have HAT5 : Hid (∀ j, (Value.slice a5 (N + 1) d5).ownBlock = some j → j ≠ w.heap.size + 1) := Lib.hid (fun j hj => by rcases hat5 with h | h; exact fun e => HYO.out j (by omega) (by rw [← hj, h]; rfl); rw [h] at hj; injection hj with hj; have := HK4.out.size; omega); obtain ⟨t0, t1, tz0, tz1⟩ := cells2q (HK5.out.heap HGO.out HG3.out); clear hown5 hg5 hat5)
            | fail)
          all_goals
            obtain ⟨v0, v1, v2, v3, _⟩ := cells4q (HK5.out.heap (HYO.out _ hbxv) HR3.out)
            have HB5 := Lib.hid (HK5.out.heap (HYO.out _ (by omega)) HB3.out)
            obtain ⟨d0, d1, d2, d3, f0, f1, f2, f3⟩ := cells4q HB5.out
            go_wp2
            have hkg : Kept (fun i => i = g) w5 (w5.setCell ⟨g, 0, none⟩ (.slice a5 (N + 1) d5)) := (Kept.refl (fun i => i = g) w5).setCell (p := ⟨g, 0, none⟩) (.inl (by show g = g; rfl)) _
            have HKG6 := Lib.hid hkg
            have HB6 := Lib.hid (hkg.heap (fun h => hgy h.symm) HB5.out)
            have HG6 : Hid ((w5.setCell ⟨g, 0, none⟩ (.slice a5 (N + 1) d5)).heap[g]? = some (.cells #[.slice a5 (N + 1) d5, .int .u64 (tk + 1)] 133 (0, 0))) := Lib.hid (by simpa using blkV_set (HK5.out.heap HGO.out HG3.out) 0 (.slice a5 (N + 1) d5))
            clear hkg
            obtain ⟨s0, s1, s2, s3, _⟩ := cells4q (four22_at HB6.out (.int .u64 (tk + 1)) (.int .i64 c) (.int .u64 n) (.int .u32 k))
            refine bodyPost_ret (v := .tuple #[.agg #[.int .u64 (tk + 1), .int .i64 c, .int .u64 n, .int .u32 k], .int .i64 0]) (by simp [results, Tryz.results15, go_sem, s0, s1, s2, s3]) rfl ?_
            have hlen : (notC c L ++ [(⟨tk + 1, c, n, k⟩ : Rq)]).length = N + 1 := by rw [List.length_append, ← HNN.out]; rfl
            refine ask_end (a' := a5) (d' := d5) HA.out ⟨?_, ?_⟩ hgy ?_ ?_ (by omega) (fun j hj => (HOR.out j (by rw [← hj]; cases a5 <;> rfl)).imp (fun h => by rw [← h]; rfl) id)
            · rw [hlen]
              exact HG6.out
            · rw [hlen]
              exact HO5.out.kept HKG6.out (fun j hj h => by
                have h : j = g := h
                subst h
                exact row_ne22 HO5.out (HK5.out.heap HGO.out HG3.out) (by decide) hj)
            · rw [hlen]
              exact HAT5.out
            · exact (HKW.out.trans (HK5.out.mono (T := FtR g (some ⟨r, 0, none⟩) L.length d) (fun i _ h => .inr (by rw [h]; rfl))) (fun _ _ h => h)).trans HKG6.out (fun i _ h => .inl h)
      · have hsm : sameA c n k ⟨yt, yc, yn, yk⟩ = false := sameA_false (fun h => hyn h.1)
        have HA : Hid (askF tk L c n k = (tk + 1, notC c L ++ [⟨tk + 1, c, n, k⟩], ⟨tk + 1, c, n, k⟩, 0)) := Lib.hid (by unfold askF; rw [if_neg HNB.out, hf2 hsm]; show (if 16 ≤ (notC c L).length then _ else _) = _; rw [if_neg (by omega)])
        have db1 : (yn == n) = false := by simpa using hyn
        clear hk1 hno hyes hf1 hf2 hf3 hN hy hjc hsm hd hyn
        go_upto_region 12 with fail
        obtain ⟨W2, hW2⟩ : ∃ W2, W2 = w1.setCell ⟨g, 1, none⟩ (.int .u64 (tk + 1)) := ⟨_, rfl⟩
        have hkg : Kept (fun i => i = g) w1 W2 := by rw [hW2]; exact (Kept.refl (fun i => i = g) w1).setCell (p := ⟨g, 1, none⟩) (.inl (by show g = g; rfl)) _
        have HG2 : Hid (W2.heap[g]? = some (.cells #[.slice (some ⟨r, 0, none⟩) m d, .int .u64 (tk + 1)] 133 (0, 0))) := Lib.hid (by rw [hW2]; simpa using blkV_set HG1.out 1 (.int .u64 (tk + 1)))
        have HB2 := Lib.hid (hkg.heap (fun h => by have h : w.heap.size + 1 = g := h; omega) HB1.out)
        have HX2 := Lib.hid (hkg.heap (fun h => by have h : w.heap.size = g := h; omega) HX1.out)
        have HO2 := Lib.hid (HR1.out.2.kept hkg (fun j hj h => by have := (HJ.out j (by rw [HM.out]; exact hj)).2; exact this h))
        have HKG := Lib.hid hkg
        have hs2 := hkg.size
        rw [← hW2]
        clear hW2 hkg q0 q1 z0 z1 d0 d1 d2 d3 f0 f1 f2 f3 c0
        obtain ⟨q0, q1, z0, z1⟩ := cells2q HG2.out
        have c0 : W2.cell? ⟨w.heap.size, 0, none⟩ = some (.int .i64 c) := cell_of_row _ _ 0 _ _ _ HX2.out
        have c0a := cell_alloc c0 (.cells #[.int .u64 0, .int .i64 0, .int .u64 0, .int .u32 0] 33)
        have q1a := cell_alloc q1 (.cells #[.int .u64 0, .int .i64 0, .int .u64 0, .int .u32 0] 33)
        have hz := heap_alloc_new W2 (.cells #[.int .u64 0, .int .i64 0, .int .u64 0, .int .u32 0] 33)
        obtain ⟨v0, v1, v2, v3, y0, y1, y2, y3⟩ := cells4q hz
        have HZ := Lib.hid hz
        clear hz
        go_region
        obtain ⟨W3, hW3⟩ : ∃ W3, W3 = (W2.alloc (.cells #[.int .u64 (tk + 1), .int .i64 c, .int .u64 n, .int .u32 k] 33)).drew := ⟨_, rfl⟩
        obtain ⟨bx, hbx⟩ : ∃ bx, bx = W2.heap.size := ⟨_, rfl⟩
        have hk3 : Kept NoB W2 W3 := by rw [hW3]; exact ((Kept.refl _ _).alloc _).drew
        have HR3 : Hid (W3.heap[bx]? = some (.cells #[.int .u64 (tk + 1), .int .i64 c, .int .u64 n, .int .u32 k] 33 (0, 0))) := Lib.hid (by rw [hW3, hbx]; exact heap_alloc_new W2 _)
        have HG3 := Lib.hid (hk3.heap (fun h => h) HG2.out)
        have HX3 := Lib.hid (hk3.heap (fun h => h) HX2.out)
        have HB3 := Lib.hid (hk3.heap (fun h => h) HB2.out)
        have HO3 := Lib.hid (HO2.out.no hk3)
        have hs3 := hk3.size
        have hsV := HK.out.size
        have hV2 : w.heap.size + 1 < V.heap.size := heap_lt HB.out
        have HKW : Hid (Kept (FtR g (some ⟨r, 0, none⟩) L.length d) w W3) := Lib.hid ((((HK.out.trans HK1.out (fun _ _ h => h)).mono (T := FtR g (some ⟨r, 0, none⟩) L.length d) (fun _ _ h => h.elim)).trans HKG.out (fun i _ h => .inl h)).trans hk3 (fun _ _ h => h.elim))
        have hbxv : w.heap.size ≤ bx := by omega
        have hbxy : w.heap.size + 1 < bx := by have := heap_lt HB2.out; omega
        rw [← hW3]
        rw [← hbx]
        have HDF : Hid (∀ W', Kept NoB W3 W' → Calls Tryz.prog 77 #[.slice (some ⟨r, 0, none⟩) m d, .func (.func 75) #[] #[.pointer (some ⟨w.heap.size, 0, none⟩)]] W' fun e w' => e = .returned (.slice (some ⟨r, 0, none⟩) N d) ∧ RqOw 33 0 w' (.slice (some ⟨r, 0, none⟩) N d) (notC c L) ∧ Kept (fun i => some i = (Value.slice (some ⟨r, 0, none⟩) m d).ownBlock) W' w') := Lib.hid (fun W' hk => by
          have h := DeleteR_any (some ⟨r, 0, none⟩) d L _ w.heap.size _ _ _ 0 W' (HO3.out.no hk) (hk.heap (fun h => h) HX3.out) (by decide) (ask1_any w.heap.size c) (by omega)
          rw [← HM.out] at h
          refine h.mono ?_
          rintro e w' ⟨h1, h2, h3⟩
          rw [HNN.out, notC_keep]
          rw [← HM.out] at h3
          exact ⟨h1, h2, h3⟩)
        have HOWN : Hid (∀ j, some j = (Value.slice (some ⟨r, 0, none⟩) m d).ownBlock → j < w.heap.size ∧ j ≠ g) := Lib.hid (fun j hj => HJ.out j hj.symm)
        clear v0 v1 v2 v3 y0 y1 y2 y3 q0 q1 z0 z1 c0 c0a q1a hk3 hW3 hbx
        obtain ⟨q0, q1, z0, z1⟩ := cells2q HG3.out
        obtain ⟨v0, v1, v2, v3, _⟩ := cells4q HR3.out
        have q0a := cell_alloc q0 (.cells #[.int .u64 (tk + 1), .int .i64 c, .int .u64 n, .int .u32 k] 33)
        go_upto_region 13 with fail
        have hyo : ∀ i, w.heap.size ≤ i → ¬ some i = (Value.slice (some ⟨r, 0, none⟩) m d).ownBlock := fun i hi h => by have := (HOWN.out i h).1; omega
        have HYO := Lib.hid hyo
        have HGO : Hid (¬ some g = (Value.slice (some ⟨r, 0, none⟩) m d).ownBlock) := Lib.hid (fun h => (HOWN.out g h).2 rfl)
        have hW3s : w.heap.size ≤ W3.heap.size := by omega
        have hbg : ¬ bx = g := by omega
        have hgb : ¬ g = bx := by omega
        have hby : ¬ bx = w.heap.size + 1 := by omega
        have hyb : ¬ w.heap.size + 1 = bx := by omega
        have hyg : ¬ w.heap.size + 1 = g := by omega
        have hgy : ¬ g = w.heap.size + 1 := by omega
        clear hyo
        go_region_law (first
          | (go_simp; go_at_call 77; (with_reducible refine (HDF.out _ (by first | exact (Kept.refl NoB W3).drew | exact ((Kept.refl NoB W3).drew.alloc _) | exact ((Kept.refl NoB W3).alloc _).drew | exact ((Kept.refl NoB W3).alloc _))).mono ?_); rintro e w4 ⟨rfl, ho4, hk4⟩; have HO4 := Lib.hid ho4; have HK4 : Hid (Kept (fun i => some i = (Value.slice (some ⟨r, 0, none⟩) m d).ownBlock) W3 w4) := Lib.hid (((by first | exact (Kept.refl _ W3).drew | exact ((Kept.refl _ W3).drew.alloc _) | exact ((Kept.refl _ W3).alloc _).drew : Kept NoB W3 _).mono (fun _ _ h => h.elim)).trans hk4 (fun _ _ h => h)); (try (have HN4 : Hid (w4.heap[W3.heap.size]? = some (.cells #[.int .u64 (tk + 1), .int .i64 c, .int .u64 n, .int .u32 k] 33 (0, 0))) := Lib.hid (hk4.heap (HYO.out _ hW3s) (by first | exact heap_alloc_new W3.drew _ | exact heap_alloc_new W3 _)))); obtain ⟨u0, u1, u2, u3, _⟩ := cells4q (HK4.out.heap (HYO.out _ hbxv) HR3.out); clear ho4 hk4)
          | (refine step_append_rq Tryz.underlying46 info_rq22 _ (by rfl) _ _ (by rfl) 0 (.slice (some ⟨r, 0, none⟩) N d) (notC c L) (by rfl) (HO4.out.no ((Kept.refl NoB w4).alloc _)) w4.heap.size ⟨tk + 1, c, n, k⟩ (by rfl) (heap_alloc_new w4 _) (by rw [← HNN.out]; omega) (Nat.zero_le _) (N + 1) (by rw [← HNN.out]) ?_; intro a5 d5 w5 hown5 hg5 hat5; have HO5 := Lib.hid hown5; have HK5 : Hid (Kept (fun i => some i = (Value.slice (some ⟨r, 0, none⟩) m d).ownBlock) W3 w5) := Lib.hid ((HK4.out.alloc (.cells #[.int .u64 (tk + 1), .int .i64 c, .int .u64 n, .int .u32 k] 33)).grown hg5 (fun i hi => .inl (by rw [← hi]; rfl))); have HOR : Hid (OwnR w (.slice (some ⟨r, 0, none⟩) m d) (.slice a5 (N + 1) d5)) := Lib.hid (fun j hj => by rcases hat5 with h | h; exact .inl (by rw [← hj, h]; rfl); rw [h] at hj; injection hj with hj; have := HK4.out.size; first | omega | (simp at hj; omega)); have HAT5 : Hid (∀ j, (Value.slice a5 (N + 1) d5).ownBlock = some j → j ≠ w.heap.size + 1) := Lib.hid (fun j hj => by rcases hat5 with h | h; exact fun e => HYO.out j (by omega) (by rw [← hj, h]; rfl); rw [h] at hj; injection hj with hj; have := HK4.out.size; simp at hj; omega); obtain ⟨t0, t1, tz0, tz1⟩ := cells2q (HK5.out.heap HGO.out HG3.out); clear hown5 hg5 hat5)
          | (refine step_append_rq Tryz.underlying46 info_rq22 _ (by rfl) _ _ (by rfl) 0 (.slice (some ⟨r, 0, none⟩) N d) (notC c L) (by rfl) HO4.out W3.heap.size ⟨tk + 1, c, n, k⟩ (by rfl) HN4.out (by rw [← HNN.out]; omega) (Nat.zero_le _) (N + 1) (by rw [← HNN.out]) ?_; intro a5 d5 w5 hown5 hg5 hat5; have HO5 := Lib.hid hown5; have HK5 : Hid (Kept (fun i => some i = (Value.slice (some ⟨r, 0, none⟩) m d).ownBlock) W3 w5) := Lib.hid (HK4.out.grown hg5 (fun i hi => .inl (by rw [← hi]; rfl))); have HOR : Hid (OwnR w (.slice (some ⟨r, 0, none⟩) m d) (.slice a5 (N + 1) d5)) := Lib.hid (fun j hj => by rcases hat5 with h | h; exact .inl (by rw [← hj, h]; rfl); rw [h] at hj; injection hj with hj; have := HK4.out.size; first | omega | (simp at hj; omega)); have HAT5 : Hid (∀ j, (Value.slice a5 (N + 1) d5).ownBlock = some j → j ≠ w.heap.size + 1) := Lib.hid (fun j hj => by rcases hat5 with h | h; exact fun e => HYO.out j (by omega) (by rw [← hj, h]; rfl); rw [h] at hj; injection hj with hj; have := HK4.out.size; omega); obtain ⟨t0, t1, tz0, tz1⟩ := cells2q (HK5.out.heap HGO.out HG3.out); clear hown5 hg5 hat5)
          | fail)
        all_goals
          obtain ⟨v0, v1, v2, v3, _⟩ := cells4q (HK5.out.heap (HYO.out _ hbxv) HR3.out)
          have HB5 := Lib.hid (HK5.out.heap (HYO.out _ (by omega)) HB3.out)
          obtain ⟨d0, d1, d2, d3, f0, f1, f2, f3⟩ := cells4q HB5.out
          go_wp2
          have hkg : Kept (fun i => i = g) w5 (w5.setCell ⟨g, 0, none⟩ (.slice a5 (N + 1) d5)) := (Kept.refl (fun i => i = g) w5).setCell (p := ⟨g, 0, none⟩) (.inl (by show g = g; rfl)) _
          have HKG6 := Lib.hid hkg
          have HB6 := Lib.hid (hkg.heap (fun h => hgy h.symm) HB5.out)
          have HG6 : Hid ((w5.setCell ⟨g, 0, none⟩ (.slice a5 (N + 1) d5)).heap[g]? = some (.cells #[.slice a5 (N + 1) d5, .int .u64 (tk + 1)] 133 (0, 0))) := Lib.hid (by simpa using blkV_set (HK5.out.heap HGO.out HG3.out) 0 (.slice a5 (N + 1) d5))
          clear hkg
          obtain ⟨s0, s1, s2, s3, _⟩ := cells4q (four22_at HB6.out (.int .u64 (tk + 1)) (.int .i64 c) (.int .u64 n) (.int .u32 k))
          refine bodyPost_ret (v := .tuple #[.agg #[.int .u64 (tk + 1), .int .i64 c, .int .u64 n, .int .u32 k], .int .i64 0]) (by simp [results, Tryz.results15, go_sem, s0, s1, s2, s3]) rfl ?_
          have hlen : (notC c L ++ [(⟨tk + 1, c, n, k⟩ : Rq)]).length = N + 1 := by rw [List.length_append, ← HNN.out]; rfl
          refine ask_end (a' := a5) (d' := d5) HA.out ⟨?_, ?_⟩ hgy ?_ ?_ (by omega) (fun j hj => (HOR.out j (by rw [← hj]; cases a5 <;> rfl)).imp (fun h => by rw [← h]; rfl) id)
          · rw [hlen]
            exact HG6.out
          · rw [hlen]
            exact HO5.out.kept HKG6.out (fun j hj h => by
              have h : j = g := h
              subst h
              exact row_ne22 HO5.out (HK5.out.heap HGO.out HG3.out) (by decide) hj)
          · rw [hlen]
            exact HAT5.out
          · exact (HKW.out.trans (HK5.out.mono (T := FtR g (some ⟨r, 0, none⟩) L.length d) (fun i _ h => .inr (by rw [h]; rfl))) (fun _ _ h => h)).trans HKG6.out (fun i _ h => .inl h)
end Go.Proofs.YtnnmkmipeoajjaaGreatDoor
