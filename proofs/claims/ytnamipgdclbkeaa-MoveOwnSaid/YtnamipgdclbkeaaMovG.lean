/-
  The chapter's Take.
-/
import Derived.Test.YtnamipgdclbkeaaMovF
namespace Go.Proofs.Ytnamipgdclbkeaa
open Go.RowKit Go.Shelf
set_option linter.unusedVariables false

def three21 (w : World) (b : Nat) (x y z : Value) : World := ((w.setCell ⟨b, 0, none⟩ x).setCell ⟨b, 1, none⟩ y).setCell ⟨b, 2, none⟩ z
theorem kept_three (w : World) (b : Nat) (x y z : Value) : Kept (fun k => k = b) w (three21 w b x y z) :=
  (((Kept.refl (fun k => k = b) w).setCell (p := ⟨b, 0, none⟩) (Or.inl (Eq.refl b)) _).setCell (p := ⟨b, 1, none⟩) (Or.inl (Eq.refl b)) _).setCell (p := ⟨b, 2, none⟩) (Or.inl (Eq.refl b)) _
theorem three21_at {w : World} {b : Nat} {x0 y0 z0 : Value} {t : TypeId} (h : w.heap[b]? = some (.cells #[x0, y0, z0] t (0, 0))) (x y z : Value) : (three21 w b x y z).heap[b]? = some (.cells #[x, y, z] t (0, 0)) := by
  have := blkM_set (blkM_set (blkM_set h 0 x) 1 y) 2 z
  simpa [three21] using this
theorem cells3m {w : World} {b : Nat} {x y z : Value} {t : TypeId} (h : w.heap[b]? = some (.cells #[x, y, z] t (0, 0))) :
    w.cell? ⟨b, 0, none⟩ = some x ∧ w.cell? ⟨b, 1, none⟩ = some y ∧ w.cell? ⟨b, 2, none⟩ = some z ∧ w.frozen? ⟨b, 0, none⟩ = false ∧ w.frozen? ⟨b, 1, none⟩ = false ∧ w.frozen? ⟨b, 2, none⟩ = false :=
  ⟨cell_of_row _ _ 0 _ _ _ h, cell_of_row _ _ 1 _ _ _ h, cell_of_row _ _ 2 _ _ _ h, blkM_frozen h 0, blkM_frozen h 1, blkM_frozen h 2⟩
/-- What the chapter's Take leaves. -/
def RTakeP (w : World) (F : Nat → Prop) (r : Rm) (q : Nat) (part parts : Int) (b : List Int) (e : Ending) (w' : World) : Prop :=
  ∃ lv u, e = .returned (.tuple #[.agg #[.int .u64 (takeM r q part parts b).1.q, .int .i64 (takeM r q part parts b).1.n, lv], u, .bool (takeM r q part parts b).2.2]) ∧
    LsO w' (fun k => F k ∨ w.heap.size ≤ k) lv (takeM r q part parts b).1.L ∧ BSl w' (fun k => F k ∨ w.heap.size ≤ k) u (takeM r q part parts b).2.1 ∧ Kept NoB w w'
/-- Blocks that the two variables of the call are not among. -/
def Far (w : World) (F : Nat → Prop) (k : Nat) : Prop := (F k ∧ k < w.heap.size) ∨ w.heap.size + 1 < k
theorem Far.imp {w : World} {F : Nat → Prop} {k : Nat} (h : Far w F k) : F k ∨ w.heap.size ≤ k := by rcases h with h | h; exact .inl h.1; exact .inr (by omega)
/-- The end: the result's cells are stored. -/
theorem rt_end {w W1 : World} {F : Nat → Prop} {r : Rm} {q : Nat} {part parts : Int} {b : List Int} {R : Rm} {o : List Int} {ok : Bool} {lv u x y z : Value} (hT : takeM r q part parts b = (R, o, ok)) (hk : Kept NoB w W1) (hL : LsO W1 (Far w F) lv R.L) (hu : BSl W1 (Far w F) u o) :
    RTakeP w F r q part parts b (.returned (.tuple #[.agg #[.int .u64 R.q, .int .i64 R.n, lv], u, .bool ok])) (three21 W1 (w.heap.size + 1) x y z) := by
  have hk3 := kept_three W1 (w.heap.size + 1) x y z
  have hf : ∀ k, Far w F k → ¬ k = w.heap.size + 1 := by intro k h e; rcases h with h | h <;> omega
  unfold RTakeP
  rw [hT]
  exact ⟨lv, u, rfl, (hL.kept hk3 hf).mono (fun k _ h => h.imp), (hu.kept hk3 hf).mono (fun k _ h => h.imp), hk.trans hk3 (fun i hi e => by have e : i = w.heap.size + 1 := e; omega)⟩
theorem takeM_bad {r : Rm} {q : Nat} {part parts : Int} {b : List Int} (h : badM r q part parts b) : takeM r q part parts b = (r, [], false) := by unfold takeM; rw [if_pos h]
theorem far_ls {w V : World} {F : Nat → Prop} {lv : Value} {L : List (List Int)} (h : LsO w F lv L) (hk : Kept NoB w V) : LsO V (Far w F) lv L := (h.mono (G := Far w F) (fun k h1 h2 => .inl ⟨h2, h1⟩)).no hk
theorem far_bsl {w V : World} {F : Nat → Prop} {v : Value} {l : List Int} (h : BSl w F v l) (hk : Kept NoB w V) : BSl V (Far w F) v l := (h.mono (G := Far w F) (fun k h1 h2 => .inl ⟨h2, h1⟩)).kept hk (fun _ _ h => h)
/-- The row behind both appends. -/
theorem ls_grow {w W1 w4 : World} {F : Nat → Prop} {L1 : List (List Int)} {vs : List Value} {a4 : Option Addr} {c4 : Nat} {u : Value} {b : List Int} (hvs : ∀ j, j < L1.length → ∃ u, vs[j]? = some u ∧ BSl W1 (Far w F) u (L1.getD j []))
    (hlen : vs.length = L1.length) (hk : Kept NoB W1 w4) (hb : BSl W1 (Far w F) u b) (hrow : w4.ownsRow 0 23 1 (.slice a4 (L1.length + 1) c4) (L1.length + 1) (vs ++ [u])) (hn : ∀ k, (Value.slice a4 (L1.length + 1) c4).ownBlock = some k → w.heap.size + 1 < k) :
    LsO w4 (Far w F) (.slice a4 (L1.length + 1) c4) (L1 ++ [b]) := by
  refine ⟨vs ++ [u], by rw [List.length_append]; exact hrow, fun k hk2 => .inr (hn k hk2), fun j hj => ?_⟩
  rw [List.length_append] at hj
  simp only [List.length_singleton] at hj
  rcases Nat.lt_or_ge j L1.length with h | h
  · obtain ⟨x, hx, hbx⟩ := hvs j h
    refine ⟨x, by rw [List.getElem?_append_left (by omega)]; exact hx, ?_⟩
    have : (L1 ++ [b]).getD j [] = L1.getD j [] := by rw [List.getD_eq_getElem?_getD, List.getElem?_append_left h, List.getD_eq_getElem?_getD]
    rw [this]
    exact hbx.kept hk (fun _ _ h => h)
  · obtain rfl : j = L1.length := by omega
    refine ⟨u, by rw [List.getElem?_append_right (by omega), hlen]; simp, ?_⟩
    have : (L1 ++ [b]).getD L1.length [] = b := by rw [List.getD_eq_getElem?_getD, List.getElem?_append_right (Nat.le_refl _)]; simp
    rw [this]
    exact hb.kept hk (fun _ _ h => h)
theorem own_ge21 {w : World} {n m : Nat} {a a' : Option Addr} {c c' B : Nat} (hat : (Value.slice a' m c').ownBlock = (Value.slice a n c).ownBlock ∨ (Value.slice a' m c').ownBlock = some w.heap.size) (h : ∀ k, (Value.slice a n c).ownBlock = some k → B < k) (hB : B < w.heap.size) :
    ∀ k, (Value.slice a' m c').ownBlock = some k → B < k := by
  intro k hk
  rcases hat with e | e
  · exact h k (e.symm.trans hk)
  · rw [e] at hk; injection hk with hk; omega

theorem rt_other {w : World} {b k i : Nat} {o : Obj} {u : Value} (h : w.heap[k]? = some o) (hk : b ≠ k) : (w.setCell ⟨b, i, none⟩ u).heap[k]? = some o := by simp [World.setCell, Array.getElem?_modify, h, hk]
theorem rt_ls {w w4 : World} {F : Nat → Prop} {v u : Value} {i : Nat} {L : List (List Int)} (h : LsO w4 (Far w F) v L) : LsO (w4.setCell ⟨w.heap.size, i, none⟩ u) (Far w F) v L :=
  h.kept (S := fun k => k = w.heap.size) ((Kept.refl (fun k => k = w.heap.size) w4).setCell (p := ⟨w.heap.size, i, none⟩) (Or.inl (Eq.refl w.heap.size)) _) (fun k h e => by rcases h with h | h <;> omega)
theorem all_far {w W w5 : World} {F : Nat → Prop} {u : Value} {l : List Int} (h : BSl w5 (fun k => W.heap.size ≤ k ∧ k < w5.heap.size) u l) (hs : w.heap.size + 1 < W.heap.size) : BSl w5 (Far w F) u l := h.mono (fun k _ h => .inr (by omega))
theorem flat_snoc_le {L : List (List Int)} {b : List Int} (h : L.flatten.length ≤ 10000000) (hb : b.length ≤ 1024) : (L ++ [b]).flatten.length ≤ 100000000 := by simp at h ⊢; omega
theorem snoc_le {n : Nat} {L : List (List Int)} {b : List Int} (h : n = L.length) (hn : n ≤ 1000) : (L ++ [b]).length ≤ 100000 := by simp; omega
theorem row_len {w : World} {e n m : Nat} {v : Value} {vs : List Value} (h : n = m) (hr : w.ownsRow 0 e 1 v m vs) : w.ownsRow 0 e 1 v n vs := by subst h; exact hr
theorem one_all {W : World} {F : Nat → Prop} {n : Nat} {vs : List Value} {L : List (List Int)} (hn : vs.length = n * 1) (h : ∀ j, j < n → ∃ u, vs[j]? = some u ∧ BSl W F u (L.getD j [])) : ∀ u ∈ vs, u.oneCell' = true := by
  intro u hu
  obtain ⟨j, hj, rfl⟩ := List.mem_iff_getElem.1 hu
  obtain ⟨x, hx, hb⟩ := h j (by omega)
  rw [List.getElem?_eq_getElem hj] at hx
  injection hx with hx
  rw [hx]
  exact oneCell_bsl hb
theorem rt_more {w W7 w3 w4 : World} {F : Nat → Prop} {L1 : List (List Int)} {vs : List Value} {n1 : Nat} {a3 a4 : Option Addr} {c3 c4 : Nat} {u : Value} {b : List Int} {o0 o1 o2 y0 y1 y2 : Value}
    (hX : W7.heap[w.heap.size]? = some (.cells #[o0, o1, o2] 40 (0, 0))) (hY : W7.heap[w.heap.size + 1]? = some (.cells #[y0, y1, y2] 40 (0, 0))) (hk : Kept NoB w W7) (hsz : w.heap.size + 1 < W7.heap.size)
    (hk73 : Kept NoB W7 w3) (hn3 : ∀ k, (Value.slice a3 n1 c3).ownBlock = some k → W7.heap.size ≤ k) (hvs : ∀ j, j < L1.length → ∃ u, vs[j]? = some u ∧ BSl W7 (Far w F) u (L1.getD j [])) (hlen : vs.length = n1 * 1) (hn : n1 = L1.length) (hb : BSl W7 (Far w F) u b)
    (hrow : w4.ownsRow 0 23 1 (.slice a4 (n1 + 1) c4) (n1 + 1) (vs ++ [u])) (hg : (w3.alloc (.cells #[u] 23)).grownBy w4 (Value.slice a3 n1 c3).ownBlock)
    (hat : (Value.slice a4 (n1 + 1) c4).ownBlock = (Value.slice a3 n1 c3).ownBlock ∨ (Value.slice a4 (n1 + 1) c4).ownBlock = some (w3.alloc (.cells #[u] 23)).heap.size) :
    w4.heap[w.heap.size]? = some (.cells #[o0, o1, o2] 40 (0, 0)) ∧ w4.heap[w.heap.size + 1]? = some (.cells #[y0, y1, y2] 40 (0, 0)) ∧ LsO w4 (Far w F) (.slice a4 (n1 + 1) c4) (L1 ++ [b]) ∧ Kept NoB w w4 := by
  have hs3 := hk73.size
  have hk74 : Kept NoB W7 w4 := (hk73.alloc _).grown hg (fun k hk => .inr (hn3 k hk))
  refine ⟨hk74.heap (fun h => h) hX, hk74.heap (fun h => h) hY, ?_, hk.trans hk74 (fun _ _ h => h)⟩
  subst hn
  refine ls_grow hvs (by omega) hk74 hb hrow (fun k hk2 => ?_)
  rcases hat with e | e
  · have := hn3 k (e.symm.trans hk2); omega
  · rw [e] at hk2; injection hk2 with hk2; simp at hk2; omega

set_option maxRecDepth 100000 in
set_option maxHeartbeats 1000000 in
theorem RTake_bad (lv : Value) (r : Rm) (q : Nat) (part parts : Int) (v : Value) (b : List Int) (F : Nat → Prop) (w : World) (h : LsO w F lv r.L) (hb : BSl w F v b) (hbad : badM r q part parts b) :
    Calls Try.prog 17 #[.agg #[.int .u64 r.q, .int .i64 r.n, lv], .int .u64 q, .int .i64 part, .int .i64 parts, v] w (RTakeP w F r q part parts b) := by
  obtain ⟨la, lc, rfl⟩ := h.form
  obtain ⟨va, vc, rfl, _⟩ := id hb
  obtain ⟨rl, hrl⟩ : ∃ rl, rl = r.L.length := ⟨_, rfl⟩
  obtain ⟨rq, hrq⟩ : ∃ rq, rq = r.q := ⟨_, rfl⟩
  obtain ⟨rn, hrn⟩ : ∃ rn, rn = r.n := ⟨_, rfl⟩
  rw [← hrl] at h
  obtain ⟨V, hV⟩ : ∃ V, V = (w.alloc (.cells #[.int .u64 rq, .int .i64 rn, .slice la rl lc] 40)).alloc (.cells #[.int .u64 0, .int .i64 0, .slice none 0 0] 40) := ⟨_, rfl⟩
  have hkV : Kept NoB w V := by rw [hV]; exact ((Kept.refl _ _).alloc _).alloc _
  have hv0 : V.heap[w.heap.size]? = some (.cells #[.int .u64 rq, .int .i64 rn, .slice la rl lc] 40 (0, 0)) := by rw [hV]; exact (heap_alloc_old _ _ (by simp)).trans (heap_alloc_new w _)
  have hv1 : V.heap[w.heap.size + 1]? = some (.cells #[.int .u64 0, .int .i64 0, .slice none 0 0] 40 (0, 0)) := by
    rw [hV]; have := heap_alloc_new (w.alloc (.cells #[.int .u64 rq, .int .i64 rn, .slice la rl lc] 40)) (.cells #[.int .u64 0, .int .i64 0, .slice none 0 0] 40); rwa [World.size_alloc] at this
  obtain ⟨c0, c1, c2, z0, z1, z2⟩ := cells3m hv0
  obtain ⟨d0, d1, d2, y0, y1, y2⟩ := cells3m hv1
  have HT := Lib.hid (takeM_bad hbad)
  have HL := Lib.hid (show LsO V (Far w F) (.slice la rl lc) r.L from far_ls h hkV)
  have HR := Lib.hid (And.intro hrq (And.intro hrn hrl))
  have HK := Lib.hid hkV
  have HV := Lib.hid hV
  have H1 := Lib.hid hv1
  unfold badM at hbad
  rw [← hrl, ← hrq, ← hrn]
  rw [← hrq] at hbad
  clear h hb hV hkV hv0 hv1 hrl hrq hrn
  by_cases h0 : parts < 1
  · have e0 : decide (parts < 1) = true := decide_eq_true h0
    clear hbad
    go_enter Try.func17, Try.ntmps17
    go_upto_region 1 with fail
    rw [← HV.out]
    go_wp2
    obtain ⟨r0, r1, r2, _⟩ := cells3m (three21_at H1.out (.int .u64 rq) (.int .i64 rn) (.slice la rl lc))
    unfold three21 at r0 r1 r2
    refine bodyPost_ret (v := .tuple #[.agg #[.int .u64 rq, .int .i64 rn, .slice la rl lc], .slice none 0 0, .bool false]) (by simp [results, Try.results17, go_sem, r0, r1, r2]) rfl ?_
    rw [HR.out.1, HR.out.2.1]
    exact rt_end HT.out HK.out HL.out (BSl.nil _ _)
  · have e0 : decide (parts < 1) = false := decide_eq_false h0
    by_cases h1 : part < 0
    · have e1 : decide (part < 0) = true := decide_eq_true h1
      clear hbad
      go_enter Try.func17, Try.ntmps17
      go_upto_region 1 with fail
      rw [← HV.out]
      go_wp2
      obtain ⟨r0, r1, r2, _⟩ := cells3m (three21_at H1.out (.int .u64 rq) (.int .i64 rn) (.slice la rl lc))
      unfold three21 at r0 r1 r2
      refine bodyPost_ret (v := .tuple #[.agg #[.int .u64 rq, .int .i64 rn, .slice la rl lc], .slice none 0 0, .bool false]) (by simp [results, Try.results17, go_sem, r0, r1, r2]) rfl ?_
      rw [HR.out.1, HR.out.2.1]
      exact rt_end HT.out HK.out HL.out (BSl.nil _ _)
    · have e1 : decide (part < 0) = false := decide_eq_false h1
      by_cases h2 : parts ≤ part
      · have e2 : decide (parts ≤ part) = true := decide_eq_true h2
        clear hbad
        go_enter Try.func17, Try.ntmps17
        go_upto_region 1 with fail
        rw [← HV.out]
        go_wp2
        obtain ⟨r0, r1, r2, _⟩ := cells3m (three21_at H1.out (.int .u64 rq) (.int .i64 rn) (.slice la rl lc))
        unfold three21 at r0 r1 r2
        refine bodyPost_ret (v := .tuple #[.agg #[.int .u64 rq, .int .i64 rn, .slice la rl lc], .slice none 0 0, .bool false]) (by simp [results, Try.results17, go_sem, r0, r1, r2]) rfl ?_
        rw [HR.out.1, HR.out.2.1]
        exact rt_end HT.out HK.out HL.out (BSl.nil _ _)
      · have e2 : decide (parts ≤ part) = false := decide_eq_false h2
        by_cases h3 : (1024 : Int) < b.length
        · have e3 : decide ((1024 : Int) < b.length) = true := decide_eq_true h3
          clear hbad
          go_enter Try.func17, Try.ntmps17
          go_upto_region 1 with fail
          rw [← HV.out]
          go_wp2
          obtain ⟨r0, r1, r2, _⟩ := cells3m (three21_at H1.out (.int .u64 rq) (.int .i64 rn) (.slice la rl lc))
          unfold three21 at r0 r1 r2
          refine bodyPost_ret (v := .tuple #[.agg #[.int .u64 rq, .int .i64 rn, .slice la rl lc], .slice none 0 0, .bool false]) (by simp [results, Try.results17, go_sem, r0, r1, r2]) rfl ?_
          rw [HR.out.1, HR.out.2.1]
          exact rt_end HT.out HK.out HL.out (BSl.nil _ _)
        · have e3 : decide ((1024 : Int) < b.length) = false := decide_eq_false h3
          have h4 : (q : Int) < rq := by omega
          have e4 : decide ((q : Int) < rq) = true := decide_eq_true h4
          clear hbad
          go_enter Try.func17, Try.ntmps17
          go_upto_region 1 with fail
          rw [← HV.out]
          go_wp2
          obtain ⟨r0, r1, r2, _⟩ := cells3m (three21_at H1.out (.int .u64 rq) (.int .i64 rn) (.slice la rl lc))
          unfold three21 at r0 r1 r2
          refine bodyPost_ret (v := .tuple #[.agg #[.int .u64 rq, .int .i64 rn, .slice la rl lc], .slice none 0 0, .bool false]) (by simp [results, Try.results17, go_sem, r0, r1, r2]) rfl ?_
          rw [HR.out.1, HR.out.2.1]
          exact rt_end HT.out HK.out HL.out (BSl.nil _ _)

theorem aimR_same {r : Rm} {q : Nat} {parts : Int} (hq : q = r.q) (h : r.L = [] ∨ r.n = parts) : aimM r q parts = r := by
  unfold aimM
  rw [if_neg]
  rintro (h1 | ⟨h1, h2⟩)
  · omega
  · rcases h with h | h
    · exact h1 h
    · exact h2 h
theorem aimR_new {r : Rm} {q : Nat} {parts : Int} (h : r.q < q ∨ (r.L ≠ [] ∧ r.n ≠ parts)) : aimM r q parts = ⟨q, 0, []⟩ := by
  unfold aimM; rw [if_pos h]

set_option maxRecDepth 100000 in
set_option maxHeartbeats 1000000 in
theorem RTake_good (lv : Value) (r : Rm) (q : Nat) (part parts : Int) (v : Value) (b : List Int) (F : Nat → Prop) (w : World) (h : LsO w F lv r.L) (hb : BSl w F v b) (hbad : ¬ badM r q part parts b) (hq : q < 18446744073709551616) (hL : r.L.length ≤ 1000) (hz : r.L.flatten.length ≤ 10000000) :
    Calls Try.prog 17 #[.agg #[.int .u64 r.q, .int .i64 r.n, lv], .int .u64 q, .int .i64 part, .int .i64 parts, v] w (RTakeP w F r q part parts b) := by
  have hr1 : q = r.q ∨ r.q < q := by unfold badM at hbad; omega
  have d1' : decide (part < 0) = false := decide_eq_false (by unfold badM at hbad; omega)
  have d2' : decide (parts ≤ part) = false := decide_eq_false (by unfold badM at hbad; omega)
  have d3' : decide ((1024 : Int) < b.length) = false := decide_eq_false (by unfold badM at hbad; omega)
  have d5' : decide (parts < 1) = false := decide_eq_false (by unfold badM at hbad; omega)
  have hb10 : b.length ≤ 1024 := by unfold badM at hbad; omega
  obtain ⟨la, lc, rfl⟩ := h.form
  obtain ⟨va, vc, rfl, _⟩ := id hb
  obtain ⟨rl, hrl⟩ : ∃ rl, rl = r.L.length := ⟨_, rfl⟩
  obtain ⟨rq, hrq⟩ : ∃ rq, rq = r.q := ⟨_, rfl⟩
  obtain ⟨rn, hrn⟩ : ∃ rn, rn = r.n := ⟨_, rfl⟩
  rw [← hrl] at h
  obtain ⟨V, hV⟩ : ∃ V, V = (w.alloc (.cells #[.int .u64 rq, .int .i64 rn, .slice la rl lc] 40)).alloc (.cells #[.int .u64 0, .int .i64 0, .slice none 0 0] 40) := ⟨_, rfl⟩
  have hkV : Kept NoB w V := by rw [hV]; exact ((Kept.refl _ _).alloc _).alloc _
  have hsV : V.heap.size = w.heap.size + 2 := by rw [hV]; simp
  have hv0 : V.heap[w.heap.size]? = some (.cells #[.int .u64 rq, .int .i64 rn, .slice la rl lc] 40 (0, 0)) := by rw [hV]; exact (heap_alloc_old _ _ (by simp)).trans (heap_alloc_new w _)
  have hv1 : V.heap[w.heap.size + 1]? = some (.cells #[.int .u64 0, .int .i64 0, .slice none 0 0] 40 (0, 0)) := by
    rw [hV]; have := heap_alloc_new (w.alloc (.cells #[.int .u64 rq, .int .i64 rn, .slice la rl lc] 40)) (.cells #[.int .u64 0, .int .i64 0, .slice none 0 0] 40); rwa [World.size_alloc] at this
  obtain ⟨c0, c1, c2, z0, z1, z2⟩ := cells3m hv0
  have HBV := Lib.hid (show BSl V (Far w F) (.slice va b.length vc) b from far_bsl hb hkV)
  have HLV := Lib.hid (show LsO V (Far w F) (.slice la rl lc) r.L from far_ls h hkV)
  have HR := Lib.hid (And.intro hrq (And.intro hrn hrl))
  have HBD := Lib.hid hbad
  have HKV := Lib.hid hkV
  have HV := Lib.hid hV
  have H0 := Lib.hid hv0
  have H1 := Lib.hid hv1
  have HSV := Lib.hid hsV
  have HL0 := Lib.hid hL
  have HZ0 := Lib.hid hz
  rw [← hrq] at hr1
  rw [← hrl, ← hrq, ← hrn]
  clear h hb hbad hV hkV hv0 hv1 hsV hrl hrq hrn hL hz
  rcases hr1 with hr1 | hr1
  · subst hr1
    have dqq : ¬ q < q := Nat.lt_irrefl _
    by_cases h0 : rl = 0
    · have e0' : decide ((0 : Int) < rl) = false := decide_eq_false (by omega)
      have e0'' : ¬ 0 < rl := by omega
      have hr1 : q = q := rfl
      have HWAY : Hid (r.L = [] ∨ r.n = parts) := Lib.hid (.inl (List.eq_nil_of_length_eq_zero (by have := HR.out.2.2; omega)))
      clear h0
      have HA : Hid (aimM r q parts = ⟨q, rn, r.L⟩) := Lib.hid (by rw [aimR_same (by have := HR.out.1; omega) HWAY.out]; obtain ⟨h1, h2, _⟩ := HR.out; rw [h2]; cases r; simp_all)
      obtain ⟨L1, hL1⟩ : ∃ L1, L1 = r.L := ⟨_, rfl⟩
      rw [← hL1] at HA HLV HZ0 HL0
      have HN : Hid (rl = L1.length) := Lib.hid (by rw [hL1]; exact HR.out.2.2)
      have hn1 : rl ≤ 1000 := by rw [HN.out]; exact HL0.out
      have HL1 := HLV
      have HZ1 := HZ0
      obtain ⟨n1, hn1'⟩ : ∃ n1, n1 = rl := ⟨_, rfl⟩
      obtain ⟨la1, hla1⟩ : ∃ la1, la1 = la := ⟨_, rfl⟩
      obtain ⟨lc1, hlc1⟩ : ∃ lc1, lc1 = lc := ⟨_, rfl⟩
      obtain ⟨nn, hnn⟩ : ∃ nn, nn = rn := ⟨_, rfl⟩
      rw [← hn1'] at HN hn1
      rw [← hn1', ← hla1, ← hlc1] at HL1
      rw [← hnn] at HA
      have HTK := Lib.hid (takeM_ways HBD.out (n1 := n1) (by rw [HA.out]; exact HN.out))
      go_enter Try.func17, Try.ntmps17
      go_upto_region 1 with fail
      rw [← HV.out]
      go_upto_region 5 with fail
      subst hn1' hla1 hlc1 hnn
      have HX := H0
      have HY := H1
      have HK := HKV
      have HB1 := HBV
      clear hL1 hr1
      obtain ⟨p0, p1, p2, e0, e1, e2⟩ := cells3m HX.out
      obtain ⟨s0, s1, s2, k0, k1, k2⟩ := cells3m HY.out
      by_cases hp : part = n1
      · have dpn : (part != (n1 : Int)) = false := by simp [hp]
        have HP := Lib.hid hp
        clear hp
        obtain ⟨i1, hi1, hy0, hy1, hy2⟩ := info_parts infoBs21
        have HX7 := Lib.hid (blkM_set HX.out 1 (.int .i64 parts))
        have HY7 : Hid ((V.setCell ⟨w.heap.size, 1, none⟩ (.int .i64 parts)).heap[w.heap.size + 1]? = _) := Lib.hid (rt_other HY.out (by omega))
        have HK7 : Hid (Kept NoB w (V.setCell ⟨w.heap.size, 1, none⟩ (.int .i64 parts))) := Lib.hid (HK.out.setCell (.inr (Nat.le_refl _)) _)
        have HSZ : Hid (w.heap.size + 1 < (V.setCell ⟨w.heap.size, 1, none⟩ (.int .i64 parts)).heap.size) := Lib.hid (heap_lt HY7.out)
        have HB7 : Hid (BSl (V.setCell ⟨w.heap.size, 1, none⟩ (.int .i64 parts)) (Far w F) (.slice va b.length vc) b) := Lib.hid (HB1.out.kept (S := fun k => k = w.heap.size) ((Kept.refl (fun k => k = w.heap.size) V).setCell (p := ⟨w.heap.size, 1, none⟩) (Or.inl (Eq.refl w.heap.size)) _) (fun k h e => by rcases h with h | h <;> omega))
        have hL7 : LsO (V.setCell ⟨w.heap.size, 1, none⟩ (.int .i64 parts)) (Far w F) (.slice la1 n1 lc1) L1 := HL1.out.kept (S := fun k => k = w.heap.size) ((Kept.refl (fun k => k = w.heap.size) V).setCell (p := ⟨w.heap.size, 1, none⟩) (Or.inl (Eq.refl w.heap.size)) _) (fun k h e => by rcases h with h | h <;> omega)
        obtain ⟨vs, hrow, _, hvs⟩ := hL7
        have HROW := Lib.hid (show (V.setCell ⟨w.heap.size, 1, none⟩ (.int .i64 parts)).ownsRow 0 23 1 (.slice la1 n1 lc1) n1 vs ∧ (∀ j, j < L1.length → ∃ u, vs[j]? = some u ∧ BSl (V.setCell ⟨w.heap.size, 1, none⟩ (.int .i64 parts)) (Far w F) u (L1.getD j [])) ∧ ∀ u ∈ vs, u.oneCell' = true from ⟨row_len HN.out hrow, hvs, one_all hrow.1 hvs⟩)
        clear hrow hvs
        by_cases hlt : (n1 : Int) + 1 < parts
        · have dlt : decide ((n1 : Int) + 1 < parts) = true := decide_eq_true hlt
          go_wp2_with (at_builtin; first | (refine wpList_append_ls _ rfl (.const (.slice none 0 0)) (.tmp 63) _ rfl 23 i1 _ Try.underlying38 hi1 hy0 hy1 (by omega) rfl rfl (.slice la1 n1 lc1) n1 vs rfl (HROW.out.1) HROW.out.2.2 (by omega) ?_; intro a3 c3 w3 hown3 hk3 hn3; have HO3 := Lib.hid hown3; have HK3 := Lib.hid hk3; have HN3 := Lib.hid hn3; clear hown3 hk3 hn3) | (refine wpList_append_one21 _ rfl (.tmp 64) (.tmp 66) _ rfl 23 i1 _ Try.underlying38 hi1 hy0 hy1 (by omega) rfl (.slice a3 n1 c3) n1 vs rfl (own_keptM (S := NoB) HO3.out ((Kept.refl _ _).alloc _) (fun _ _ h => h)) (.slice va b.length vc) ⟨w3.heap.size, 0, none⟩ 1 rfl (cell_of_row _ _ 0 _ _ _ (heap_alloc_new w3 _)) rfl (by omega) ?_; intro a4 c4 w4 hown4 hg4 hat4; have HAT := Lib.hid (rt_more HX7.out HY7.out HK7.out HSZ.out HK3.out HN3.out HROW.out.2.1 (HROW.out.1.1) HN.out HB7.out hown4 hg4 hat4); obtain ⟨x0, x1, x2, f0, f1, f2⟩ := cells3m HAT.out.1; obtain ⟨t0, t1, t2, g0, g1, g2⟩ := cells3m HAT.out.2.1; clear hown4 hg4 hat4))
          obtain ⟨r0, r1, r2, _⟩ := cells3m (three21_at (rt_other HAT.out.2.1 (b := w.heap.size) (i := 2) (u := .slice a4 (n1 + 1) c4) (by omega)) (.int .u64 q) (.int .i64 parts) (.slice a4 (n1 + 1) c4))
          unfold three21 at r0 r1 r2
          refine bodyPost_ret (v := .tuple #[.agg #[.int .u64 q, .int .i64 parts, .slice a4 (n1 + 1) c4], .slice none 0 0, .bool false]) (by simp [results, Try.results17, go_sem, r0, r1, r2]) rfl ?_
          exact rt_end (R := ⟨q, parts, L1 ++ [b]⟩) (by have := HTK.out.1 HP.out hlt; rw [HA.out] at this; exact this) (HAT.out.2.2.2.setCell (.inr (Nat.le_refl _)) _) (rt_ls HAT.out.2.2.1) (BSl.nil _ _)
        · have dlt : decide ((n1 : Int) + 1 < parts) = false := decide_eq_false hlt
          go_wp2_with (first | (at_builtin; first | (refine wpList_append_ls _ rfl (.const (.slice none 0 0)) (.tmp 63) _ rfl 23 i1 _ Try.underlying38 hi1 hy0 hy1 (by omega) rfl rfl (.slice la1 n1 lc1) n1 vs rfl (HROW.out.1) HROW.out.2.2 (by omega) ?_; intro a3 c3 w3 hown3 hk3 hn3; have HO3 := Lib.hid hown3; have HK3 := Lib.hid hk3; have HN3 := Lib.hid hn3; clear hown3 hk3 hn3) | (refine wpList_append_one21 _ rfl (.tmp 64) (.tmp 66) _ rfl 23 i1 _ Try.underlying38 hi1 hy0 hy1 (by omega) rfl (.slice a3 n1 c3) n1 vs rfl (own_keptM (S := NoB) HO3.out ((Kept.refl _ _).alloc _) (fun _ _ h => h)) (.slice va b.length vc) ⟨w3.heap.size, 0, none⟩ 1 rfl (cell_of_row _ _ 0 _ _ _ (heap_alloc_new w3 _)) rfl (by omega) ?_; intro a4 c4 w4 hown4 hg4 hat4; have HAT := Lib.hid (rt_more HX7.out HY7.out HK7.out HSZ.out HK3.out HN3.out HROW.out.2.1 (HROW.out.1.1) HN.out HB7.out hown4 hg4 hat4); obtain ⟨x0, x1, x2, f0, f1, f2⟩ := cells3m HAT.out.1; obtain ⟨t0, t1, t2, g0, g1, g2⟩ := cells3m HAT.out.2.1; clear hown4 hg4 hat4)) | (go_at_call 20; refine (RAll_any (.slice a4 (n1 + 1) c4) (L1 ++ [b]) (Far w F) _ (rt_ls HAT.out.2.2.1) (snoc_le HN.out hn1) (flat_snoc_le HZ1.out hb10)).mono ?_; rintro e w5 ⟨u, rfl, hu5, hk5⟩; have h5 := rt_other HAT.out.2.1 (b := w.heap.size) (i := 2) (u := .slice a4 (n1 + 1) c4) (by omega); have HY5 := Lib.hid (hk5.heap (fun h => h) h5); obtain ⟨b0, b1, b2, j0, j1, j2⟩ := cells3m HY5.out; have HU5 := Lib.hid (all_far (F := F) hu5 (heap_lt h5)); have HK5 := Lib.hid ((HAT.out.2.2.2.setCell (p := ⟨w.heap.size, 2, none⟩) (.inr (Nat.le_refl _)) (.slice a4 (n1 + 1) c4)).trans hk5 (fun _ _ h => h)); clear h5 hu5 hk5))
          obtain ⟨r0, r1, r2, _⟩ := cells3m (three21_at HY5.out (.int .u64 q) (.int .i64 0) (.slice none 0 0))
          unfold three21 at r0 r1 r2
          refine bodyPost_ret (v := .tuple #[.agg #[.int .u64 q, .int .i64 0, .slice none 0 0], u, .bool true]) (by simp [results, Try.results17, go_sem, r0, r1, r2]) rfl ?_
          exact rt_end (R := ⟨q, 0, []⟩) (by have := HTK.out.2.1 HP.out hlt; rw [HA.out] at this; exact this) HK5.out (LsO.nil _ _) HU5.out
      · have dpn : (part != (n1 : Int)) = true := by simpa using hp
        have HP := Lib.hid hp
        clear hp
        go_wp2
        obtain ⟨r0, r1, r2, _⟩ := cells3m (three21_at HY.out (.int .u64 q) (.int .i64 nn) (.slice la1 n1 lc1))
        unfold three21 at r0 r1 r2
        refine bodyPost_ret (v := .tuple #[.agg #[.int .u64 q, .int .i64 nn, .slice la1 n1 lc1], .slice none 0 0, .bool false]) (by simp [results, Try.results17, go_sem, r0, r1, r2]) rfl ?_
        exact rt_end (R := ⟨q, nn, L1⟩) (by have := HTK.out.2.2 HP.out; rw [HA.out] at this; exact this) HK.out HL1.out (BSl.nil _ _)
    · have e0' : decide ((0 : Int) < rl) = true := decide_eq_true (by omega)
      by_cases hpn : rn = parts
      · have e1' : (rn != parts) = false := by simp [hpn]
        have hr1 : q = q := rfl
        have HWAY : Hid (r.L = [] ∨ r.n = parts) := Lib.hid (.inr (by have := HR.out.2.1; rw [← this]; exact hpn))
        clear hpn
        have HA : Hid (aimM r q parts = ⟨q, rn, r.L⟩) := Lib.hid (by rw [aimR_same (by have := HR.out.1; omega) HWAY.out]; obtain ⟨h1, h2, _⟩ := HR.out; rw [h2]; cases r; simp_all)
        obtain ⟨L1, hL1⟩ : ∃ L1, L1 = r.L := ⟨_, rfl⟩
        rw [← hL1] at HA HLV HZ0 HL0
        have HN : Hid (rl = L1.length) := Lib.hid (by rw [hL1]; exact HR.out.2.2)
        have hn1 : rl ≤ 1000 := by rw [HN.out]; exact HL0.out
        have HL1 := HLV
        have HZ1 := HZ0
        obtain ⟨n1, hn1'⟩ : ∃ n1, n1 = rl := ⟨_, rfl⟩
        obtain ⟨la1, hla1⟩ : ∃ la1, la1 = la := ⟨_, rfl⟩
        obtain ⟨lc1, hlc1⟩ : ∃ lc1, lc1 = lc := ⟨_, rfl⟩
        obtain ⟨nn, hnn⟩ : ∃ nn, nn = rn := ⟨_, rfl⟩
        rw [← hn1'] at HN hn1
        rw [← hn1', ← hla1, ← hlc1] at HL1
        rw [← hnn] at HA
        have HTK := Lib.hid (takeM_ways HBD.out (n1 := n1) (by rw [HA.out]; exact HN.out))
        go_enter Try.func17, Try.ntmps17
        go_upto_region 1 with fail
        rw [← HV.out]
        go_upto_region 5 with fail
        subst hn1' hla1 hlc1 hnn
        have HX := H0
        have HY := H1
        have HK := HKV
        have HB1 := HBV
        clear hL1 hr1
        obtain ⟨p0, p1, p2, e0, e1, e2⟩ := cells3m HX.out
        obtain ⟨s0, s1, s2, k0, k1, k2⟩ := cells3m HY.out
        by_cases hp : part = n1
        · have dpn : (part != (n1 : Int)) = false := by simp [hp]
          have HP := Lib.hid hp
          clear hp
          obtain ⟨i1, hi1, hy0, hy1, hy2⟩ := info_parts infoBs21
          have HX7 := Lib.hid (blkM_set HX.out 1 (.int .i64 parts))
          have HY7 : Hid ((V.setCell ⟨w.heap.size, 1, none⟩ (.int .i64 parts)).heap[w.heap.size + 1]? = _) := Lib.hid (rt_other HY.out (by omega))
          have HK7 : Hid (Kept NoB w (V.setCell ⟨w.heap.size, 1, none⟩ (.int .i64 parts))) := Lib.hid (HK.out.setCell (.inr (Nat.le_refl _)) _)
          have HSZ : Hid (w.heap.size + 1 < (V.setCell ⟨w.heap.size, 1, none⟩ (.int .i64 parts)).heap.size) := Lib.hid (heap_lt HY7.out)
          have HB7 : Hid (BSl (V.setCell ⟨w.heap.size, 1, none⟩ (.int .i64 parts)) (Far w F) (.slice va b.length vc) b) := Lib.hid (HB1.out.kept (S := fun k => k = w.heap.size) ((Kept.refl (fun k => k = w.heap.size) V).setCell (p := ⟨w.heap.size, 1, none⟩) (Or.inl (Eq.refl w.heap.size)) _) (fun k h e => by rcases h with h | h <;> omega))
          have hL7 : LsO (V.setCell ⟨w.heap.size, 1, none⟩ (.int .i64 parts)) (Far w F) (.slice la1 n1 lc1) L1 := HL1.out.kept (S := fun k => k = w.heap.size) ((Kept.refl (fun k => k = w.heap.size) V).setCell (p := ⟨w.heap.size, 1, none⟩) (Or.inl (Eq.refl w.heap.size)) _) (fun k h e => by rcases h with h | h <;> omega)
          obtain ⟨vs, hrow, _, hvs⟩ := hL7
          have HROW := Lib.hid (show (V.setCell ⟨w.heap.size, 1, none⟩ (.int .i64 parts)).ownsRow 0 23 1 (.slice la1 n1 lc1) n1 vs ∧ (∀ j, j < L1.length → ∃ u, vs[j]? = some u ∧ BSl (V.setCell ⟨w.heap.size, 1, none⟩ (.int .i64 parts)) (Far w F) u (L1.getD j [])) ∧ ∀ u ∈ vs, u.oneCell' = true from ⟨row_len HN.out hrow, hvs, one_all hrow.1 hvs⟩)
          clear hrow hvs
          by_cases hlt : (n1 : Int) + 1 < parts
          · have dlt : decide ((n1 : Int) + 1 < parts) = true := decide_eq_true hlt
            go_wp2_with (at_builtin; first | (refine wpList_append_ls _ rfl (.const (.slice none 0 0)) (.tmp 63) _ rfl 23 i1 _ Try.underlying38 hi1 hy0 hy1 (by omega) rfl rfl (.slice la1 n1 lc1) n1 vs rfl (HROW.out.1) HROW.out.2.2 (by omega) ?_; intro a3 c3 w3 hown3 hk3 hn3; have HO3 := Lib.hid hown3; have HK3 := Lib.hid hk3; have HN3 := Lib.hid hn3; clear hown3 hk3 hn3) | (refine wpList_append_one21 _ rfl (.tmp 64) (.tmp 66) _ rfl 23 i1 _ Try.underlying38 hi1 hy0 hy1 (by omega) rfl (.slice a3 n1 c3) n1 vs rfl (own_keptM (S := NoB) HO3.out ((Kept.refl _ _).alloc _) (fun _ _ h => h)) (.slice va b.length vc) ⟨w3.heap.size, 0, none⟩ 1 rfl (cell_of_row _ _ 0 _ _ _ (heap_alloc_new w3 _)) rfl (by omega) ?_; intro a4 c4 w4 hown4 hg4 hat4; have HAT := Lib.hid (rt_more HX7.out HY7.out HK7.out HSZ.out HK3.out HN3.out HROW.out.2.1 (HROW.out.1.1) HN.out HB7.out hown4 hg4 hat4); obtain ⟨x0, x1, x2, f0, f1, f2⟩ := cells3m HAT.out.1; obtain ⟨t0, t1, t2, g0, g1, g2⟩ := cells3m HAT.out.2.1; clear hown4 hg4 hat4))
            obtain ⟨r0, r1, r2, _⟩ := cells3m (three21_at (rt_other HAT.out.2.1 (b := w.heap.size) (i := 2) (u := .slice a4 (n1 + 1) c4) (by omega)) (.int .u64 q) (.int .i64 parts) (.slice a4 (n1 + 1) c4))
            unfold three21 at r0 r1 r2
            refine bodyPost_ret (v := .tuple #[.agg #[.int .u64 q, .int .i64 parts, .slice a4 (n1 + 1) c4], .slice none 0 0, .bool false]) (by simp [results, Try.results17, go_sem, r0, r1, r2]) rfl ?_
            exact rt_end (R := ⟨q, parts, L1 ++ [b]⟩) (by have := HTK.out.1 HP.out hlt; rw [HA.out] at this; exact this) (HAT.out.2.2.2.setCell (.inr (Nat.le_refl _)) _) (rt_ls HAT.out.2.2.1) (BSl.nil _ _)
          · have dlt : decide ((n1 : Int) + 1 < parts) = false := decide_eq_false hlt
            go_wp2_with (first | (at_builtin; first | (refine wpList_append_ls _ rfl (.const (.slice none 0 0)) (.tmp 63) _ rfl 23 i1 _ Try.underlying38 hi1 hy0 hy1 (by omega) rfl rfl (.slice la1 n1 lc1) n1 vs rfl (HROW.out.1) HROW.out.2.2 (by omega) ?_; intro a3 c3 w3 hown3 hk3 hn3; have HO3 := Lib.hid hown3; have HK3 := Lib.hid hk3; have HN3 := Lib.hid hn3; clear hown3 hk3 hn3) | (refine wpList_append_one21 _ rfl (.tmp 64) (.tmp 66) _ rfl 23 i1 _ Try.underlying38 hi1 hy0 hy1 (by omega) rfl (.slice a3 n1 c3) n1 vs rfl (own_keptM (S := NoB) HO3.out ((Kept.refl _ _).alloc _) (fun _ _ h => h)) (.slice va b.length vc) ⟨w3.heap.size, 0, none⟩ 1 rfl (cell_of_row _ _ 0 _ _ _ (heap_alloc_new w3 _)) rfl (by omega) ?_; intro a4 c4 w4 hown4 hg4 hat4; have HAT := Lib.hid (rt_more HX7.out HY7.out HK7.out HSZ.out HK3.out HN3.out HROW.out.2.1 (HROW.out.1.1) HN.out HB7.out hown4 hg4 hat4); obtain ⟨x0, x1, x2, f0, f1, f2⟩ := cells3m HAT.out.1; obtain ⟨t0, t1, t2, g0, g1, g2⟩ := cells3m HAT.out.2.1; clear hown4 hg4 hat4)) | (go_at_call 20; refine (RAll_any (.slice a4 (n1 + 1) c4) (L1 ++ [b]) (Far w F) _ (rt_ls HAT.out.2.2.1) (snoc_le HN.out hn1) (flat_snoc_le HZ1.out hb10)).mono ?_; rintro e w5 ⟨u, rfl, hu5, hk5⟩; have h5 := rt_other HAT.out.2.1 (b := w.heap.size) (i := 2) (u := .slice a4 (n1 + 1) c4) (by omega); have HY5 := Lib.hid (hk5.heap (fun h => h) h5); obtain ⟨b0, b1, b2, j0, j1, j2⟩ := cells3m HY5.out; have HU5 := Lib.hid (all_far (F := F) hu5 (heap_lt h5)); have HK5 := Lib.hid ((HAT.out.2.2.2.setCell (p := ⟨w.heap.size, 2, none⟩) (.inr (Nat.le_refl _)) (.slice a4 (n1 + 1) c4)).trans hk5 (fun _ _ h => h)); clear h5 hu5 hk5))
            obtain ⟨r0, r1, r2, _⟩ := cells3m (three21_at HY5.out (.int .u64 q) (.int .i64 0) (.slice none 0 0))
            unfold three21 at r0 r1 r2
            refine bodyPost_ret (v := .tuple #[.agg #[.int .u64 q, .int .i64 0, .slice none 0 0], u, .bool true]) (by simp [results, Try.results17, go_sem, r0, r1, r2]) rfl ?_
            exact rt_end (R := ⟨q, 0, []⟩) (by have := HTK.out.2.1 HP.out hlt; rw [HA.out] at this; exact this) HK5.out (LsO.nil _ _) HU5.out
        · have dpn : (part != (n1 : Int)) = true := by simpa using hp
          have HP := Lib.hid hp
          clear hp
          go_wp2
          obtain ⟨r0, r1, r2, _⟩ := cells3m (three21_at HY.out (.int .u64 q) (.int .i64 nn) (.slice la1 n1 lc1))
          unfold three21 at r0 r1 r2
          refine bodyPost_ret (v := .tuple #[.agg #[.int .u64 q, .int .i64 nn, .slice la1 n1 lc1], .slice none 0 0, .bool false]) (by simp [results, Try.results17, go_sem, r0, r1, r2]) rfl ?_
          exact rt_end (R := ⟨q, nn, L1⟩) (by have := HTK.out.2.2 HP.out; rw [HA.out] at this; exact this) HK.out HL1.out (BSl.nil _ _)
      · have e1' : (rn != parts) = true := by simpa using hpn
        have hr1 : q = q := rfl
        have HWAY : Hid (r.q < q ∨ (r.L ≠ [] ∧ r.n ≠ parts)) := Lib.hid (.inr ⟨fun h => h0 (by rw [HR.out.2.2, h]; rfl), by rw [← HR.out.2.1]; exact hpn⟩)
        have HA : Hid (aimM r q parts = ⟨q, 0, []⟩) := Lib.hid (aimR_new HWAY.out)
        obtain ⟨W1, hW1⟩ : ∃ W1, W1 = ((V.setCell ⟨w.heap.size, 0, none⟩ (.int .u64 q)).setCell ⟨w.heap.size, 1, none⟩ (.int .i64 0)).setCell ⟨w.heap.size, 2, none⟩ (.slice none 0 0) := ⟨_, rfl⟩
        have hkW := kept_three V w.heap.size (.int .u64 q) (.int .i64 0) (.slice none 0 0)
        have HX : Hid (W1.heap[w.heap.size]? = some (.cells #[.int .u64 q, .int .i64 0, .slice none 0 0] 40 (0, 0))) := Lib.hid (by rw [hW1]; exact three21_at H0.out _ _ _)
        have HY : Hid (W1.heap[w.heap.size + 1]? = some (.cells #[.int .u64 0, .int .i64 0, .slice none 0 0] 40 (0, 0))) := Lib.hid (by rw [hW1]; exact hkW.heap (fun e => by have e : w.heap.size + 1 = w.heap.size := e; omega) H1.out)
        have HK : Hid (Kept NoB w W1) := Lib.hid (by rw [hW1]; exact HKV.out.trans hkW (fun i hi e => by have e : i = w.heap.size := e; omega))
        have HB1 : Hid (BSl W1 (Far w F) (.slice va b.length vc) b) := Lib.hid (by rw [hW1]; exact HBV.out.kept hkW (fun k h e => by have e : k = w.heap.size := e; rcases h with h | h <;> omega))
        obtain ⟨L1, hL1⟩ : ∃ L1 : List (List Int), L1 = [] := ⟨_, rfl⟩
        obtain ⟨n1, hn1'⟩ : ∃ n1 : Nat, n1 = 0 := ⟨_, rfl⟩
        obtain ⟨nn, hnn⟩ : ∃ nn : Int, nn = 0 := ⟨_, rfl⟩
        obtain ⟨la1, hla1⟩ : ∃ la1 : Option Addr, la1 = none := ⟨_, rfl⟩
        obtain ⟨lc1, hlc1⟩ : ∃ lc1 : Nat, lc1 = 0 := ⟨_, rfl⟩
        have HL1 : Hid (LsO W1 (Far w F) (.slice la1 n1 lc1) L1) := Lib.hid (by subst hL1 hn1' hla1 hlc1; exact LsO.nil _ _)
        have HN : Hid (n1 = L1.length) := Lib.hid (by subst hL1 hn1'; rfl)
        have HZ1 : Hid (L1.flatten.length ≤ 10000000) := Lib.hid (by subst hL1; simp)
        have hn1 : n1 ≤ 1000 := by omega
        rw [← hL1, ← hnn] at HA
        have HX' : Hid (W1.heap[w.heap.size]? = some (.cells #[.int .u64 q, .int .i64 nn, .slice la1 n1 lc1] 40 (0, 0))) := Lib.hid (by rw [hnn, hla1, hn1', hlc1]; exact HX.out)
        have HTK := Lib.hid (takeM_ways HBD.out (n1 := n1) (by rw [HA.out]; exact HN.out))
        have HW1 := Lib.hid hW1
        clear hW1 hkW hL1
        go_enter Try.func17, Try.ntmps17
        go_upto_region 1 with fail
        rw [← HV.out]
        go_upto_region 5 with fail
        rw [← HW1.out]
        clear hnn hla1 hlc1 hn1' c0 c1 c2 z0 z1 z2 hr1
        have HX := HX'
        obtain ⟨p0, p1, p2, e0, e1, e2⟩ := cells3m HX.out
        obtain ⟨s0, s1, s2, k0, k1, k2⟩ := cells3m HY.out
        by_cases hp : part = n1
        · have dpn : (part != (n1 : Int)) = false := by simp [hp]
          have HP := Lib.hid hp
          clear hp
          obtain ⟨i1, hi1, hy0, hy1, hy2⟩ := info_parts infoBs21
          have HX7 := Lib.hid (blkM_set HX.out 1 (.int .i64 parts))
          have HY7 : Hid ((W1.setCell ⟨w.heap.size, 1, none⟩ (.int .i64 parts)).heap[w.heap.size + 1]? = _) := Lib.hid (rt_other HY.out (by omega))
          have HK7 : Hid (Kept NoB w (W1.setCell ⟨w.heap.size, 1, none⟩ (.int .i64 parts))) := Lib.hid (HK.out.setCell (.inr (Nat.le_refl _)) _)
          have HSZ : Hid (w.heap.size + 1 < (W1.setCell ⟨w.heap.size, 1, none⟩ (.int .i64 parts)).heap.size) := Lib.hid (heap_lt HY7.out)
          have HB7 : Hid (BSl (W1.setCell ⟨w.heap.size, 1, none⟩ (.int .i64 parts)) (Far w F) (.slice va b.length vc) b) := Lib.hid (HB1.out.kept (S := fun k => k = w.heap.size) ((Kept.refl (fun k => k = w.heap.size) W1).setCell (p := ⟨w.heap.size, 1, none⟩) (Or.inl (Eq.refl w.heap.size)) _) (fun k h e => by rcases h with h | h <;> omega))
          have hL7 : LsO (W1.setCell ⟨w.heap.size, 1, none⟩ (.int .i64 parts)) (Far w F) (.slice la1 n1 lc1) L1 := HL1.out.kept (S := fun k => k = w.heap.size) ((Kept.refl (fun k => k = w.heap.size) W1).setCell (p := ⟨w.heap.size, 1, none⟩) (Or.inl (Eq.refl w.heap.size)) _) (fun k h e => by rcases h with h | h <;> omega)
          obtain ⟨vs, hrow, _, hvs⟩ := hL7
          have HROW := Lib.hid (show (W1.setCell ⟨w.heap.size, 1, none⟩ (.int .i64 parts)).ownsRow 0 23 1 (.slice la1 n1 lc1) n1 vs ∧ (∀ j, j < L1.length → ∃ u, vs[j]? = some u ∧ BSl (W1.setCell ⟨w.heap.size, 1, none⟩ (.int .i64 parts)) (Far w F) u (L1.getD j [])) ∧ ∀ u ∈ vs, u.oneCell' = true from ⟨row_len HN.out hrow, hvs, one_all hrow.1 hvs⟩)
          clear hrow hvs
          by_cases hlt : (n1 : Int) + 1 < parts
          · have dlt : decide ((n1 : Int) + 1 < parts) = true := decide_eq_true hlt
            go_wp2_with (at_builtin; first | (refine wpList_append_ls _ rfl (.const (.slice none 0 0)) (.tmp 63) _ rfl 23 i1 _ Try.underlying38 hi1 hy0 hy1 (by omega) rfl rfl (.slice la1 n1 lc1) n1 vs rfl (HROW.out.1) HROW.out.2.2 (by omega) ?_; intro a3 c3 w3 hown3 hk3 hn3; have HO3 := Lib.hid hown3; have HK3 := Lib.hid hk3; have HN3 := Lib.hid hn3; clear hown3 hk3 hn3) | (refine wpList_append_one21 _ rfl (.tmp 64) (.tmp 66) _ rfl 23 i1 _ Try.underlying38 hi1 hy0 hy1 (by omega) rfl (.slice a3 n1 c3) n1 vs rfl (own_keptM (S := NoB) HO3.out ((Kept.refl _ _).alloc _) (fun _ _ h => h)) (.slice va b.length vc) ⟨w3.heap.size, 0, none⟩ 1 rfl (cell_of_row _ _ 0 _ _ _ (heap_alloc_new w3 _)) rfl (by omega) ?_; intro a4 c4 w4 hown4 hg4 hat4; have HAT := Lib.hid (rt_more HX7.out HY7.out HK7.out HSZ.out HK3.out HN3.out HROW.out.2.1 (HROW.out.1.1) HN.out HB7.out hown4 hg4 hat4); obtain ⟨x0, x1, x2, f0, f1, f2⟩ := cells3m HAT.out.1; obtain ⟨t0, t1, t2, g0, g1, g2⟩ := cells3m HAT.out.2.1; clear hown4 hg4 hat4))
            obtain ⟨r0, r1, r2, _⟩ := cells3m (three21_at (rt_other HAT.out.2.1 (b := w.heap.size) (i := 2) (u := .slice a4 (n1 + 1) c4) (by omega)) (.int .u64 q) (.int .i64 parts) (.slice a4 (n1 + 1) c4))
            unfold three21 at r0 r1 r2
            refine bodyPost_ret (v := .tuple #[.agg #[.int .u64 q, .int .i64 parts, .slice a4 (n1 + 1) c4], .slice none 0 0, .bool false]) (by simp [results, Try.results17, go_sem, r0, r1, r2]) rfl ?_
            exact rt_end (R := ⟨q, parts, L1 ++ [b]⟩) (by have := HTK.out.1 HP.out hlt; rw [HA.out] at this; exact this) (HAT.out.2.2.2.setCell (.inr (Nat.le_refl _)) _) (rt_ls HAT.out.2.2.1) (BSl.nil _ _)
          · have dlt : decide ((n1 : Int) + 1 < parts) = false := decide_eq_false hlt
            go_wp2_with (first | (at_builtin; first | (refine wpList_append_ls _ rfl (.const (.slice none 0 0)) (.tmp 63) _ rfl 23 i1 _ Try.underlying38 hi1 hy0 hy1 (by omega) rfl rfl (.slice la1 n1 lc1) n1 vs rfl (HROW.out.1) HROW.out.2.2 (by omega) ?_; intro a3 c3 w3 hown3 hk3 hn3; have HO3 := Lib.hid hown3; have HK3 := Lib.hid hk3; have HN3 := Lib.hid hn3; clear hown3 hk3 hn3) | (refine wpList_append_one21 _ rfl (.tmp 64) (.tmp 66) _ rfl 23 i1 _ Try.underlying38 hi1 hy0 hy1 (by omega) rfl (.slice a3 n1 c3) n1 vs rfl (own_keptM (S := NoB) HO3.out ((Kept.refl _ _).alloc _) (fun _ _ h => h)) (.slice va b.length vc) ⟨w3.heap.size, 0, none⟩ 1 rfl (cell_of_row _ _ 0 _ _ _ (heap_alloc_new w3 _)) rfl (by omega) ?_; intro a4 c4 w4 hown4 hg4 hat4; have HAT := Lib.hid (rt_more HX7.out HY7.out HK7.out HSZ.out HK3.out HN3.out HROW.out.2.1 (HROW.out.1.1) HN.out HB7.out hown4 hg4 hat4); obtain ⟨x0, x1, x2, f0, f1, f2⟩ := cells3m HAT.out.1; obtain ⟨t0, t1, t2, g0, g1, g2⟩ := cells3m HAT.out.2.1; clear hown4 hg4 hat4)) | (go_at_call 20; refine (RAll_any (.slice a4 (n1 + 1) c4) (L1 ++ [b]) (Far w F) _ (rt_ls HAT.out.2.2.1) (snoc_le HN.out hn1) (flat_snoc_le HZ1.out hb10)).mono ?_; rintro e w5 ⟨u, rfl, hu5, hk5⟩; have h5 := rt_other HAT.out.2.1 (b := w.heap.size) (i := 2) (u := .slice a4 (n1 + 1) c4) (by omega); have HY5 := Lib.hid (hk5.heap (fun h => h) h5); obtain ⟨b0, b1, b2, j0, j1, j2⟩ := cells3m HY5.out; have HU5 := Lib.hid (all_far (F := F) hu5 (heap_lt h5)); have HK5 := Lib.hid ((HAT.out.2.2.2.setCell (p := ⟨w.heap.size, 2, none⟩) (.inr (Nat.le_refl _)) (.slice a4 (n1 + 1) c4)).trans hk5 (fun _ _ h => h)); clear h5 hu5 hk5))
            obtain ⟨r0, r1, r2, _⟩ := cells3m (three21_at HY5.out (.int .u64 q) (.int .i64 0) (.slice none 0 0))
            unfold three21 at r0 r1 r2
            refine bodyPost_ret (v := .tuple #[.agg #[.int .u64 q, .int .i64 0, .slice none 0 0], u, .bool true]) (by simp [results, Try.results17, go_sem, r0, r1, r2]) rfl ?_
            exact rt_end (R := ⟨q, 0, []⟩) (by have := HTK.out.2.1 HP.out hlt; rw [HA.out] at this; exact this) HK5.out (LsO.nil _ _) HU5.out
        · have dpn : (part != (n1 : Int)) = true := by simpa using hp
          have HP := Lib.hid hp
          clear hp
          go_wp2
          obtain ⟨r0, r1, r2, _⟩ := cells3m (three21_at HY.out (.int .u64 q) (.int .i64 nn) (.slice la1 n1 lc1))
          unfold three21 at r0 r1 r2
          refine bodyPost_ret (v := .tuple #[.agg #[.int .u64 q, .int .i64 nn, .slice la1 n1 lc1], .slice none 0 0, .bool false]) (by simp [results, Try.results17, go_sem, r0, r1, r2]) rfl ?_
          exact rt_end (R := ⟨q, nn, L1⟩) (by have := HTK.out.2.2 HP.out; rw [HA.out] at this; exact this) HK.out HL1.out (BSl.nil _ _)
  · have d6' : decide (rq < q) = true := decide_eq_true hr1
    have d7' : ¬ q < rq := by omega
    have HWAY : Hid (r.q < q ∨ (r.L ≠ [] ∧ r.n ≠ parts)) := Lib.hid (.inl (by rw [← HR.out.1]; exact hr1))
    have HA : Hid (aimM r q parts = ⟨q, 0, []⟩) := Lib.hid (aimR_new HWAY.out)
    obtain ⟨W1, hW1⟩ : ∃ W1, W1 = ((V.setCell ⟨w.heap.size, 0, none⟩ (.int .u64 q)).setCell ⟨w.heap.size, 1, none⟩ (.int .i64 0)).setCell ⟨w.heap.size, 2, none⟩ (.slice none 0 0) := ⟨_, rfl⟩
    have hkW := kept_three V w.heap.size (.int .u64 q) (.int .i64 0) (.slice none 0 0)
    have HX : Hid (W1.heap[w.heap.size]? = some (.cells #[.int .u64 q, .int .i64 0, .slice none 0 0] 40 (0, 0))) := Lib.hid (by rw [hW1]; exact three21_at H0.out _ _ _)
    have HY : Hid (W1.heap[w.heap.size + 1]? = some (.cells #[.int .u64 0, .int .i64 0, .slice none 0 0] 40 (0, 0))) := Lib.hid (by rw [hW1]; exact hkW.heap (fun e => by have e : w.heap.size + 1 = w.heap.size := e; omega) H1.out)
    have HK : Hid (Kept NoB w W1) := Lib.hid (by rw [hW1]; exact HKV.out.trans hkW (fun i hi e => by have e : i = w.heap.size := e; omega))
    have HB1 : Hid (BSl W1 (Far w F) (.slice va b.length vc) b) := Lib.hid (by rw [hW1]; exact HBV.out.kept hkW (fun k h e => by have e : k = w.heap.size := e; rcases h with h | h <;> omega))
    obtain ⟨L1, hL1⟩ : ∃ L1 : List (List Int), L1 = [] := ⟨_, rfl⟩
    obtain ⟨n1, hn1'⟩ : ∃ n1 : Nat, n1 = 0 := ⟨_, rfl⟩
    obtain ⟨nn, hnn⟩ : ∃ nn : Int, nn = 0 := ⟨_, rfl⟩
    obtain ⟨la1, hla1⟩ : ∃ la1 : Option Addr, la1 = none := ⟨_, rfl⟩
    obtain ⟨lc1, hlc1⟩ : ∃ lc1 : Nat, lc1 = 0 := ⟨_, rfl⟩
    have HL1 : Hid (LsO W1 (Far w F) (.slice la1 n1 lc1) L1) := Lib.hid (by subst hL1 hn1' hla1 hlc1; exact LsO.nil _ _)
    have HN : Hid (n1 = L1.length) := Lib.hid (by subst hL1 hn1'; rfl)
    have HZ1 : Hid (L1.flatten.length ≤ 10000000) := Lib.hid (by subst hL1; simp)
    have hn1 : n1 ≤ 1000 := by omega
    rw [← hL1, ← hnn] at HA
    have HX' : Hid (W1.heap[w.heap.size]? = some (.cells #[.int .u64 q, .int .i64 nn, .slice la1 n1 lc1] 40 (0, 0))) := Lib.hid (by rw [hnn, hla1, hn1', hlc1]; exact HX.out)
    have HTK := Lib.hid (takeM_ways HBD.out (n1 := n1) (by rw [HA.out]; exact HN.out))
    have HW1 := Lib.hid hW1
    clear hW1 hkW hL1
    go_enter Try.func17, Try.ntmps17
    go_upto_region 1 with fail
    rw [← HV.out]
    go_upto_region 5 with fail
    rw [← HW1.out]
    clear hnn hla1 hlc1 hn1' c0 c1 c2 z0 z1 z2 hr1
    have HX := HX'
    obtain ⟨p0, p1, p2, e0, e1, e2⟩ := cells3m HX.out
    obtain ⟨s0, s1, s2, k0, k1, k2⟩ := cells3m HY.out
    by_cases hp : part = n1
    · have dpn : (part != (n1 : Int)) = false := by simp [hp]
      have HP := Lib.hid hp
      clear hp
      obtain ⟨i1, hi1, hy0, hy1, hy2⟩ := info_parts infoBs21
      have HX7 := Lib.hid (blkM_set HX.out 1 (.int .i64 parts))
      have HY7 : Hid ((W1.setCell ⟨w.heap.size, 1, none⟩ (.int .i64 parts)).heap[w.heap.size + 1]? = _) := Lib.hid (rt_other HY.out (by omega))
      have HK7 : Hid (Kept NoB w (W1.setCell ⟨w.heap.size, 1, none⟩ (.int .i64 parts))) := Lib.hid (HK.out.setCell (.inr (Nat.le_refl _)) _)
      have HSZ : Hid (w.heap.size + 1 < (W1.setCell ⟨w.heap.size, 1, none⟩ (.int .i64 parts)).heap.size) := Lib.hid (heap_lt HY7.out)
      have HB7 : Hid (BSl (W1.setCell ⟨w.heap.size, 1, none⟩ (.int .i64 parts)) (Far w F) (.slice va b.length vc) b) := Lib.hid (HB1.out.kept (S := fun k => k = w.heap.size) ((Kept.refl (fun k => k = w.heap.size) W1).setCell (p := ⟨w.heap.size, 1, none⟩) (Or.inl (Eq.refl w.heap.size)) _) (fun k h e => by rcases h with h | h <;> omega))
      have hL7 : LsO (W1.setCell ⟨w.heap.size, 1, none⟩ (.int .i64 parts)) (Far w F) (.slice la1 n1 lc1) L1 := HL1.out.kept (S := fun k => k = w.heap.size) ((Kept.refl (fun k => k = w.heap.size) W1).setCell (p := ⟨w.heap.size, 1, none⟩) (Or.inl (Eq.refl w.heap.size)) _) (fun k h e => by rcases h with h | h <;> omega)
      obtain ⟨vs, hrow, _, hvs⟩ := hL7
      have HROW := Lib.hid (show (W1.setCell ⟨w.heap.size, 1, none⟩ (.int .i64 parts)).ownsRow 0 23 1 (.slice la1 n1 lc1) n1 vs ∧ (∀ j, j < L1.length → ∃ u, vs[j]? = some u ∧ BSl (W1.setCell ⟨w.heap.size, 1, none⟩ (.int .i64 parts)) (Far w F) u (L1.getD j [])) ∧ ∀ u ∈ vs, u.oneCell' = true from ⟨row_len HN.out hrow, hvs, one_all hrow.1 hvs⟩)
      clear hrow hvs
      by_cases hlt : (n1 : Int) + 1 < parts
      · have dlt : decide ((n1 : Int) + 1 < parts) = true := decide_eq_true hlt
        go_wp2_with (at_builtin; first | (refine wpList_append_ls _ rfl (.const (.slice none 0 0)) (.tmp 63) _ rfl 23 i1 _ Try.underlying38 hi1 hy0 hy1 (by omega) rfl rfl (.slice la1 n1 lc1) n1 vs rfl (HROW.out.1) HROW.out.2.2 (by omega) ?_; intro a3 c3 w3 hown3 hk3 hn3; have HO3 := Lib.hid hown3; have HK3 := Lib.hid hk3; have HN3 := Lib.hid hn3; clear hown3 hk3 hn3) | (refine wpList_append_one21 _ rfl (.tmp 64) (.tmp 66) _ rfl 23 i1 _ Try.underlying38 hi1 hy0 hy1 (by omega) rfl (.slice a3 n1 c3) n1 vs rfl (own_keptM (S := NoB) HO3.out ((Kept.refl _ _).alloc _) (fun _ _ h => h)) (.slice va b.length vc) ⟨w3.heap.size, 0, none⟩ 1 rfl (cell_of_row _ _ 0 _ _ _ (heap_alloc_new w3 _)) rfl (by omega) ?_; intro a4 c4 w4 hown4 hg4 hat4; have HAT := Lib.hid (rt_more HX7.out HY7.out HK7.out HSZ.out HK3.out HN3.out HROW.out.2.1 (HROW.out.1.1) HN.out HB7.out hown4 hg4 hat4); obtain ⟨x0, x1, x2, f0, f1, f2⟩ := cells3m HAT.out.1; obtain ⟨t0, t1, t2, g0, g1, g2⟩ := cells3m HAT.out.2.1; clear hown4 hg4 hat4))
        obtain ⟨r0, r1, r2, _⟩ := cells3m (three21_at (rt_other HAT.out.2.1 (b := w.heap.size) (i := 2) (u := .slice a4 (n1 + 1) c4) (by omega)) (.int .u64 q) (.int .i64 parts) (.slice a4 (n1 + 1) c4))
        unfold three21 at r0 r1 r2
        refine bodyPost_ret (v := .tuple #[.agg #[.int .u64 q, .int .i64 parts, .slice a4 (n1 + 1) c4], .slice none 0 0, .bool false]) (by simp [results, Try.results17, go_sem, r0, r1, r2]) rfl ?_
        exact rt_end (R := ⟨q, parts, L1 ++ [b]⟩) (by have := HTK.out.1 HP.out hlt; rw [HA.out] at this; exact this) (HAT.out.2.2.2.setCell (.inr (Nat.le_refl _)) _) (rt_ls HAT.out.2.2.1) (BSl.nil _ _)
      · have dlt : decide ((n1 : Int) + 1 < parts) = false := decide_eq_false hlt
        go_wp2_with (first | (at_builtin; first | (refine wpList_append_ls _ rfl (.const (.slice none 0 0)) (.tmp 63) _ rfl 23 i1 _ Try.underlying38 hi1 hy0 hy1 (by omega) rfl rfl (.slice la1 n1 lc1) n1 vs rfl (HROW.out.1) HROW.out.2.2 (by omega) ?_; intro a3 c3 w3 hown3 hk3 hn3; have HO3 := Lib.hid hown3; have HK3 := Lib.hid hk3; have HN3 := Lib.hid hn3; clear hown3 hk3 hn3) | (refine wpList_append_one21 _ rfl (.tmp 64) (.tmp 66) _ rfl 23 i1 _ Try.underlying38 hi1 hy0 hy1 (by omega) rfl (.slice a3 n1 c3) n1 vs rfl (own_keptM (S := NoB) HO3.out ((Kept.refl _ _).alloc _) (fun _ _ h => h)) (.slice va b.length vc) ⟨w3.heap.size, 0, none⟩ 1 rfl (cell_of_row _ _ 0 _ _ _ (heap_alloc_new w3 _)) rfl (by omega) ?_; intro a4 c4 w4 hown4 hg4 hat4; have HAT := Lib.hid (rt_more HX7.out HY7.out HK7.out HSZ.out HK3.out HN3.out HROW.out.2.1 (HROW.out.1.1) HN.out HB7.out hown4 hg4 hat4); obtain ⟨x0, x1, x2, f0, f1, f2⟩ := cells3m HAT.out.1; obtain ⟨t0, t1, t2, g0, g1, g2⟩ := cells3m HAT.out.2.1; clear hown4 hg4 hat4)) | (go_at_call 20; refine (RAll_any (.slice a4 (n1 + 1) c4) (L1 ++ [b]) (Far w F) _ (rt_ls HAT.out.2.2.1) (snoc_le HN.out hn1) (flat_snoc_le HZ1.out hb10)).mono ?_; rintro e w5 ⟨u, rfl, hu5, hk5⟩; have h5 := rt_other HAT.out.2.1 (b := w.heap.size) (i := 2) (u := .slice a4 (n1 + 1) c4) (by omega); have HY5 := Lib.hid (hk5.heap (fun h => h) h5); obtain ⟨b0, b1, b2, j0, j1, j2⟩ := cells3m HY5.out; have HU5 := Lib.hid (all_far (F := F) hu5 (heap_lt h5)); have HK5 := Lib.hid ((HAT.out.2.2.2.setCell (p := ⟨w.heap.size, 2, none⟩) (.inr (Nat.le_refl _)) (.slice a4 (n1 + 1) c4)).trans hk5 (fun _ _ h => h)); clear h5 hu5 hk5))
        obtain ⟨r0, r1, r2, _⟩ := cells3m (three21_at HY5.out (.int .u64 q) (.int .i64 0) (.slice none 0 0))
        unfold three21 at r0 r1 r2
        refine bodyPost_ret (v := .tuple #[.agg #[.int .u64 q, .int .i64 0, .slice none 0 0], u, .bool true]) (by simp [results, Try.results17, go_sem, r0, r1, r2]) rfl ?_
        exact rt_end (R := ⟨q, 0, []⟩) (by have := HTK.out.2.1 HP.out hlt; rw [HA.out] at this; exact this) HK5.out (LsO.nil _ _) HU5.out
    · have dpn : (part != (n1 : Int)) = true := by simpa using hp
      have HP := Lib.hid hp
      clear hp
      go_wp2
      obtain ⟨r0, r1, r2, _⟩ := cells3m (three21_at HY.out (.int .u64 q) (.int .i64 nn) (.slice la1 n1 lc1))
      unfold three21 at r0 r1 r2
      refine bodyPost_ret (v := .tuple #[.agg #[.int .u64 q, .int .i64 nn, .slice la1 n1 lc1], .slice none 0 0, .bool false]) (by simp [results, Try.results17, go_sem, r0, r1, r2]) rfl ?_
      exact rt_end (R := ⟨q, nn, L1⟩) (by have := HTK.out.2.2 HP.out; rw [HA.out] at this; exact this) HK.out HL1.out (BSl.nil _ _)
end Go.Proofs.Ytnamipgdclbkeaa
