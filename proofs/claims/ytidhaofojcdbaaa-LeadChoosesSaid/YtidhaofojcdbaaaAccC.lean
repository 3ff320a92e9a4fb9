/-
  Package accept: rows of votes; Votes.
-/
import Derived.Test.YtidhaofojcdbaaaAccB
namespace Go.Proofs.Ytidhaofojcdbaaa
open Go.RowKit
set_option linter.unusedVariables false

theorem Try.info48 : (Try.prog.info? 48).map (fun i => (i.zero, i.size, i.bytes)) = some (some (vvv vt0), 6, 48) := by kernel_rfl
/-- A row of votes of the call's own, from block B on. -/
def VOwn (B : Nat) (w : World) (v : Value) (L : List Vt) : Prop := w.ownsRow B 48 6 v L.length (vcel L)
theorem VOwn.nil (B : Nat) (w : World) : VOwn B w (.slice none 0 0) [] := World.ownsRow_nil _ _ _ _
theorem VOwn.form {B : Nat} {w : World} {v : Value} {L : List Vt} (h : VOwn B w v L) : ∃ a c, v = .slice a L.length c := by
  rcases h.2 with ⟨rfl, h0⟩ | ⟨r, cap, cur, rfl, _⟩
  · exact ⟨none, 0, by rw [h0]⟩
  · exact ⟨_, _, rfl⟩
theorem VOwn.kept {S : Nat → Prop} {B : Nat} {w w' : World} {v : Value} {L : List Vt} (h : VOwn B w v L) (hk : Kept S w w') (hs : ∀ k, v.ownBlock = some k → ¬ S k) : VOwn B w' v L := by
  refine ⟨h.1, ?_⟩
  rcases h.2 with hn | ⟨r, cap, cur, rfl, hb, hr, rest⟩
  · exact .inl hn
  · exact .inr ⟨r, cap, cur, rfl, hb, hk.heap (hs r rfl) hr, rest⟩
theorem VOwn.no {B : Nat} {w w' : World} {v : Value} {L : List Vt} (h : VOwn B w v L) (hk : Kept NoB w w') : VOwn B w' v L := h.kept hk (fun _ _ h => h)
theorem VOwn.base {B : Nat} {w : World} {v : Value} {L : List Vt} (h : VOwn B w v L) (k : Nat) (hk : v.ownBlock = some k) : B ≤ k ∧ k < w.heap.size := by
  rcases h.2 with ⟨rfl, _⟩ | ⟨r, cap, cur, rfl, hb, hr, _⟩
  · cases hk
  · injection hk with hk
    subst hk
    exact ⟨hb, heap_lt hr⟩
theorem VOwn.mono {B C : Nat} {w : World} {v : Value} {L : List Vt} (h : VOwn B w v L) (hB : C ≤ B) : VOwn C w v L := by
  refine ⟨h.1, ?_⟩
  rcases h.2 with hn | ⟨r, cap, cur, rfl, hb, rest⟩
  · exact .inl hn
  · exact .inr ⟨r, cap, cur, rfl, Nat.le_trans hB hb, rest⟩
/-- A row's block is of votes. -/
theorem VOwn.typ {B : Nat} {w : World} {v : Value} {L : List Vt} (h : VOwn B w v L) (k : Nat) (hk : v.ownBlock = some k) {cs : Array Value} {t : TypeId} {fr : Nat × Nat} (hc : w.heap[k]? = some (.cells cs t fr)) : t = 48 := by
  rcases h.2 with ⟨rfl, _⟩ | ⟨r, cap, cur, rfl, hb, hr, _⟩
  · cases hk
  · injection hk with hk
    subst hk
    rw [hr] at hc
    injection hc with hc
    injection hc with _ hc
    exact hc.symm
theorem VOwn.one {B : Nat} {w : World} {v : Value} {L : List Vt} (h : VOwn B w v L) {k : Nat} {cs : Array Value} {t : TypeId} {fr : Nat × Nat} (hc : w.heap[k]? = some (.cells cs t fr)) (ht : t ≠ 48) : ∀ j, v.ownBlock = some j → j ≠ k := by
  intro j hj e
  subst e
  exact ht (h.typ j hj hc)
/-- append of one vote that lies in a block to a row of the call's own. -/
theorem run_append_vt (w : World) (base : Nat) (ty : TypeId) (v : Value) (L : List Vt) (hown : VOwn base w v L) (b : Nat) (x : Vt) (hb : w.heap[b]? = some (.cells #[.int .i64 x.s, .int .u64 x.b, .int .i64 x.k, .int .i64 x.ch, .int .u64 x.ep, .int .i64 x.nd] 48 (0, 0))) (hl : L.length ≤ 100000) (hbase : base ≤ w.heap.size) :
    ∃ a' c' w', (Builtin.append_ #[28, 28] ty #[v, .slice (some ⟨b, 0, none⟩) 1 1]).run Try.prog w = .ok (.slice a' (L.length + 1) c') w' ∧ VOwn base w' (.slice a' (L.length + 1) c') (L ++ [x]) ∧ w.grownBy w' v.ownBlock ∧ ((Value.slice a' (L.length + 1) c').ownBlock = v.ownBlock ∨ (Value.slice a' (L.length + 1) c').ownBlock = some w.heap.size) := by
  obtain ⟨i0, hi, hz0, hz1, hz2⟩ := info_parts Try.info48
  obtain ⟨v', w', hrun, h2, h3, _, h5⟩ := run_append_own_at (P := Try.prog) w base 28 ty 48 i0 _ 6 48 Try.underlying28 hi hz0 hz1 hz2 rfl (by decide) v L.length _ hown ⟨b, 0, none⟩ 1 1 (vcel [x]) (by simp [vcel, vcs]) (World.news_of_block hb) (by
    intro y hy
    simp only [vcel, vcs, List.flatMap_cons, List.flatMap_nil, List.append_nil, List.mem_cons, List.not_mem_nil, or_false] at hy
    rcases hy with rfl | rfl | rfl | rfl | rfl | rfl <;> rfl) (by unfold maxLen; omega) (by omega) hbase
  have h2' : VOwn base w' v' (L ++ [x]) := by
    unfold VOwn
    rw [vcel_app, List.length_append]
    exact h2
  obtain ⟨a', c', e⟩ := h2'.form
  rw [List.length_append] at e
  have e : v' = .slice a' (L.length + 1) c' := e
  subst e
  exact ⟨a', c', w', hrun, h2', h3, h5⟩
theorem wpList_append_vt (w : World) {ops : Array Oper} {rest : List Oper} {o : Oper} {a : Act} {Q : Exit → Act → World → Prop} (hgd : o.guard = none) (s x : Operand)
    (ho : o.op = .call { callee := .builtin .append, args := #[s, x], argTypes := #[28, 28] })
    (base : Nat) (v : Value) (L : List Vt) (hs : a.eval s = v) (hown : VOwn base w v L) (b : Nat) (y : Vt) (hx : a.eval x = .slice (some ⟨b, 0, none⟩) 1 1) (hb : w.heap[b]? = some (.cells #[.int .i64 y.s, .int .u64 y.b, .int .i64 y.k, .int .i64 y.ch, .int .u64 y.ep, .int .i64 y.nd] 48 (0, 0))) (hl : L.length ≤ 100000) (hbase : base ≤ w.heap.size)
    (h : ∀ a' c' w', VOwn base w' (.slice a' (L.length + 1) c') (L ++ [y]) → w.grownBy w' v.ownBlock → ((Value.slice a' (L.length + 1) c').ownBlock = v.ownBlock ∨ (Value.slice a' (L.length + 1) c').ownBlock = some w.heap.size) → wpList Try.prog ops Q rest (a.put o.dst (.slice a' (L.length + 1) c')) w') : wpList Try.prog ops Q (o :: rest) a w :=
  wpList_plain hgd fun K hK => by
    obtain ⟨a', c', w', hrun, h2, h3, h4⟩ := run_append_vt w base o.type v L hown b y hb hl hbase
    unfold Oper.wp execOp
    simp only [ho, resolve, invoke, builtin, Sem.run_bind, Sem.run_pure, Result.andThen_ok, List.map_toArray, List.map_cons, List.map_nil, hs, hx, hrun]
    exact hK _ _ (h a' c' w' h2 h3 h4)

/-- Votes of slots from f on, below k. -/
def selV (L : List Vt) (f k : Int) : List Vt := L.filter (fun v => decide (f ≤ v.s) && decide (v.s < k))
theorem selV_start (L : List Vt) (f k : Int) (h : ∀ v ∈ L, 0 ≤ v.s) (hk : k = max f 0) : selV L f k = [] := by
  unfold selV
  rw [List.filter_eq_nil_iff]
  intro v hv
  have := h v hv
  simp
  omega
theorem selV_end (L : List Vt) (f k : Int) (h : ∀ v ∈ L, v.s < 512) (hk : 512 ≤ k) : selV L f k = fromV L f := by
  unfold selV fromV
  apply List.filter_congr
  intro v hv
  have := h v hv
  rw [decide_eq_true (p := v.s < k) (by omega), Bool.and_true]
theorem selV_step (L : List Vt) (f k : Int) (h : Srt L) (hk : f ≤ k) : selV L f (k + 1) = selV L f k ++ (atV L k).toList := by
  induction L with
  | nil => rfl
  | cons x r ih =>
    obtain ⟨h1, h2⟩ := List.pairwise_cons.1 h
    have e : ∀ m, selV (x :: r) f m = if f ≤ x.s ∧ x.s < m then x :: selV r f m else selV r f m := by
      intro m
      unfold selV
      rw [List.filter_cons]
      by_cases hc : f ≤ x.s ∧ x.s < m
      · rw [if_pos hc, if_pos (by simp [hc])]
      · rw [if_neg hc, if_neg (by simp; omega)]
    rw [e, e, atV_cons]
    by_cases hx : x.s = k
    · rw [if_pos (by omega), if_neg (by omega), if_pos hx]
      have n1 : ∀ m, m ≤ k + 1 → selV r f m = [] := by
        intro m hm
        unfold selV
        rw [List.filter_eq_nil_iff]
        intro v hv
        have := h1 v hv
        simp
        omega
      rw [n1 _ (Int.le_refl _), n1 _ (by omega)]
      rfl
    · rw [if_neg hx, ih h2]
      by_cases hc : f ≤ x.s ∧ x.s < k
      · rw [if_pos (by omega), if_pos hc]
        rfl
      · rw [if_neg (by omega), if_neg hc]
theorem selV_len (L : List Vt) (f k : Int) : (selV L f k).length ≤ L.length := List.length_filter_le _ _
theorem votes_few_aux (L : List Vt) (a : Int) (h : Srt L) (h0 : ∀ v ∈ L, a ≤ v.s ∧ v.s < 512) (ha : a ≤ 512) : (L.length : Int) ≤ 512 - a := by
  induction L generalizing a with
  | nil => simp; omega
  | cons x r ih =>
    obtain ⟨h1, h2⟩ := List.pairwise_cons.1 h
    have hx := h0 x (by simp)
    have := ih (x.s + 1) h2 (fun v hv => ⟨by have := h1 v hv; omega, (h0 v (by simp [hv])).2⟩) (by omega)
    simp only [List.length_cons]
    omega
theorem AccAt.few {w : World} {g bm : Nat} {p : Int} {L : List Vt} (h : AccAt w g bm p L) : L.length ≤ 512 := by
  have := votes_few_aux L 0 h.map.1 (fun v hv => ⟨(h.ok v hv).1, (h.ok v hv).2.1⟩) (by omega)
  omega
/-- What is collected behind the slots below k. -/
def VoRel (w : World) (f : Int) (L : List Vt) (ov iv : Value) (wr : World) : Prop :=
  ∃ k : Int, iv = .int .i64 k ∧ max f 0 ≤ k ∧ (k ≤ 512 ∨ k = f) ∧ VOwn w.heap.size wr ov (selV L f k) ∧ Kept NoB w wr
-- GEN (wip/mkaccc.py)
set_option maxRecDepth 100000 in
theorem AVotes_neg (w : World) (g bm : Nat) (p f : Int) (L : List Vt) (h : AccAt w g bm p L) (hf : f ≤ 9223372036854775807) (h0 : f < 0) : Calls Try.prog 86 #[.pointer (some ⟨g, 0, none⟩), .int .i64 f] w fun e w' =>
    ∃ v, e = .returned v ∧ VOwn w.heap.size w' v (fromV L f) ∧ Kept NoB w w' := by
  have HA := Lib.hid h
  have hfew := h.few
  have HS := Lib.hid h.map.1
  have HOK := Lib.hid h.ok
  clear h
  go_enter Try.func86, Try.ntmps86
  go_wp2
  go_loopw [5, 6] (VoRel w f L) (fun _ i _ => 512 - (RowKit.intOf i).toNat)
  case atStart => exact ⟨0, rfl, by omega, by omega, by rw [selV_start L f _ (fun v hv => (HOK.out v hv).1) (by omega)]; exact VOwn.nil _ _, Kept.refl _ _⟩
  case round =>
    obtain ⟨k, rfl, hk0, hk1, hown, hK⟩ := hrel
    by_cases hlt : k < 512
    · obtain ⟨a, c, rfl⟩ := hown.form
      have HK := Lib.hid hK
      have HO := Lib.hid hown
      have hk00 : 0 ≤ k := by omega
      have hwf : (Lit.int .i64 k).wf = true := WalkArith.wf_i64 (by omega)
      have HV := Lib.hid (AVote_any wr g bm p k L (HA.out.no hK) hwf)
      have hst := selV_step L f k HS.out (by omega)
      have hle := selV_len L f k
      obtain ⟨b, hbb⟩ : ∃ b, b = (atV L k).isSome := ⟨_, rfl⟩
      obtain ⟨⟨y0, y1, y2, y3, y4, y5⟩, hv⟩ : ∃ v, v = (atV L k).getD vt0 := ⟨_, rfl⟩
      rw [← hbb, ← hv, show vvv ⟨y0, y1, y2, y3, y4, y5⟩ = .agg #[.int .i64 y0, .int .u64 y1, .int .i64 y2, .int .i64 y3, .int .u64 y4, .int .i64 y5] from rfl] at HV
      have HST : Hid (selV L f (k + 1) = selV L f k ++ if b then [⟨y0, y1, y2, y3, y4, y5⟩] else []) := Lib.hid (by
        rw [hst, hbb, hv]
        cases atV L k <;> rfl)
      have HLE := Lib.hid hle
      clear hown hK hst hle hbb hv hwf
      go_wp2_with fail
      refine HV.out.mono ?_
      rintro e w2 ⟨rfl, hk2⟩
      have HK2 := Lib.hid (HK.out.trans hk2 (fun _ _ h => h))
      have HO2 := Lib.hid (HO.out.no hk2)
      clear hk2
      cases b
      · go_wp2
        exact ⟨⟨k + 1, by go_num, by omega, by omega, by rw [HST.out, if_neg (by simp), List.append_nil]; exact HO2.out.no ((Kept.refl NoB w2).alloc _), HK2.out.alloc _⟩, by simp [RowKit.intOf]; omega⟩
      · have HO3 := Lib.hid ((HO2.out.no ((Kept.refl NoB w2).alloc (.cells #[.int .i64 y0, .int .u64 y1, .int .i64 y2, .int .i64 y3, .int .u64 y4, .int .i64 y5] 48))).no ((Kept.refl NoB _).alloc (.cells #[.int .i64 y0, .int .u64 y1, .int .i64 y2, .int .i64 y3, .int .u64 y4, .int .i64 y5] 48)))
        have hz := heap_alloc_new (w2.alloc (.cells #[.int .i64 y0, .int .u64 y1, .int .i64 y2, .int .i64 y3, .int .u64 y4, .int .i64 y5] 48)) (.cells #[.int .i64 y0, .int .u64 y1, .int .i64 y2, .int .i64 y3, .int .u64 y4, .int .i64 y5] 48)
        rw [show (w2.alloc (.cells #[.int .i64 y0, .int .u64 y1, .int .i64 y2, .int .i64 y3, .int .u64 y4, .int .i64 y5] 48)).heap.size = w2.heap.size + 1 by simp] at hz
        have HZ := Lib.hid hz
        have HK3 := Lib.hid ((HK2.out.alloc (.cells #[.int .i64 y0, .int .u64 y1, .int .i64 y2, .int .i64 y3, .int .u64 y4, .int .i64 y5] 48)).alloc (.cells #[.int .i64 y0, .int .u64 y1, .int .i64 y2, .int .i64 y3, .int .u64 y4, .int .i64 y5] 48))
        clear hz
        go_wp2_with (at_builtin; refine wpList_append_vt _ rfl _ _ rfl w.heap.size (.slice a (selV L f k).length c) (selV L f k) rfl HO3.out (w2.heap.size + 1) ⟨y0, y1, y2, y3, y4, y5⟩ rfl HZ.out (by have := HLE.out; omega) (by exact HK3.out.size) ?_; intro a' c' w' hown' hgrow' hat')
        exact ⟨⟨k + 1, by go_num, by omega, by omega, by rw [HST.out, if_pos trivial]; exact hown', HK3.out.grown hgrow' (fun i hi => .inr (HO3.out.base i hi).1)⟩, by simp [RowKit.intOf]; omega⟩
    · obtain ⟨a, c, rfl⟩ := hown.form
      rw [selV_end L f k (fun v hv => (HOK.out v hv).2.1) (by omega)] at hown ⊢
      go_wp2
      go_ret
      exact ⟨_, rfl, hown, hK⟩
set_option maxRecDepth 100000 in
theorem AVotes_pos (w : World) (g bm : Nat) (p f : Int) (L : List Vt) (h : AccAt w g bm p L) (hf : f ≤ 9223372036854775807) (h0 : 0 ≤ f) : Calls Try.prog 86 #[.pointer (some ⟨g, 0, none⟩), .int .i64 f] w fun e w' =>
    ∃ v, e = .returned v ∧ VOwn w.heap.size w' v (fromV L f) ∧ Kept NoB w w' := by
  have HA := Lib.hid h
  have hfew := h.few
  have HS := Lib.hid h.map.1
  have HOK := Lib.hid h.ok
  clear h
  go_enter Try.func86, Try.ntmps86
  go_wp2
  go_loopw [5, 6] (VoRel w f L) (fun _ i _ => 512 - (RowKit.intOf i).toNat)
  case atStart => exact ⟨f, rfl, by omega, by omega, by rw [selV_start L f _ (fun v hv => (HOK.out v hv).1) (by omega)]; exact VOwn.nil _ _, Kept.refl _ _⟩
  case round =>
    obtain ⟨k, rfl, hk0, hk1, hown, hK⟩ := hrel
    by_cases hlt : k < 512
    · obtain ⟨a, c, rfl⟩ := hown.form
      have HK := Lib.hid hK
      have HO := Lib.hid hown
      have hk00 : 0 ≤ k := by omega
      have hwf : (Lit.int .i64 k).wf = true := WalkArith.wf_i64 (by omega)
      have HV := Lib.hid (AVote_any wr g bm p k L (HA.out.no hK) hwf)
      have hst := selV_step L f k HS.out (by omega)
      have hle := selV_len L f k
      obtain ⟨b, hbb⟩ : ∃ b, b = (atV L k).isSome := ⟨_, rfl⟩
      obtain ⟨⟨y0, y1, y2, y3, y4, y5⟩, hv⟩ : ∃ v, v = (atV L k).getD vt0 := ⟨_, rfl⟩
      rw [← hbb, ← hv, show vvv ⟨y0, y1, y2, y3, y4, y5⟩ = .agg #[.int .i64 y0, .int .u64 y1, .int .i64 y2, .int .i64 y3, .int .u64 y4, .int .i64 y5] from rfl] at HV
      have HST : Hid (selV L f (k + 1) = selV L f k ++ if b then [⟨y0, y1, y2, y3, y4, y5⟩] else []) := Lib.hid (by
        rw [hst, hbb, hv]
        cases atV L k <;> rfl)
      have HLE := Lib.hid hle
      clear hown hK hst hle hbb hv hwf
      go_wp2_with fail
      refine HV.out.mono ?_
      rintro e w2 ⟨rfl, hk2⟩
      have HK2 := Lib.hid (HK.out.trans hk2 (fun _ _ h => h))
      have HO2 := Lib.hid (HO.out.no hk2)
      clear hk2
      cases b
      · go_wp2
        exact ⟨⟨k + 1, by go_num, by omega, by omega, by rw [HST.out, if_neg (by simp), List.append_nil]; exact HO2.out.no ((Kept.refl NoB w2).alloc _), HK2.out.alloc _⟩, by simp [RowKit.intOf]; omega⟩
      · have HO3 := Lib.hid ((HO2.out.no ((Kept.refl NoB w2).alloc (.cells #[.int .i64 y0, .int .u64 y1, .int .i64 y2, .int .i64 y3, .int .u64 y4, .int .i64 y5] 48))).no ((Kept.refl NoB _).alloc (.cells #[.int .i64 y0, .int .u64 y1, .int .i64 y2, .int .i64 y3, .int .u64 y4, .int .i64 y5] 48)))
        have hz := heap_alloc_new (w2.alloc (.cells #[.int .i64 y0, .int .u64 y1, .int .i64 y2, .int .i64 y3, .int .u64 y4, .int .i64 y5] 48)) (.cells #[.int .i64 y0, .int .u64 y1, .int .i64 y2, .int .i64 y3, .int .u64 y4, .int .i64 y5] 48)
        rw [show (w2.alloc (.cells #[.int .i64 y0, .int .u64 y1, .int .i64 y2, .int .i64 y3, .int .u64 y4, .int .i64 y5] 48)).heap.size = w2.heap.size + 1 by simp] at hz
        have HZ := Lib.hid hz
        have HK3 := Lib.hid ((HK2.out.alloc (.cells #[.int .i64 y0, .int .u64 y1, .int .i64 y2, .int .i64 y3, .int .u64 y4, .int .i64 y5] 48)).alloc (.cells #[.int .i64 y0, .int .u64 y1, .int .i64 y2, .int .i64 y3, .int .u64 y4, .int .i64 y5] 48))
        clear hz
        go_wp2_with (at_builtin; refine wpList_append_vt _ rfl _ _ rfl w.heap.size (.slice a (selV L f k).length c) (selV L f k) rfl HO3.out (w2.heap.size + 1) ⟨y0, y1, y2, y3, y4, y5⟩ rfl HZ.out (by have := HLE.out; omega) (by exact HK3.out.size) ?_; intro a' c' w' hown' hgrow' hat')
        exact ⟨⟨k + 1, by go_num, by omega, by omega, by rw [HST.out, if_pos trivial]; exact hown', HK3.out.grown hgrow' (fun i hi => .inr (HO3.out.base i hi).1)⟩, by simp [RowKit.intOf]; omega⟩
    · obtain ⟨a, c, rfl⟩ := hown.form
      rw [selV_end L f k (fun v hv => (HOK.out v hv).2.1) (by omega)] at hown ⊢
      go_wp2
      go_ret
      exact ⟨_, rfl, hown, hK⟩
theorem AVotes_any (w : World) (g bm : Nat) (p f : Int) (L : List Vt) (h : AccAt w g bm p L) (hf : f ≤ 9223372036854775807) : Calls Try.prog 86 #[.pointer (some ⟨g, 0, none⟩), .int .i64 f] w fun e w' =>
    ∃ v, e = .returned v ∧ VOwn w.heap.size w' v (fromV L f) ∧ Kept NoB w w' := by
  by_cases h0 : f < 0
  · exact AVotes_neg w g bm p f L h hf h0
  · exact AVotes_pos w g bm p f L h hf (by omega)
end Go.Proofs.Ytidhaofojcdbaaa
