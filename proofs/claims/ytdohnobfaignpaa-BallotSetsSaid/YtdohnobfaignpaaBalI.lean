/-
  The answer's With; the walk of BallotSets.
-/
import Derived.Test.YtdohnobfaignpaaBalH
import Derived.Laws.AppendOwnNone
namespace Go.Proofs.Ytdohnobfaignpaa
open Go.RowKit
set_option linter.unusedVariables false

def ci (l : List Int) : List Value := l.map fun (i : Int) => Value.int .i64 i
theorem ci_app (l m : List Int) : ci (l ++ m) = ci l ++ ci m := by simp [ci]
theorem ci_len (l : List Int) : (ci l).length = l.length := by simp [ci]
theorem iv_ci (l : List Nat) : iv l = ci (asI l) := by simp [iv, ci, asI]
theorem asI_len (l : List Nat) : (asI l).length = l.length := by simp [asI]
theorem rdI_own {B : Nat} {w : World} {v : Value} {l : List Int} (h : w.ownsRow B 3 1 v l.length (ci l)) : RdI w v l := by
  rcases h.2 with ⟨hv, hn⟩ | ⟨g, cap, cur, hv, hb, hh, h1, h2, h3, h4⟩
  · exact ⟨none, 0, by rw [hv, hn], fun _ => rfl, fun i hi => by omega⟩
  · refine ⟨_, cap, hv, (fun h => by cases h), fun i hi => ⟨g, 0, rfl, heap_lt hh, ?_⟩⟩
    have := World.ownsRow.cellAt (hv ▸ h : w.ownsRow B 3 1 (.slice (some ⟨g, 0, none⟩) l.length cap) l.length (ci l)) i (by omega)
    rw [Nat.zero_add, this]
    simp [ci, List.getElem?_eq_getElem hi, List.getD_eq_getElem?_getD]
theorem add_at (b o j : Nat) : (⟨b, o, none⟩ : Addr).add j = ⟨b, o + j, none⟩ := by unfold Addr.add; split <;> simp_all
theorem rdI_news {w : World} {ad : Addr} {l : List Int} {c : Nat} (h : ∀ i, i < l.length → ∃ b o, some ad = some ⟨b, o, none⟩ ∧ b < w.heap.size ∧ w.cell? ⟨b, o + i, none⟩ = some (.int .i64 (l.getD i 0))) : ∀ j u, (ci l)[j]? = some u → w.cell? (ad.add j) = some u := by
  intro j u hu
  have hj : j < l.length := by
    rcases Nat.lt_or_ge j l.length with h | h
    · exact h
    · rw [List.getElem?_eq_none (by rw [ci_len]; exact h)] at hu; cases hu
  obtain ⟨b, o, ha, _, hc⟩ := h j hj
  injection ha with ha
  subst ha
  rw [add_at, hc, ← hu]
  simp [ci, List.getElem?_eq_getElem hj, List.getD_eq_getElem?_getD]
set_option maxRecDepth 100000 in
theorem rWith_any (s : Nat) (v : Value) (l : List Int) (w : World) (hs : s < 18446744073709551616) (h : RdI w v l) (hl : l.length ≤ 40) :
    Calls Try.prog 19 #[.int .u64 s, v] w fun e w' => e = .returned (.int .u64 (clr (ors s l) : Nat)) ∧ Kept NoB w w' := by
  obtain ⟨i0, hi, hz0, hz1, hz2⟩ := info_parts Try.info3
  have HW := Lib.hid (with_same s l hs)
  have HL := Lib.hid (rList_any s w hs)
  have hb := below_len s 64
  obtain ⟨q, hq⟩ : ∃ q, q = below s 64 := ⟨_, rfl⟩
  rw [← hq] at HL hb HW
  clear hq
  have HR := Lib.hid h
  obtain ⟨a, c, rfl, hcap, hc⟩ := h
  have HC := Lib.hid hc
  clear hc
  go_enter Try.func19, Try.ntmps19
  go_wp2_with fail
  refine HL.out.mono ?_
  rintro e w1 ⟨u, rfl, h1, h2⟩
  have HO : Hid (w1.ownsRow w.heap.size 3 1 u q.length (ci (asI q))) := Lib.hid (iv_ci q ▸ h1)
  have HK := Lib.hid h2
  have HLT := Lib.hid (World.ownsRow.lt HO.out)
  have hsz := h2.size
  have HR1 := Lib.hid (HR.out.kept h2)
  clear h1 h2 HL
  cases a with
  | none =>
    have hl0 : l = [] := by
      cases l with
      | nil => rfl
      | cons x r => obtain ⟨b, o, ha, _⟩ := HC.out 0 (by simp); cases ha
    subst hl0
    obtain rfl := hcap rfl
    have HS := Lib.hid (rSet_any u (asI q) w1 (rdI_own (asI_len q ▸ HO.out)) (by rw [asI_len]; omega))
    rw [List.append_nil] at HW
    clear hcap
    go_wp2_with (at_builtin; refine wpList_append_own_none rfl _ _ 32 rfl w.heap.size 3 i0 1 Try.underlying32 hi u q.length (ci (asI q)) rfl HO.out rfl ?_)
    go_wp2_with fail
    refine HS.out.mono ?_
    rintro e w' ⟨rfl, rfl⟩
    go_wp2
    go_ret
    exact ⟨by rw [← HW.out]; rfl, HK.out⟩
  | some ad =>
    have HN := Lib.hid (rdI_news (w := w1) (c := c) (by obtain ⟨a, c2, e, _, h⟩ := HR1.out; injection e with e1; rw [e1]; exact h))
    have HF : Hid (∀ u ∈ ci l, u.oneCell' = true) := Lib.hid (by intro u hu; unfold ci at hu; rw [List.mem_map] at hu; obtain ⟨i, _, rfl⟩ := hu; rfl)
    have HL1 : Hid ((ci l).length = l.length * 1) := Lib.hid (by rw [ci_len]; omega)
    clear hcap
    go_wp2_with (at_builtin; refine wpList_append_own _ rfl _ _ 32 rfl w.heap.size 3 i0 (.int .i64 0) 1 8 Try.underlying32 hi hz0 hz1 hz2 rfl (by decide) u q.length (ci (asI q)) rfl HO.out ad l.length c (ci l) rfl HL1.out HN.out HF.out (by unfold maxLen; omega) (by omega) hsz ?_; intro v' w2 hown2 hg2 _; have HO2 := Lib.hid hown2; have HG2 := Lib.hid hg2; clear hown2 hg2)
    have HS := Lib.hid (rSet_any v' (asI q ++ l) w2 (rdI_own (by rw [List.length_append, asI_len, ci_app]; exact HO2.out)) (by rw [List.length_append, asI_len]; omega))
    have HKK := Lib.hid (HK.out.grown HG2.out (fun k hk => .inr (HLT.out k hk).1))
    go_wp2_with fail
    refine HS.out.mono ?_
    rintro e w' ⟨rfl, rfl⟩
    go_wp2
    go_ret
    exact ⟨by rw [← HW.out]; rfl, HKK.out⟩

theorem LOwn.kept {B : Nat} {w w' : World} {v : Value} {l : List Nat} (h : LOwn B w v l) (hk : Kept NoB w w') : LOwn B w' v l := by
  refine ⟨h.1, ?_⟩
  rcases h.2 with hn | ⟨g, cap, cur, hv, hb, hh, rest⟩
  · exact .inl hn
  · exact .inr ⟨g, cap, cur, hv, hb, hk.heap (fun h => h) hh, rest⟩
/-- Has, of whatever number. -/
def memI (s : Nat) (i : Int) : Bool := decide (1 ≤ i ∧ i ≤ 63) && s.testBit i.toNat
theorem bHas_any (s : Nat) (i : Int) (w : World) (hs : s < 18446744073709551616) : Calls Try.prog 20 #[.int .u64 s, .int .i64 i] w fun e w' => e = .returned (.bool (memI s i)) ∧ w = w' := by
  by_cases h : 1 ≤ i ∧ i ≤ 63
  · obtain ⟨k, rfl⟩ : ∃ k : Nat, i = k := ⟨i.toNat, by omega⟩
    rw [show memI s k = mem s k by unfold memI mem; rw [decide_eq_true h, decide_eq_true (show 1 ≤ k by omega)]; rfl]
    exact bHas_mem s k w hs (by omega)
  · rw [show memI s i = false by unfold memI; rw [decide_eq_false h]; rfl]
    exact bHas_out s i w (by omega)
theorem rHas_any (s : Nat) (i : Int) (w : World) (hs : s < 18446744073709551616) : Calls Try.prog 21 #[.int .u64 s, .int .i64 i] w fun e w' => e = .returned (.bool (memI s i)) ∧ w = w' := by
  by_cases h : 1 ≤ i ∧ i ≤ 63
  · obtain ⟨k, rfl⟩ : ∃ k : Nat, i = k := ⟨i.toNat, by omega⟩
    rw [show memI s k = mem s k by unfold memI mem; rw [decide_eq_true h, decide_eq_true (show 1 ≤ k by omega)]; rfl]
    exact rHas_mem s k w hs (by omega)
  · rw [show memI s i = false by unfold memI; rw [decide_eq_false h]; rfl]
    exact rHas_out s i w (by omega)
/-- What the walk has of the number that is asked for. -/
def firstOf (l : List Int) : Int := l.getD 0 0
set_option maxRecDepth 100000 in
set_option maxHeartbeats 1000000 in
theorem BallotSets_in (s t : Nat) (v : Value) (l : List Int) (w : World) (hs : s < 18446744073709551616) (ht : t < 18446744073709551616) (h : RdI w v l) (hr : ∀ x ∈ l, x ≤ 9223372036854775807) (hl : l.length ≤ 40) :
    Calls Try.prog 5 #[.int .u64 s, .int .u64 t, v] w fun e w' => e = .returned (.bool true) ∧ Kept NoB w w' := by
  obtain ⟨n, hn⟩ : ∃ n, n = firstOf l := ⟨_, rfl⟩
  have hnr : n ≤ 9223372036854775807 := by
    rw [hn]; unfold firstOf
    cases l with
    | nil => simp
    | cons x r => exact hr x (by simp)
  have HR := Lib.hid h
  have H1 := Lib.hid (bWith_any s v l w hs h (by omega))
  have H2 := Lib.hid (rWith_any s v l w hs h hl)
  have H3 : Hid (∀ w, Calls Try.prog 20 #[.int .u64 s, .int .i64 n] w fun e w' => e = .returned (.bool (memI s n)) ∧ w = w') := Lib.hid (fun w => bHas_any s n w hs)
  have H4 : Hid (∀ w, Calls Try.prog 21 #[.int .u64 s, .int .i64 n] w fun e w' => e = .returned (.bool (memI s n)) ∧ w = w') := Lib.hid (fun w => rHas_any s n w hs)
  have H5 : Hid (∀ w, Calls Try.prog 23 #[.int .u64 s] w (Lists w (below s 64))) := Lib.hid (fun w => bList_any s w hs)
  have H6 : Hid (∀ w, Calls Try.prog 24 #[.int .u64 s] w (Lists w (below s 64))) := Lib.hid (fun w => rList_any s w hs)
  have H7 : Hid (∀ w, Calls Try.prog 25 #[.int .u64 s] w fun e w' => e = .returned (.int .i64 ((below s 64).length : Nat)) ∧ w = w') := Lib.hid (fun w => Count_any s w hs)
  have H8 : Hid (∀ w, Calls Try.prog 28 #[.int .u64 s, .int .i64 n] w fun e w' => e = .returned (.bool (enough s n)) ∧ Kept NoB w w') := Lib.hid (fun w => bEnough_any s n w hs hnr)
  have H9 : Hid (∀ w, Calls Try.prog 29 #[.int .u64 s, .int .i64 n] w fun e w' => e = .returned (.bool (enough s n)) ∧ w = w') := Lib.hid (fun w => rEnough_any s n w hs hnr)
  have H10 : Hid (∀ w, Calls Try.prog 30 #[.int .u64 s, .int .u64 t] w (Lists w (below (s &&& t) 64))) := Lib.hid (fun w => bMeet_any s t w hs ht)
  have H11 : Hid (∀ w, Calls Try.prog 31 #[.int .u64 s, .int .u64 t] w (Lists w (below (s &&& t) 64))) := Lib.hid (fun w => rMeet_any s t w hs ht)
  have H12 : Hid (∀ w, Calls Try.prog 26 #[.int .i64 n] w fun e w' => e = .returned (.int .i64 (if n < 1 then 0 else n / 2 + 1)) ∧ w = w') := Lib.hid (fun w => bQuorum_any n w hnr)
  have H13 : Hid (∀ w, Calls Try.prog 27 #[.int .i64 n] w fun e w' => e = .returned (.int .i64 (if n < 1 then 0 else n / 2 + 1)) ∧ w = w') := Lib.hid (fun w => rQuorum_any n w hnr)
  have hb1 := below_len s 64
  have hb2 := below_len (s &&& t) 64
  obtain ⟨p, hp⟩ : ∃ p, p = below s 64 := ⟨_, rfl⟩
  obtain ⟨q, hq⟩ : ∃ q, q = below (s &&& t) 64 := ⟨_, rfl⟩
  obtain ⟨b1, hb⟩ : ∃ b, b = memI s n := ⟨_, rfl⟩
  obtain ⟨b2, hbb⟩ : ∃ b, b = enough s n := ⟨_, rfl⟩
  obtain ⟨x, hx⟩ : ∃ x, x = if n < 1 then 0 else n / 2 + 1 := ⟨_, rfl⟩
  obtain ⟨y, hy⟩ : ∃ y, y = clr (ors s l) := ⟨_, rfl⟩
  rw [← hp] at H5 H6 H7 hb1
  rw [← hq] at H10 H11 hb2
  rw [← hb] at H3 H4
  rw [← hbb] at H8 H9
  rw [← hx] at H12 H13
  rw [← hy] at H1 H2
  have HN := Lib.hid hn
  clear hp hq hb hbb hx hy hn hr hnr
  obtain ⟨a, c, rfl, hcap, hc⟩ := h
  have HC := Lib.hid hc
  have hll : ((l.length : Nat) : Int) ≤ 40 := by omega
  clear hcap hc
  rcases Nat.eq_zero_or_pos l.length with h0 | h0
  · have hn0 : n = 0 := by
      rw [HN.out]; unfold firstOf
      cases l with
      | nil => rfl
      | cons x r => simp at h0
    subst hn0
    obtain ⟨m, hm⟩ : ∃ m, m = l.length := ⟨_, rfl⟩
    rw [← hm] at h0 H1 H2 ⊢
    obtain rfl := h0
    clear hm hl hll HN HC HR
    go_enter Try.func5, Try.ntmps5
    go_wp2_with fail
    refine H1.out.mono ?_
    rintro e w' ⟨rfl, rfl⟩
    go_wp2_with fail
    refine H2.out.mono ?_
    rintro e w1 ⟨rfl, hk⟩
    have K1 := Lib.hid hk
    clear hk
    go_wp2_with fail
    refine (H3.out _).mono ?_
    rintro e w' ⟨rfl, rfl⟩
    go_wp2_with fail
    refine (H4.out _).mono ?_
    rintro e w' ⟨rfl, rfl⟩
    go_wp2_with fail
    refine (H5.out _).mono ?_
    rintro e w2 ⟨v1, rfl, ho, hk⟩
    have O1 := Lib.hid ho
    have K2 := Lib.hid (K1.out.trans hk (fun _ _ h => h))
    clear hk ho
    go_wp2_with fail
    refine (H6.out _).mono ?_
    rintro e w3 ⟨v2, rfl, ho, hk⟩
    have S1 := Lib.hid (Same4_eq _ _ v1 v2 p w3 (O1.out.kept hk) ho (by omega))
    have K3 := Lib.hid (K2.out.trans hk (fun _ _ h => h))
    clear hk ho
    go_wp2_with fail
    refine S1.out.mono ?_
    rintro e w' ⟨rfl, n1, rfl⟩
    go_wp2_with fail
    refine (H7.out _).mono ?_
    rintro e w' ⟨rfl, rfl⟩
    go_wp2_with fail
    refine (H6.out _).mono ?_
    rintro e w4 ⟨v3, rfl, ho, hk⟩
    obtain ⟨a3, c3, rfl, _⟩ := ho.form
    have K4 := Lib.hid ((K3.out.drewN n1).trans hk (fun _ _ h => h))
    clear hk ho
    go_wp2_with fail
    refine (H12.out _).mono ?_
    rintro e w' ⟨rfl, rfl⟩
    go_wp2_with fail
    refine (H13.out _).mono ?_
    rintro e w' ⟨rfl, rfl⟩
    go_wp2_with fail
    refine (H8.out _).mono ?_
    rintro e w5 ⟨rfl, hk⟩
    have K5 := Lib.hid (K4.out.trans hk (fun _ _ h => h))
    clear hk
    go_wp2_with fail
    refine (H9.out _).mono ?_
    rintro e w' ⟨rfl, rfl⟩
    go_wp2_with fail
    refine (H10.out _).mono ?_
    rintro e w6 ⟨v4, rfl, ho, hk⟩
    have O4 := Lib.hid ho
    have K6 := Lib.hid (K5.out.trans hk (fun _ _ h => h))
    clear hk ho
    go_wp2_with fail
    refine (H11.out _).mono ?_
    rintro e w7 ⟨v5, rfl, ho, hk⟩
    have S2 := Lib.hid (Same4_eq _ _ v4 v5 q w7 (O4.out.kept hk) ho (by omega))
    have K7 := Lib.hid (K6.out.trans hk (fun _ _ h => h))
    clear hk ho
    go_wp2_with fail
    refine S2.out.mono ?_
    rintro e w' ⟨rfl, n2, rfl⟩
    go_wp2_with (go_at_call 15; refine (awake7 _).mono ?_; rintro e w' ⟨rfl, rfl⟩)
    go_ret
    exact ⟨rfl, K7.out.drewN n2⟩
  · obtain ⟨b, o, rfl, hb, hcell⟩ := HC.out 0 h0
    have hcell' : w.cell? ⟨b, o, none⟩ = some (.int .i64 n) := by rw [HN.out]; exact hcell
    clear hcell HN HC HR
    go_enter Try.func5, Try.ntmps5
    go_wp2_with fail
    refine H1.out.mono ?_
    rintro e w' ⟨rfl, rfl⟩
    go_wp2_with fail
    refine H2.out.mono ?_
    rintro e w1 ⟨rfl, hk⟩
    have K1 := Lib.hid hk
    clear hk
    go_wp2_with fail
    refine (H3.out _).mono ?_
    rintro e w' ⟨rfl, rfl⟩
    go_wp2_with fail
    refine (H4.out _).mono ?_
    rintro e w' ⟨rfl, rfl⟩
    go_wp2_with fail
    refine (H5.out _).mono ?_
    rintro e w2 ⟨v1, rfl, ho, hk⟩
    have O1 := Lib.hid ho
    have K2 := Lib.hid (K1.out.trans hk (fun _ _ h => h))
    clear hk ho
    go_wp2_with fail
    refine (H6.out _).mono ?_
    rintro e w3 ⟨v2, rfl, ho, hk⟩
    have S1 := Lib.hid (Same4_eq _ _ v1 v2 p w3 (O1.out.kept hk) ho (by omega))
    have K3 := Lib.hid (K2.out.trans hk (fun _ _ h => h))
    clear hk ho
    go_wp2_with fail
    refine S1.out.mono ?_
    rintro e w' ⟨rfl, n1, rfl⟩
    go_wp2_with fail
    refine (H7.out _).mono ?_
    rintro e w' ⟨rfl, rfl⟩
    go_wp2_with fail
    refine (H6.out _).mono ?_
    rintro e w4 ⟨v3, rfl, ho, hk⟩
    obtain ⟨a3, c3, rfl, _⟩ := ho.form
    have K4 := Lib.hid ((K3.out.drewN n1).trans hk (fun _ _ h => h))
    clear hk ho
    go_wp2_with fail
    refine (H12.out _).mono ?_
    rintro e w' ⟨rfl, rfl⟩
    go_wp2_with fail
    refine (H13.out _).mono ?_
    rintro e w' ⟨rfl, rfl⟩
    go_wp2_with fail
    refine (H8.out _).mono ?_
    rintro e w5 ⟨rfl, hk⟩
    have K5 := Lib.hid (K4.out.trans hk (fun _ _ h => h))
    clear hk
    go_wp2_with fail
    refine (H9.out _).mono ?_
    rintro e w' ⟨rfl, rfl⟩
    go_wp2_with fail
    refine (H10.out _).mono ?_
    rintro e w6 ⟨v4, rfl, ho, hk⟩
    have O4 := Lib.hid ho
    have K6 := Lib.hid (K5.out.trans hk (fun _ _ h => h))
    clear hk ho
    go_wp2_with fail
    refine (H11.out _).mono ?_
    rintro e w7 ⟨v5, rfl, ho, hk⟩
    have S2 := Lib.hid (Same4_eq _ _ v4 v5 q w7 (O4.out.kept hk) ho (by omega))
    have K7 := Lib.hid (K6.out.trans hk (fun _ _ h => h))
    clear hk ho
    go_wp2_with fail
    refine S2.out.mono ?_
    rintro e w' ⟨rfl, n2, rfl⟩
    go_wp2_with (go_at_call 15; refine (awake7 _).mono ?_; rintro e w' ⟨rfl, rfl⟩)
    go_ret
    exact ⟨rfl, K7.out.drewN n2⟩
theorem BallotSets_any (s t : Nat) (v : Value) (l : List Int) (w : World) (hs : s < 18446744073709551616) (ht : t < 18446744073709551616) (h : RdI w v l) (hr : ∀ x ∈ l, x ≤ 9223372036854775807) (hm : l.length ≤ 9223372036854775807) :
    Calls Try.prog 5 #[.int .u64 s, .int .u64 t, v] w fun e w' => e = .returned (.bool true) ∧ Kept NoB w w' := by
  by_cases hl : l.length ≤ 40
  · exact BallotSets_in s t v l w hs ht h hr hl
  · obtain ⟨a, c, rfl, hcap, hc⟩ := h
    have h1 : (40 : Int) < (l.length : Int) := by omega
    clear hcap hc hl hr hs ht
    go_enter Try.func5, Try.ntmps5
    go_wp2_with (go_at_call 15; refine (awake7 _).mono ?_; rintro e w' ⟨rfl, rfl⟩)
    go_ret
    exact ⟨rfl, Kept.refl _ _⟩
theorem BallotSets_u (a b : Int) (v : Value) (l : List Int) (w : World) (ha : 0 ≤ a ∧ a < 18446744073709551616) (hb : 0 ≤ b ∧ b < 18446744073709551616) (h : RdI w v l ∧ (∀ x ∈ l, x ≤ 9223372036854775807) ∧ l.length ≤ 9223372036854775807) :
    Calls Try.prog 5 #[.int .u64 a, .int .u64 b, v] w fun e w' => e = .returned (.bool true) ∧ Kept NoB w w' := by
  obtain ⟨s, rfl, hs⟩ := nat_of_u64 ha
  obtain ⟨t, rfl, ht⟩ := nat_of_u64 hb
  exact BallotSets_any s t v l w hs ht h.1 h.2.1 h.2.2
end Go.Proofs.Ytdohnobfaignpaa
