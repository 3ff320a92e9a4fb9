/-
  Configurations, in plain words: what commands make of them, and what stays.
-/
import Derived.Test.YtbacnkndllifaaaCnfA
namespace Go.Proofs.Ytbacnkndllifaaa
set_option linter.unusedVariables false

def Cf.last (c : Cf) : Int := c.ns.getD (c.ns.length - 1) 0
/-- Of the chain's own configuration: the error. -/
def canK (l : List Cf) (c : Cf) (k nd : Int) : Int :=
  if k = 1 then (if nd ∉ c.mem then 7 else if ∀ x ∈ c.set, x = nd then 12 else 0)
  else if k = 2 then (if usedB l nd = true then 8 else if c.jn ≠ 0 ∨ c.fr = true then 12 else if 5 ≤ c.ns.length then 9 else 0)
  else if k = 3 then (if c.jn ≠ nd then 7 else if 5 ≤ c.ns.length then 9 else 0)
  else (if c.fr = false ∨ c.last ≠ nd then 7 else 0)
def topE : Int := 18446744073709551615
/-- The error of a command; e0: that of the command alone. -/
def canC (l : List Cf) (e0 k ch ep nd : Int) : Int :=
  if ¬ AllC l then 1 else if e0 ≠ 0 then e0 else if k = 0 then 0 else if (l.length : Int) ≤ ch then 7 else if ep ≠ (nthC l ch.toNat).ep then 10
  else if canK l (nthC l ch.toNat) k nd ≠ 0 then canK l (nthC l ch.toNat) k nd else if (nthC l ch.toNat).ep = topE then 9 else 0
/-- What a command makes of its chain's configuration. -/
def madeC (c : Cf) (k nd : Int) : Cf :=
  if k = 1 then (if c.jn = nd then ⟨c.ch, c.ep + 1, c.ns, c.fr, 0⟩ else ⟨c.ch, c.ep + 1, c.ns.filter (fun x => decide (x ≠ nd)), c.fr && decide (c.last ≠ nd), c.jn⟩)
  else if k = 2 then ⟨c.ch, c.ep + 1, c.ns, c.fr, nd⟩
  else if k = 3 then ⟨c.ch, c.ep + 1, c.ns ++ [nd], true, 0⟩
  else ⟨c.ch, c.ep + 1, c.ns, false, c.jn⟩
def doC (l : List Cf) (e0 k ch ep nd : Int) : List Cf :=
  if canC l e0 k ch ep nd ≠ 0 then l else if k = 0 then l else l.set ch.toNat (madeC (nthC l ch.toNat) k nd)
/-- What is possible, is this. -/
theorem can_ok {l : List Cf} {e0 k ch ep nd : Int} (h : canC l e0 k ch ep nd = 0) : AllC l ∧ e0 = 0 ∧ (k = 0 ∨ (k ≠ 0 ∧ ch < l.length ∧ ep = (nthC l ch.toNat).ep ∧ canK l (nthC l ch.toNat) k nd = 0 ∧ (nthC l ch.toNat).ep ≠ topE)) := by
  unfold canC at h
  by_cases h1 : AllC l
  · rw [if_neg (fun x => x h1)] at h
    by_cases h2 : e0 = 0
    · rw [if_neg (fun x => x h2)] at h
      by_cases h3 : k = 0
      · exact ⟨h1, h2, .inl h3⟩
      · rw [if_neg h3] at h
        by_cases h4 : (l.length : Int) ≤ ch
        · rw [if_pos h4] at h; cases h
        · rw [if_neg h4] at h
          by_cases h5 : ep = (nthC l ch.toNat).ep
          · rw [if_neg (fun x => x h5)] at h
            by_cases h6 : canK l (nthC l ch.toNat) k nd = 0
            · rw [if_neg (fun x => x h6)] at h
              by_cases h7 : (nthC l ch.toNat).ep = topE
              · rw [if_pos h7] at h; cases h
              · exact ⟨h1, h2, .inr ⟨h3, by omega, h5, h6, h7⟩⟩
            · rw [if_pos h6] at h; exact absurd h h6
          · rw [if_pos h5] at h; cases h
    · rw [if_pos h2] at h; exact absurd h h2
  · rw [if_pos h1] at h; cases h
theorem last_mem {c : Cf} (h : 1 ≤ c.ns.length) : c.last ∈ c.ns := by
  unfold Cf.last
  rw [getD_at (by omega)]
  exact List.getElem_mem _
theorem ns_split {c : Cf} (h : 1 ≤ c.ns.length) : c.ns = c.ns.take (c.ns.length - 1) ++ [c.last] := by
  have := take_one (l := c.ns) (k := c.ns.length - 1) (by omega)
  rw [show c.ns.length - 1 + 1 = c.ns.length by omega, List.take_length] at this
  exact this
theorem ns_mem {c : Cf} {x : Int} (h : x ∈ c.ns) : x ∈ c.mem := by
  unfold Cf.mem
  split
  · exact h
  · exact List.mem_append_left _ h
theorem unq_ns {c : Cf} (h : Unq c.mem) : Unq c.ns := by
  unfold Cf.mem at h
  split at h
  · exact h
  · exact ⟨fun x hx => h.1 x (List.mem_append_left _ hx), (List.nodup_append.1 h.2).1⟩
theorem unq_filter {l : List Int} (h : Unq l) (p : Int → Bool) : Unq (l.filter p) := ⟨fun x hx => h.1 x (List.mem_filter.1 hx).1, h.2.sublist List.filter_sublist⟩
theorem unq_app {l : List Int} {x : Int} (h : Unq l) (h1 : 1 ≤ x) (h2 : x ≤ 24) (h3 : x ∉ l) : Unq (l ++ [x]) := by
  refine ⟨fun y hy => ?_, List.nodup_append.2 ⟨h.2, by simp, fun a ha b hb => ?_⟩⟩
  · rcases List.mem_append.1 hy with hy | hy
    · exact h.1 y hy
    · simp only [List.mem_singleton] at hy; omega
  · simp only [List.mem_singleton] at hb
    rintro rfl
    subst hb
    exact h3 ha
theorem two_len {l : List Int} {a b : Int} (ha : a ∈ l) (hb : b ∈ l) (hne : a ≠ b) : 2 ≤ l.length := by
  match l, ha, hb with
  | [x], ha, hb =>
    simp only [List.mem_singleton] at ha hb
    omega
  | _ :: _ :: _, _, _ => simp
theorem one_len {l : List Int} {a : Int} (ha : a ∈ l) : 1 ≤ l.length := by
  cases l with
  | nil => cases ha
  | cons x l => simp
/-- What a possible command makes of a configuration that may be: it may be; its nodes are those, or the command's; one that was settled is settled; what stays keeps its order. -/
structure Goes (c d : Cf) (nd : Int) : Prop where
  rgt : Rgt d
  ch : d.ch = c.ch
  ep : d.ep = c.ep + 1
  mem : ∀ x ∈ d.mem, x ∈ c.mem ∨ (x = nd ∧ 1 ≤ nd)
  set : ∃ x, x ∈ c.set ∧ x ∈ d.set
  ns : ∃ (p : Int → Bool) (ex : List Int), d.ns = c.ns.filter p ++ ex ∧ ex.length ≤ 1 ∧ ∀ x ∈ ex, x ∉ c.ns
theorem set_rgt {c : Cf} (h : Rgt c) : c.set = if c.fr then c.ns.take (c.ns.length - 1) else c.ns := if_pos h
theorem filter_all (l : List Int) : l.filter (fun _ => true) ++ [] = l := by simp
theorem made_goes {l : List Cf} {c : Cf} {k nd : Int} (hc : Rgt c) (hk : 1 ≤ k) (hk4 : k ≤ 4) (h1 : 1 ≤ nd) (h2 : nd ≤ 24) (hu : usedB l nd = false → nd ∉ c.mem) (h : canK l c k nd = 0) (he : c.ep ≠ topE) (he2 : c.ep ≤ topE) :
    Goes c (madeC c k nd) nd ∧ (∀ x ∈ (madeC c k nd).mem, x ∈ c.mem ∨ usedB l x = false) := by
  have hset := set_rgt hc
  obtain ⟨r1, r2, r3, r4, r5, r6, r7⟩ := hc
  have hun := unq_ns r7
  have hsp := ns_split r4
  have hlast := last_mem r4
  have hc : Rgt c := ⟨r1, r2, r3, r4, r5, r6, r7⟩
  unfold canK at h
  by_cases k1 : k = 1
  · rw [if_pos k1] at h
    by_cases hm : nd ∉ c.mem
    · rw [if_pos hm] at h; cases h
    rw [if_neg hm] at h
    by_cases ha : ∀ x ∈ c.set, x = nd
    · rw [if_pos ha] at h; cases h
    obtain ⟨x, hx, hxn⟩ : ∃ x, x ∈ c.set ∧ x ≠ nd := by
      refine Classical.byContradiction fun hno => ha fun x hx => Classical.byContradiction fun hne => hno ⟨x, hx, hne⟩
    by_cases hj : c.jn = nd
    · have hmd : madeC c k nd = ⟨c.ch, c.ep + 1, c.ns, c.fr, 0⟩ := by unfold madeC; rw [if_pos k1, if_pos hj]
      have hr : Rgt ⟨c.ch, c.ep + 1, c.ns, c.fr, 0⟩ := ⟨r1, r2, by show 1 ≤ c.ep + 1; omega, r4, r5, fun hf => ⟨(r6 hf).1, rfl⟩, hun⟩
      have hmem : ∀ y ∈ (Cf.mk c.ch (c.ep + 1) c.ns c.fr 0).mem, y ∈ c.mem := fun y hy => ns_mem hy
      rw [hmd]
      refine ⟨⟨hr, rfl, rfl, fun y hy => .inl (hmem y hy), ⟨x, hx, ?_⟩, ⟨fun _ => true, [], (filter_all _).symm, by simp, fun _ h => by cases h⟩⟩, fun y hy => .inl (hmem y hy)⟩
      rw [set_rgt hr]
      rw [hset] at hx
      exact hx
    · have hmd : madeC c k nd = ⟨c.ch, c.ep + 1, c.ns.filter (fun x => decide (x ≠ nd)), c.fr && decide (c.last ≠ nd), c.jn⟩ := by unfold madeC; rw [if_pos k1, if_neg hj]
      have hxns : x ∈ c.ns := by
        rw [hset] at hx
        split at hx
        · exact List.mem_of_mem_take hx
        · exact hx
      have hxf : x ∈ c.ns.filter (fun x => decide (x ≠ nd)) := List.mem_filter.2 ⟨hxns, by simpa using hxn⟩
      have hmem : ∀ y ∈ (Cf.mk c.ch (c.ep + 1) (c.ns.filter (fun x => decide (x ≠ nd))) (c.fr && decide (c.last ≠ nd)) c.jn).mem, y ∈ c.mem := by
        intro y hy
        unfold Cf.mem at hy ⊢
        simp only at hy
        split at hy
        · rename_i hj0
          rw [if_pos hj0]
          exact (List.mem_filter.1 hy).1
        · rename_i hj0
          rw [if_neg hj0]
          rcases List.mem_append.1 hy with hy | hy
          · exact List.mem_append_left _ (List.mem_filter.1 hy).1
          · exact List.mem_append_right _ hy
      have hlen : (c.ns.filter (fun x => decide (x ≠ nd))).length ≤ c.ns.length := List.length_filter_le _ _
      have hr : Rgt ⟨c.ch, c.ep + 1, c.ns.filter (fun x => decide (x ≠ nd)), c.fr && decide (c.last ≠ nd), c.jn⟩ := by
        refine ⟨r1, r2, by show 1 ≤ c.ep + 1; omega, one_len hxf, Nat.le_trans hlen r5, fun hf => ?_, ?_⟩
        · simp only [Bool.and_eq_true, decide_eq_true_eq] at hf
          have hfr := hf.1
          refine ⟨two_len hxf (List.mem_filter.2 ⟨hlast, by simpa using hf.2⟩) ?_, (r6 hfr).2⟩
          rintro rfl
          rw [hset, if_pos hfr] at hx
          have := hun.2
          rw [hsp] at this
          exact (List.nodup_append.1 this).2.2 _ hx _ (by simp) rfl
        · unfold Cf.mem
          simp only
          split
          · exact unq_filter hun _
          · rename_i hj0
            unfold Cf.mem at r7
            rw [if_neg hj0] at r7
            have hj1 := r7.1 c.jn (by simp)
            exact unq_app (unq_filter hun _) hj1.1 hj1.2 (fun hy => (List.nodup_append.1 r7.2).2.2 _ (List.mem_filter.1 hy).1 _ (by simp) rfl)
      rw [hmd]
      refine ⟨⟨hr, rfl, rfl, fun y hy => .inl (hmem y hy), ⟨x, hx, ?_⟩, ⟨_, [], (List.append_nil _).symm, by simp, fun _ h => by cases h⟩⟩, fun y hy => .inl (hmem y hy)⟩
      rw [set_rgt hr]
      by_cases hf : (c.fr && decide (c.last ≠ nd)) = true
      · rw [if_pos hf]
        simp only [Bool.and_eq_true, decide_eq_true_eq] at hf
        rw [hset, if_pos hf.1] at hx
        have hfl : c.ns.filter (fun x => decide (x ≠ nd)) = (c.ns.take (c.ns.length - 1)).filter (fun x => decide (x ≠ nd)) ++ [c.last] := by
          have := congrArg (List.filter (fun x => decide (x ≠ nd))) hsp
          rw [this, List.filter_append]
          simp [hf.2]
        show x ∈ (c.ns.filter _).take _
        have hl : (Cf.mk c.ch (c.ep + 1) (c.ns.filter (fun x => decide (x ≠ nd))) (c.fr && decide (c.last ≠ nd)) c.jn).ns.length - 1 = ((c.ns.take (c.ns.length - 1)).filter (fun x => decide (x ≠ nd))).length := by
          show (c.ns.filter _).length - 1 = _
          rw [hfl, List.length_append]; simp
        rw [hl, hfl, List.take_append_of_le_length (Nat.le_refl _), List.take_length]
        exact List.mem_filter.2 ⟨hx, by simpa using hxn⟩
      · rw [if_neg hf]
        exact hxf
  rw [if_neg k1] at h
  by_cases k2 : k = 2
  · rw [if_pos k2] at h
    by_cases hus : usedB l nd = true
    · rw [if_pos hus] at h; cases h
    rw [if_neg hus] at h
    by_cases hj : c.jn ≠ 0 ∨ c.fr = true
    · rw [if_pos hj] at h; cases h
    rw [if_neg hj] at h
    by_cases h5 : 5 ≤ c.ns.length
    · rw [if_pos h5] at h; cases h
    have hf : c.fr = false := by cases hh : c.fr with | false => rfl | true => exact absurd (.inr hh) hj
    have hj0 : c.jn = 0 := Classical.byContradiction fun hh => hj (.inl hh)
    have hus' : usedB l nd = false := by cases hh : usedB l nd with | false => rfl | true => exact absurd hh hus
    have hnn : nd ∉ c.ns := fun hh => hu hus' (ns_mem hh)
    have hmd : madeC c k nd = ⟨c.ch, c.ep + 1, c.ns, c.fr, nd⟩ := by unfold madeC; rw [if_neg k1, if_pos k2]
    have hme : (Cf.mk c.ch (c.ep + 1) c.ns c.fr nd).mem = c.ns ++ [nd] := if_neg (by show ¬ nd = 0; omega)
    have hr : Rgt ⟨c.ch, c.ep + 1, c.ns, c.fr, nd⟩ := ⟨r1, r2, by show 1 ≤ c.ep + 1; omega, r4, r5, (fun hh => absurd (hf.symm.trans hh) (by decide)), by rw [hme]; exact unq_app hun h1 h2 hnn⟩
    rw [hmd]
    refine ⟨⟨hr, rfl, rfl, fun y hy => ?_, ?_, ⟨fun _ => true, [], (filter_all _).symm, by simp, fun _ h => by cases h⟩⟩, fun y hy => ?_⟩
    · rw [hme] at hy
      rcases List.mem_append.1 hy with hy | hy
      · exact .inl (ns_mem hy)
      · simp only [List.mem_singleton] at hy; exact .inr ⟨hy, h1⟩
    · refine ⟨c.last, ?_, ?_⟩
      · rw [hset, hf]; exact hlast
      · rw [set_rgt hr]; simp only [hf]; exact hlast
    · rw [hme] at hy
      rcases List.mem_append.1 hy with hy | hy
      · exact .inl (ns_mem hy)
      · simp only [List.mem_singleton] at hy; subst hy; exact .inr hus'
  rw [if_neg k2] at h
  by_cases k3 : k = 3
  · rw [if_pos k3] at h
    by_cases hj : c.jn ≠ nd
    · rw [if_pos hj] at h; cases h
    rw [if_neg hj] at h
    have hj' : c.jn = nd := Classical.byContradiction hj
    by_cases h5 : 5 ≤ c.ns.length
    · rw [if_pos h5] at h; cases h
    have hf : c.fr = false := by
      cases hh : c.fr with
      | false => rfl
      | true => have := (r6 hh).2; omega
    have hcm : c.mem = c.ns ++ [nd] := by unfold Cf.mem; rw [if_neg (by omega), hj']
    have hmd : madeC c k nd = ⟨c.ch, c.ep + 1, c.ns ++ [nd], true, 0⟩ := by unfold madeC; rw [if_neg k1, if_neg k2, if_pos k3]
    have hme : (Cf.mk c.ch (c.ep + 1) (c.ns ++ [nd]) true 0).mem = c.ns ++ [nd] := if_pos rfl
    have hr : Rgt ⟨c.ch, c.ep + 1, c.ns ++ [nd], true, 0⟩ := ⟨r1, r2, by show 1 ≤ c.ep + 1; omega, by simp, by simp; omega, fun _ => ⟨by simp; omega, rfl⟩, by rw [hme, ← hcm]; exact r7⟩
    rw [hmd]
    refine ⟨⟨hr, rfl, rfl, fun y hy => .inl (by rw [hme] at hy; rw [hcm]; exact hy), ?_, ⟨fun _ => true, [nd], by rw [List.filter_eq_self.2 (fun _ _ => rfl)], by simp, fun y hy => ?_⟩⟩, fun y hy => .inl (by rw [hme] at hy; rw [hcm]; exact hy)⟩
    · refine ⟨c.last, ?_, ?_⟩
      · rw [hset, hf]; exact hlast
      · rw [set_rgt hr]
        show c.last ∈ (if true = true then (c.ns ++ [nd]).take ((c.ns ++ [nd]).length - 1) else _)
        rw [if_pos rfl, List.length_append]
        simp only [List.length_cons, List.length_nil, Nat.zero_add, Nat.add_sub_cancel]
        rw [List.take_append_of_le_length (Nat.le_refl _), List.take_length]
        exact hlast
    · simp only [List.mem_singleton] at hy
      subst hy
      rw [hcm] at r7
      exact fun hh => (List.nodup_append.1 r7.2).2.2 _ hh _ (by simp) rfl
  rw [if_neg k3] at h
  by_cases hx : c.fr = false ∨ c.last ≠ nd
  · rw [if_pos hx] at h; cases h
  have hf : c.fr = true := by cases hh : c.fr with | true => rfl | false => exact absurd (.inl hh) hx
  have hmd : madeC c k nd = ⟨c.ch, c.ep + 1, c.ns, false, c.jn⟩ := by unfold madeC; rw [if_neg k1, if_neg k2, if_neg k3]
  have hme : (Cf.mk c.ch (c.ep + 1) c.ns false c.jn).mem = c.mem := rfl
  have hr : Rgt ⟨c.ch, c.ep + 1, c.ns, false, c.jn⟩ := ⟨r1, r2, by show 1 ≤ c.ep + 1; omega, r4, r5, (fun hh => by cases hh), by rw [hme]; exact r7⟩
  rw [hmd]
  have h2l := (r6 hf).1
  refine ⟨⟨hr, rfl, rfl, fun y hy => .inl hy, ?_, ⟨fun _ => true, [], (filter_all _).symm, by simp, fun _ h => by cases h⟩⟩, fun y hy => .inl hy⟩
  refine ⟨c.ns.getD 0 0, ?_, ?_⟩
  · rw [hset, if_pos hf]
    have : (c.ns.take (c.ns.length - 1)).getD 0 0 = c.ns.getD 0 0 := by
      rw [List.getD_eq_getElem?_getD, List.getD_eq_getElem?_getD, List.getElem?_take, if_pos (by omega)]
    rw [← this, getD_at (by simp; omega)]
    exact List.getElem_mem _
  · rw [set_rgt hr]
    show c.ns.getD 0 0 ∈ (if false = true then _ else c.ns)
    rw [if_neg (by decide), getD_at (by omega)]
    exact List.getElem_mem _
theorem nthC_set {l : List Cf} {i j : Nat} {d : Cf} (h : i < l.length) : nthC (l.set i d) j = if j = i then d else nthC l j := by
  unfold nthC
  rw [List.getD_eq_getElem?_getD, List.getD_eq_getElem?_getD, List.getElem?_set]
  by_cases e : i = j
  · subst e; simp [h]
  · rw [if_neg e, if_neg (fun x => e x.symm)]
theorem usedB_iff {l : List Cf} {x : Int} : usedB l x = true ↔ ∃ i, i < l.length ∧ x ∈ (nthC l i).mem := by
  constructor
  · intro h
    unfold usedB at h
    obtain ⟨c, hc, hx⟩ := List.any_eq_true.1 h
    obtain ⟨i, hi, rfl⟩ := List.getElem_of_mem hc
    exact ⟨i, hi, by rw [nthC_at hi]; simpa using hx⟩
  · rintro ⟨i, hi, hx⟩
    exact usedB_hit hi hx
theorem usedT_iff {l : List Cf} {k : Nat} {x : Int} (hk : k ≤ l.length) : usedB (l.take k) x = true ↔ ∃ i, i < k ∧ x ∈ (nthC l i).mem := by
  rw [usedB_iff]
  constructor
  · rintro ⟨i, hi, hx⟩
    rw [List.length_take] at hi
    refine ⟨i, by omega, ?_⟩
    have : nthC (l.take k) i = nthC l i := by
      unfold nthC
      rw [List.getD_eq_getElem?_getD, List.getD_eq_getElem?_getD, List.getElem?_take, if_pos (by omega)]
    rwa [this] at hx
  · rintro ⟨i, hi, hx⟩
    refine ⟨i, by rw [List.length_take]; omega, ?_⟩
    have : nthC (l.take k) i = nthC l i := by
      unfold nthC
      rw [List.getD_eq_getElem?_getD, List.getD_eq_getElem?_getD, List.getElem?_take, if_pos (by omega)]
    rwa [this]
theorem all_apart {l : List Cf} (h : AllC l) {i j : Nat} (hij : i < j) (hj : j < l.length) {x : Int} (hx : x ∈ (nthC l i).mem) : x ∉ (nthC l j).mem := by
  intro hy
  have := (h.2.2 j hj).2.2 x hy
  rw [(usedT_iff (by omega)).2 ⟨i, hij, hx⟩] at this
  cases this
theorem apart_all {l : List Cf} (h1 : 1 ≤ l.length) (h4 : l.length ≤ 4) (h : ∀ i, i < l.length → Rgt (nthC l i) ∧ (nthC l i).ch = i) (ha : ∀ i j x, i < j → j < l.length → x ∈ (nthC l i).mem → x ∉ (nthC l j).mem) : AllC l := by
  refine ⟨h1, h4, fun i hi => ⟨(h i hi).1, (h i hi).2, fun x hx => ?_⟩⟩
  cases hu : usedB (l.take i) x with
  | false => rfl
  | true =>
    obtain ⟨j, hj, hxj⟩ := (usedT_iff (by omega)).1 hu
    exact absurd hx (ha j i x hj hi hxj)
/-- Configurations that may be, with a command that is possible, may be. -/
theorem do_all {l : List Cf} {k ch nd : Int} (hA : AllC l) (hk : 1 ≤ k) (hk4 : k ≤ 4) (h0 : 0 ≤ ch) (hch : ch < l.length) (h1 : 1 ≤ nd) (h2 : nd ≤ 24) (h : canK l (nthC l ch.toNat) k nd = 0) (he : (nthC l ch.toNat).ep ≠ topE) (he2 : (nthC l ch.toNat).ep ≤ topE) :
    AllC (l.set ch.toNat (madeC (nthC l ch.toNat) k nd)) ∧ Goes (nthC l ch.toNat) (madeC (nthC l ch.toNat) k nd) nd := by
  obtain ⟨i, rfl⟩ := Int.eq_ofNat_of_zero_le h0
  rw [Int.toNat_natCast] at *
  have hi : i < l.length := by omega
  obtain ⟨hr, hc, _⟩ := hA.2.2 i hi
  have hu : usedB l nd = false → nd ∉ (nthC l i).mem := fun hu hm => by rw [usedB_hit hi hm] at hu; cases hu
  obtain ⟨hg, hm⟩ := made_goes hr hk hk4 h1 h2 hu h he he2
  refine ⟨apart_all (by simpa using hA.1) (by simpa using hA.2.1) (fun j hj => ?_) (fun a b x hab hb hx hy => ?_), hg⟩
  · rw [List.length_set] at hj
    rw [nthC_set hi]
    split
    · rename_i e
      subst e
      exact ⟨hg.rgt, by rw [hg.ch, hc]⟩
    · exact ⟨(hA.2.2 j hj).1, (hA.2.2 j hj).2.1⟩
  · rw [List.length_set] at hb
    rw [nthC_set hi] at hx hy
    by_cases ea : a = i
    · subst ea
      rw [if_pos rfl] at hx
      rw [if_neg (by omega)] at hy
      rcases hm x hx with hx | hx
      · exact all_apart hA hab hb hx hy
      · rw [usedB_hit hb hy] at hx; cases hx
    · rw [if_neg ea] at hx
      by_cases eb : b = i
      · subst eb
        rw [if_pos rfl] at hy
        rcases hm x hy with hy | hy
        · exact all_apart hA hab hb hx hy
        · rw [usedB_hit (show a < l.length by omega) hx] at hy; cases hy
      · rw [if_neg eb] at hy
        exact all_apart hA hab hb hx hy
end Go.Proofs.Ytbacnkndllifaaa
