/-
  Package conf: whether a command of each kind is possible: Append, Promote, Settle. Package conf: whether a command is possible. The chapter's can: without one number; each kind. slices.DeleteFunc over numbers in a row of the call's own. Package conf: Can of anything. A row of configurations, one of which is turned; the rules that turn one. Package conf: the rule that removes. Package conf: Do.
-/
import Derived.Test.YtclfecninhipnaaGreatDoorCnf3
import Derived.Lib.SliceRun
namespace Go.Proofs.YtclfecninhipnaaGreatDoor
open Go.RowKit
set_option linter.unusedVariables false

theorem k2_is (l : List Cf) (c : Cf) (nd : Int) (u : Bool) (hu : u = usedB l nd) : canK l c 2 nd = if u = true then 8 else if c.jn ≠ 0 ∨ c.fr = true then 12 else if 5 ≤ c.ns.length then 9 else 0 := by
  unfold canK; rw [if_neg (by decide), if_pos rfl, hu]
theorem k3_is (l : List Cf) (c : Cf) (nd : Int) : canK l c 3 nd = if c.jn ≠ nd then 7 else if 5 ≤ c.ns.length then 9 else 0 := by
  unfold canK; rw [if_neg (by decide), if_neg (by decide), if_pos rfl]
theorem k4_is (l : List Cf) (c : Cf) (nd : Int) : canK l c 4 nd = if c.fr = false ∨ c.last ≠ nd then 7 else 0 := by
  unfold canK; rw [if_neg (by decide), if_neg (by decide), if_neg (by decide)]
end Go.Proofs.YtclfecninhipnaaGreatDoor
namespace Go.Proofs.YtclfecninhipnaaGreatDoor
open Go.RowKit
set_option linter.unusedVariables false

/-- The last part's error. -/
def endE (r ep : Int) : Int := if r ≠ 0 then r else if ep = topE then 9 else 0
theorem All_yes (v : Value) (l : List Cf) (F : Nat → Prop) (w : World) (h : CfsAt w F v l) (hA : AllC l) : Calls Tryz.prog 27 #[v] w (BoolE true w) := by
  have := All_any v l F w h
  rwa [show allB l = true from decide_eq_true hA] at this
theorem All_no (v : Value) (l : List Cf) (F : Nat → Prop) (w : World) (h : CfsAt w F v l) (hA : ¬ AllC l) : Calls Tryz.prog 27 #[v] w (BoolE false w) := by
  have := All_any v l F w h
  rwa [show allB l = false from decide_eq_false hA] at this
theorem cells4c {w : World} {b : Nat} {x0 x1 x2 x3 : Value} {t : TypeId} (h : w.heap[b]? = some (.cells #[x0, x1, x2, x3] t (0, 0))) :
    w.cell? ⟨b, 0, none⟩ = some x0 ∧ w.cell? ⟨b, 1, none⟩ = some x1 ∧ w.cell? ⟨b, 2, none⟩ = some x2 ∧ w.cell? ⟨b, 3, none⟩ = some x3 :=
  ⟨cell_of_row _ _ 0 _ _ _ h, cell_of_row _ _ 1 _ _ _ h, cell_of_row _ _ 2 _ _ _ h, cell_of_row _ _ 3 _ _ _ h⟩
end Go.Proofs.YtclfecninhipnaaGreatDoor
namespace Go.Proofs.YtclfecninhipnaaGreatDoor
open Go.RowKit
set_option linter.unusedVariables false

abbrev wo (l : List Int) (x : Int) : List Int := l.filter (fun y => decide (y ≠ x))
theorem wo_take {l : List Int} {x : Int} {k : Nat} (h : k < l.length) : wo (l.take (k + 1)) x = wo (l.take k) x ++ if l.getD k 0 = x then [] else [l.getD k 0] := by
  unfold wo
  rw [take_one h, List.filter_append]
  congr 1
  by_cases hx : l.getD k 0 = x
  · rw [if_pos hx]; simpa using hx
  · rw [if_neg hx]; simpa using hx
end Go.Proofs.YtclfecninhipnaaGreatDoor
namespace Go.Proofs.YtclfecninhipnaaGreatDoor
open Go.RowKit
set_option linter.unusedVariables false

theorem bset1 {w : World} {g : Nat} {cs : Array Value} {t : TypeId} {fr : Nat × Nat} (h : w.heap[g]? = some (.cells cs t fr)) (i : Nat) (u : Value) :
    (w.setCell ⟨g, i, none⟩ u).heap[g]? = some (.cells (cs.setIfInBounds i u) t fr) := by simp [World.setCell, Array.getElem?_modify, h]
theorem heap_puts {g : Nat} {t : TypeId} {fr : Nat × Nat} : ∀ (vs : List Value) (o : Nat) (w : World) (cur : Array Value), w.heap[g]? = some (.cells cur t fr) → o + vs.length ≤ cur.size →
    ∃ cur', (w.setCells g o vs).heap[g]? = some (.cells cur' t fr) ∧ cur'.size = cur.size ∧ cur'.toList = cur.toList.take o ++ vs ++ cur.toList.drop (o + vs.length)
  | [], o, w, cur, h, hl => ⟨cur, h, rfl, by simp⟩
  | v :: vs, o, w, cur, h, hl => by
    simp only [List.length_cons] at hl
    obtain ⟨cur', h1, h2, h3⟩ := heap_puts vs (o + 1) (w.setCell ⟨g, o, none⟩ v) (cur.setIfInBounds o v) (bset1 h o v) (by simp; omega)
    refine ⟨cur', h1, by simpa using h2, ?_⟩
    rw [h3, Array.toList_setIfInBounds]
    have hlt : o < cur.toList.length := by simp; omega
    have e1 : (cur.toList.set o v).take (o + 1) = cur.toList.take o ++ [v] := by
      rw [List.take_succ_eq_append_getElem (by simpa using hlt)]
      simp [List.take_set_of_le]
    rw [e1, List.drop_set_of_lt (by omega)]
    simp only [List.append_assoc, List.cons_append, List.nil_append, List.length_cons]
    rw [show o + 1 + vs.length = o + (vs.length + 1) by omega]
theorem kept_puts {S : Nat → Prop} {g : Nat} {a : World} (hS : S g ∨ a.heap.size ≤ g) : ∀ (vs : List Value) (o : Nat) (w : World), Kept S a w → Kept S a (w.setCells g o vs)
  | [], _, _, h => h
  | v :: vs, o, w, h => kept_puts hS vs (o + 1) _ (h.setCell (p := ⟨g, o, none⟩) hS v)
theorem zero_int (w : World) : (zeroValue 3).run Tryz.prog w = .ok (.int .i64 0) w := by kernel_rfl
set_option maxRecDepth 100000 in
/-- The first place where p holds. -/
theorem IndexP_any (v : Value) (l : List Int) (f : FuncId) (caps : Array Value) (p : Int → Bool) (F : Nat → Prop) (w : World) (h : NSl w F v l) (hp : TellsN f caps l p w) :
    Calls Tryz.prog 78 #[v, .func (.func f) #[] caps] w fun e w' => (∃ r : Int, e = .returned (.int .i64 r) ∧ ((r = -1 ∧ l.any p = false) ∨ (∃ k : Nat, r = k ∧ k < l.length ∧ (l.take k).any p = false ∧ p (l.getD k 0) = true))) ∧ Kept NoB w w' := by
  obtain ⟨a, cap, rfl, _⟩ := id h
  have hl := len_le h
  have H := Lib.hid h
  have HP := Lib.hid hp.2
  have hent : ∀ (args : Array Value) (w : World), Sem.run Tryz.prog (callFunc f args) w = .ok (.enter f args) w := hp.1
  clear h hp
  go_enter Tryz.func78, Tryz.ntmps78
  go_wp2
  go_loopw [8] (fun i wr => ∃ k : Nat, i = .int .i64 k ∧ k ≤ l.length ∧ (l.take k).any p = false ∧ Kept NoB w wr) (fun i _ => l.length - (intOf i).toNat)
  case atStart => exact ⟨0, rfl, Nat.zero_le _, by simp, Kept.refl _ _⟩
  case round =>
    obtain ⟨k, rfl, hk, hno, hkk⟩ := hrel
    have HN := Lib.hid hno
    have HK := Lib.hid hkk
    clear hno hkk
    by_cases hlt : k < l.length
    · obtain ⟨b, o, rfl, _, _, hc⟩ := (H.out.kept HK.out (fun _ _ _ h => h)).at_ hlt
      have HT := Lib.hid (take_one hlt)
      have HA : Hid (l.getD k 0 ∈ l) := Lib.hid (by rw [getD_at hlt]; exact List.getElem_mem _)
      obtain ⟨y, hy⟩ : ∃ y, y = l.getD k 0 := ⟨_, rfl⟩
      have HY := Lib.hid hy
      rw [← hy] at hc HT HA
      have hk1 : (k : Int) < (l.length : Int) := by omega
      have HC := Lib.hid (HP.out y wr HA.out HK.out)
      clear hy
      cases hpy : p y with
      | true =>
        rw [hpy] at HC
        have HPY : Hid (p (l.getD k 0) = true) := Lib.hid (by rw [← HY.out]; exact hpy)
        clear hpy
        go_wp2_with fail
        refine HC.out.mono ?_
        rintro e w2 ⟨rfl, hk2⟩
        have HK2 := Lib.hid (HK.out.trans hk2 (fun _ _ h => h))
        clear hk2
        go_wp2
        go_ret
        exact ⟨⟨_, rfl, .inr ⟨k, rfl, hlt, HN.out, HPY.out⟩⟩, HK2.out⟩
      | false =>
        rw [hpy] at HC
        have HPY : Hid ((l.take (k + 1)).any p = false) := Lib.hid (by rw [HT.out, List.any_append, HN.out]; simp [hpy])
        clear hpy
        go_wp2_with fail
        refine HC.out.mono ?_
        rintro e w2 ⟨rfl, hk2⟩
        have HK2 := Lib.hid (HK.out.trans hk2 (fun _ _ h => h))
        clear hk2
        go_wp2
        exact ⟨⟨k + 1, by go_num, by omega, HPY.out, HK2.out⟩, by simp [intOf]; omega⟩
    · obtain rfl : k = l.length := by omega
      go_wp2
      go_ret
      exact ⟨⟨_, rfl, .inl ⟨rfl, by have := HN.out; rwa [List.take_length] at this⟩⟩, HK.out⟩
abbrev keep (l : List Int) (p : Int → Bool) : List Int := l.filter (fun y => !p y)
theorem keep_take {l : List Int} {p : Int → Bool} {k : Nat} (h : k < l.length) : keep (l.take (k + 1)) p = keep (l.take k) p ++ if p (l.getD k 0) = true then [] else [l.getD k 0] := by
  unfold keep
  rw [take_one h, List.filter_append]
  congr 1
  cases hp : p (l.getD k 0) with
  | true => rw [if_pos rfl]; simpa using hp
  | false => rw [if_neg (by decide)]; simpa using hp
theorem keep_all {l : List Int} {p : Int → Bool} (h : l.any p = false) : keep l p = l := by
  unfold keep
  rw [List.filter_eq_self]
  intro x hx
  have := List.any_eq_false.1 h x hx
  simpa using this
theorem keep_le (l : List Int) (p : Int → Bool) : (keep l p).length ≤ l.length := List.length_filter_le _ _
/-- Where the loop stands: jj numbers have been looked at. -/
def DelI (g c : Nat) (p : Int → Bool) (l : List Int) (w wr : World) (jj : Nat) : Prop :=
  ∃ cur : Array Value, wr.heap[g]? = some (.cells cur 3 (0, 0)) ∧ cur.size = c ∧ cur.toList.take (keep (l.take jj) p).length = ivs (keep (l.take jj) p) ∧ (∀ m, jj ≤ m → m < l.length → cur[m]? = some (.int .i64 (l.getD m 0))) ∧ Kept (fun k => k = g) w wr
theorem DelI.keep {g c : Nat} {p : Int → Bool} {l : List Int} {w wr w2 : World} {jj : Nat} (h : DelI g c p l w wr jj) (hk : Kept NoB wr w2) : DelI g c p l w w2 jj := by
  obtain ⟨cur, h1, h2, h3, h4, h5⟩ := h
  exact ⟨cur, hk.heap (fun h => h) h1, h2, h3, h4, h5.trans hk (fun _ _ h => h.elim)⟩
theorem DelI.skip {g c : Nat} {p : Int → Bool} {l : List Int} {w wr : World} {jj : Nat} (h : DelI g c p l w wr jj) (hj : jj < l.length) (hm : p (l.getD jj 0) = true) : DelI g c p l w wr (jj + 1) ∧ (Go.Proofs.YtclfecninhipnaaGreatDoor.keep (l.take (jj + 1)) p).length = (Go.Proofs.YtclfecninhipnaaGreatDoor.keep (l.take jj) p).length := by
  obtain ⟨cur, h1, h2, h3, h4, h5⟩ := h
  have e : Go.Proofs.YtclfecninhipnaaGreatDoor.keep (l.take (jj + 1)) p = Go.Proofs.YtclfecninhipnaaGreatDoor.keep (l.take jj) p := by rw [keep_take hj, if_pos hm, List.append_nil]
  exact ⟨⟨cur, h1, h2, by rw [e]; exact h3, fun m hm1 hm2 => h4 m (by omega) hm2, h5⟩, by rw [e]⟩
theorem DelI.put {g c i : Nat} {p : Int → Bool} {l : List Int} {w wr : World} {jj : Nat} (h : DelI g c p l w wr jj) (hj : jj < l.length) (hm : p (l.getD jj 0) = false) (hi : i = (Go.Proofs.YtclfecninhipnaaGreatDoor.keep (l.take jj) p).length) (hij : i < jj) (hlc : l.length ≤ c) :
    DelI g c p l w (wr.setCell ⟨g, i, none⟩ (.int .i64 (l.getD jj 0))) (jj + 1) ∧ (Go.Proofs.YtclfecninhipnaaGreatDoor.keep (l.take (jj + 1)) p).length = i + 1 := by
  obtain ⟨cur, h1, h2, h3, h4, h5⟩ := h
  have e : Go.Proofs.YtclfecninhipnaaGreatDoor.keep (l.take (jj + 1)) p = Go.Proofs.YtclfecninhipnaaGreatDoor.keep (l.take jj) p ++ [l.getD jj 0] := by rw [keep_take hj, if_neg (by rw [hm]; decide)]
  have e2 : (Go.Proofs.YtclfecninhipnaaGreatDoor.keep (l.take (jj + 1)) p).length = i + 1 := by rw [e, List.length_append, ← hi]; rfl
  refine ⟨⟨_, bset1 h1 i _, by simpa using h2, ?_, fun m hm1 hm2 => ?_, h5.setCell (p := ⟨g, i, none⟩) (.inl rfl) _⟩, e2⟩
  · rw [e2, e]
    unfold ivs
    rw [List.map_append]
    have h3' : cur.toList.take i = (Go.Proofs.YtclfecninhipnaaGreatDoor.keep (l.take jj) p).map (Value.int .i64) := by rw [hi]; exact h3
    rw [← h3']
    simp only [Array.toList_setIfInBounds]
    have hl : i < cur.toList.length := by rw [Array.length_toList, h2]; omega
    rw [List.take_add_one, List.getElem?_set_self (by simpa using hl), List.take_set_of_le (Nat.le_refl _)]
    simp
  · rw [Array.getElem?_setIfInBounds, if_neg (by omega)]
    exact h4 m (by omega) hm2
theorem IOwn.parts {B : Nat} {w : World} {a : Option Addr} {n c : Nat} {l : List Int} (h : IOwn B w (.slice a n c) l) (hl : 0 < l.length) :
    ∃ g cur, a = some ⟨g, 0, none⟩ ∧ B ≤ g ∧ w.heap[g]? = some (.cells cur 3 (0, 0)) ∧ cur.size = c ∧ l.length ≤ c ∧ c ≤ maxLen ∧ ∀ m, m < l.length → cur[m]? = some (.int .i64 (l.getD m 0)) := by
  rcases h.2 with ⟨_, h0⟩ | ⟨g, cap, cur, hv, hb, hr, hc, hm, hs, ht⟩
  · omega
  · injection hv with hv hn hcap
    subst hcap
    refine ⟨g, cur, hv, hb, hr, by omega, hc, hm, fun m hm => ?_⟩
    have : (ivs l)[m]? = some (.int .i64 (l.getD m 0)) := by
      unfold ivs
      rw [List.getElem?_map, List.getElem?_eq_getElem hm, getD_at hm]
      rfl
    rw [← ht, List.getElem?_take, if_pos (by omega)] at this
    simpa using this
end Go.Proofs.YtclfecninhipnaaGreatDoor
namespace Go.Proofs.YtclfecninhipnaaGreatDoor
open Go.RowKit
set_option linter.unusedVariables false

abbrev cmdv (k ch ep nd : Int) : Value := .agg #[.int .i64 k, .int .i64 ch, .int .u64 ep, .int .i64 nd]
end Go.Proofs.YtclfecninhipnaaGreatDoor
namespace Go.Proofs.YtclfecninhipnaaGreatDoor
open Go.RowKit
set_option linter.unusedVariables false

def upd (us : Nat → Value) (j : Nat) (v : Value) : Nat → Value := fun i => if i = j then v else us i
theorem upd_at (us : Nat → Value) (j : Nat) (v : Value) : upd us j v j = v := if_pos rfl
theorem upd_far {us : Nat → Value} {i j : Nat} {v : Value} (h : i ≠ j) : upd us j v i = us i := if_neg h
theorem RowC.upd {w : World} {r cap : Nat} {l : List Cf} {us : Nat → Value} (h : RowC w r cap l us) {j : Nat} (hj : j < l.length) (c' : Cf) (v x : Value) (i : Nat) (hi : i < 5)
    (hc : ∀ i', i' < 5 → cellC (l.set j c') (upd us j v) (j * 5 + i') = if i' = i then x else cellC l us (j * 5 + i')) : RowC (w.setCell ⟨r, j * 5 + i, none⟩ x) r cap (l.set j c') (Go.Proofs.YtclfecninhipnaaGreatDoor.upd us j v) := by
  obtain ⟨cs, h1, h2, h3, h4, h5⟩ := h
  refine ⟨cs.setIfInBounds (j * 5 + i) x, bset1 h1 _ _, by simpa using h2, by rw [List.length_set]; exact h3, h4, fun m hm => ?_⟩
  rw [List.length_set] at hm
  rw [Array.getElem?_setIfInBounds]
  by_cases e : m / 5 = j
  · have hm5 : m = j * 5 + m % 5 := by omega
    rw [hm5, hc (m % 5) (by omega)]
    by_cases e2 : m % 5 = i
    · rw [if_pos (by omega), if_pos (by omega), if_pos e2]
    · rw [if_neg (by omega), if_neg e2, h5 _ (by omega)]
  · rw [if_neg (by omega), h5 m hm]
    congr 1
    unfold cellC
    rw [nthC_set hj, if_neg e, upd_far e]
theorem cell_set {l : List Cf} {us : Nat → Value} {j : Nat} (hj : j < l.length) (c' : Cf) (v : Value) (i' : Nat) (hi : i' < 5) :
    cellC (l.set j c') (upd us j v) (j * 5 + i') = if i' = 0 then .int .i64 c'.ch else if i' = 1 then .int .u64 c'.ep else if i' = 2 then v else if i' = 3 then .bool c'.fr else .int .i64 c'.jn := by
  rcases (by omega : i' = 0 ∨ i' = 1 ∨ i' = 2 ∨ i' = 3 ∨ i' = 4) with rfl | rfl | rfl | rfl | rfl
  · rw [Nat.add_zero, cellC0, nthC_set hj, if_pos rfl]; rfl
  · rw [cellC1, nthC_set hj, if_pos rfl]; rfl
  · rw [cellC2, upd_at]; rfl
  · rw [cellC3, nthC_set hj, if_pos rfl]; rfl
  · rw [cellC4, nthC_set hj, if_pos rfl]; rfl
theorem cell_old (l : List Cf) (us : Nat → Value) (j i' : Nat) (hi : i' < 5) :
    cellC l us (j * 5 + i') = if i' = 0 then .int .i64 (nthC l j).ch else if i' = 1 then .int .u64 (nthC l j).ep else if i' = 2 then us j else if i' = 3 then .bool (nthC l j).fr else .int .i64 (nthC l j).jn := by
  rcases (by omega : i' = 0 ∨ i' = 1 ∨ i' = 2 ∨ i' = 3 ∨ i' = 4) with rfl | rfl | rfl | rfl | rfl
  · rw [Nat.add_zero, cellC0]; rfl
  · rw [cellC1]; rfl
  · rw [cellC2]; rfl
  · rw [cellC3]; rfl
  · rw [cellC4]; rfl
theorem RowC.setFr {w : World} {r cap : Nat} {l : List Cf} {us : Nat → Value} (h : RowC w r cap l us) {j : Nat} (hj : j < l.length) (b : Bool) :
    RowC (w.setCell ⟨r, j * 5 + 3, none⟩ (.bool b)) r cap (l.set j { nthC l j with fr := b }) (Go.Proofs.YtclfecninhipnaaGreatDoor.upd us j (us j)) :=
  h.upd hj _ _ _ 3 (by decide) fun i' hi => by
    rw [cell_set hj _ _ _ hi, cell_old _ _ _ _ hi]
    rcases (by omega : i' = 0 ∨ i' = 1 ∨ i' = 2 ∨ i' = 3 ∨ i' = 4) with rfl | rfl | rfl | rfl | rfl <;> rfl
theorem RowC.setJn {w : World} {r cap : Nat} {l : List Cf} {us : Nat → Value} (h : RowC w r cap l us) {j : Nat} (hj : j < l.length) (n : Int) :
    RowC (w.setCell ⟨r, j * 5 + 4, none⟩ (.int .i64 n)) r cap (l.set j { nthC l j with jn := n }) (Go.Proofs.YtclfecninhipnaaGreatDoor.upd us j (us j)) :=
  h.upd hj _ _ _ 4 (by decide) fun i' hi => by
    rw [cell_set hj _ _ _ hi, cell_old _ _ _ _ hi]
    rcases (by omega : i' = 0 ∨ i' = 1 ∨ i' = 2 ∨ i' = 3 ∨ i' = 4) with rfl | rfl | rfl | rfl | rfl <;> rfl
theorem RowC.setEp {w : World} {r cap : Nat} {l : List Cf} {us : Nat → Value} (h : RowC w r cap l us) {j : Nat} (hj : j < l.length) (n : Int) :
    RowC (w.setCell ⟨r, j * 5 + 1, none⟩ (.int .u64 n)) r cap (l.set j { nthC l j with ep := n }) (Go.Proofs.YtclfecninhipnaaGreatDoor.upd us j (us j)) :=
  h.upd hj _ _ _ 1 (by decide) fun i' hi => by
    rw [cell_set hj _ _ _ hi, cell_old _ _ _ _ hi]
    rcases (by omega : i' = 0 ∨ i' = 1 ∨ i' = 2 ∨ i' = 3 ∨ i' = 4) with rfl | rfl | rfl | rfl | rfl <;> rfl
theorem RowC.setNs {w : World} {r cap : Nat} {l : List Cf} {us : Nat → Value} (h : RowC w r cap l us) {j : Nat} (hj : j < l.length) (v : Value) (ns : List Int) :
    RowC (w.setCell ⟨r, j * 5 + 2, none⟩ v) r cap (l.set j { nthC l j with ns := ns }) (Go.Proofs.YtclfecninhipnaaGreatDoor.upd us j v) :=
  h.upd hj _ _ _ 2 (by decide) fun i' hi => by
    rw [cell_set hj _ _ _ hi, cell_old _ _ _ _ hi]
    rcases (by omega : i' = 0 ∨ i' = 1 ∨ i' = 2 ∨ i' = 3 ∨ i' = 4) with rfl | rfl | rfl | rfl | rfl <;> rfl
theorem OwnC.upd {B : Nat} {S : Nat → Prop} {w w' : World} {l : List Cf} {us : Nat → Value} (h : OwnC B w l us) (hk : Kept S w w') {j : Nat} (hj : j < l.length) (c' : Cf) (v : Value)
    (hS : ∀ i, i < l.length → i ≠ j → ∀ k, (us i).ownBlock = some k → ¬ S k) (hv : IOwn B w' v c'.ns) (hb : 0 ≤ c'.ep ∧ c'.ep ≤ topE ∧ c'.ns.length ≤ 1000)
    (hap : ∀ i, i < l.length → i ≠ j → ∀ k, v.ownBlock = some k → (us i).ownBlock ≠ some k) : OwnC B w' (l.set j c') (Go.Proofs.YtclfecninhipnaaGreatDoor.upd us j v) := by
  refine ⟨fun i hi => ?_, fun i m k hi hm him h1 h2 => ?_⟩
  · rw [List.length_set] at hi
    rw [nthC_set hj]
    by_cases e : i = j
    · rw [if_pos e, e, upd_at]
      exact ⟨hv, hb⟩
    · rw [if_neg e, upd_far e]
      exact ⟨row_keptI (h.1 i hi).1 hk (hS i hi e), (h.1 i hi).2⟩
  · rw [List.length_set] at hi hm
    by_cases e : i = j
    · subst e
      rw [upd_at] at h1
      rw [upd_far (fun x => him x.symm)] at h2
      exact hap m hm (fun x => him x.symm) k h1 h2
    · rw [upd_far e] at h1
      by_cases e2 : m = j
      · subst e2
        rw [upd_at] at h2
        exact hap i hi e k h2 h1
      · rw [upd_far e2] at h2
        exact h.2 i m k hi hm him h1 h2
/-- A store into the row leaves all nodes as they were. -/
theorem OwnC.store {B r cap o : Nat} {w : World} {l : List Cf} {us : Nat → Value} (h : OwnC B w l us) (hr : RowC w r cap l us) {j : Nat} (hj : j < l.length) (c' : Cf) (x : Value) (hn : c'.ns = (nthC l j).ns) (hb : 0 ≤ c'.ep ∧ c'.ep ≤ topE) :
    OwnC B (w.setCell ⟨r, o, none⟩ x) (l.set j c') (Go.Proofs.YtclfecninhipnaaGreatDoor.upd us j (us j)) := by
  have hk : Kept (fun k => k = r) w (w.setCell ⟨r, o, none⟩ x) := (Kept.refl (fun k => k = r) w).setCell (p := ⟨r, o, none⟩) (.inl rfl) x
  refine h.upd hk hj c' _ (fun i hi _ k hk2 e => row_ne hr (h.1 i hi).1 (e ▸ hk2)) ?_ ⟨hb.1, hb.2, by rw [hn]; exact (h.1 j hj).2.2.2⟩ (fun i hi hij k h1 h2 => h.2 i j k hi hj hij h2 h1)
  rw [hn]
  exact row_keptI (h.1 j hj).1 hk (fun i h1 h2 => row_ne hr (h.1 j hj).1 (h2 ▸ h1))
def DoEnd (B r cap : Nat) (l' : List Cf) (w : World) (e : Ending) (w' : World) : Prop := e = .returned (.tuple #[]) ∧ (∃ us', RowC w' r cap l' us' ∧ OwnC B w' l' us') ∧ Kept (fun k => B ≤ k) w w'
/-- What a command makes, but for the epoch. -/
def turnC (c : Cf) (k nd : Int) : Cf := { madeC c k nd with ep := c.ep }
theorem turn2 (c : Cf) (nd : Int) : turnC c 2 nd = { c with jn := nd } := by unfold turnC madeC; rw [if_neg (by decide), if_pos rfl]
theorem turn3 (c : Cf) (nd : Int) : turnC c 3 nd = { c with ns := c.ns ++ [nd], fr := true, jn := 0 } := by unfold turnC madeC; rw [if_neg (by decide), if_neg (by decide), if_pos rfl]
theorem turn4 (c : Cf) (nd : Int) : turnC c 4 nd = { c with fr := false } := by unfold turnC madeC; rw [if_neg (by decide), if_neg (by decide), if_neg (by decide)]
theorem turn1 (c : Cf) (nd : Int) : turnC c 1 nd = if c.jn = nd then { c with jn := 0 } else { c with ns := c.ns.filter (fun x => decide (x ≠ nd)), fr := c.fr && decide (c.last ≠ nd) } := by
  unfold turnC madeC
  rw [if_pos rfl]
  split <;> rfl
theorem set_set (l : List Cf) (j : Nat) (a b : Cf) : (l.set j a).set j b = l.set j b := by simp
theorem nthC_sets {l : List Cf} {j : Nat} (hj : j < l.length) (a : Cf) : nthC (l.set j a) j = a := by rw [nthC_set hj, if_pos rfl]
theorem OwnC.kept {B : Nat} {S : Nat → Prop} {w w' : World} {l : List Cf} {us : Nat → Value} (h : OwnC B w l us) (hk : Kept S w w') (hS : ∀ i, i < l.length → ∀ k, (us i).ownBlock = some k → ¬ S k) : OwnC B w' l us :=
  ⟨fun i hi => ⟨row_keptI (h.1 i hi).1 hk (hS i hi), (h.1 i hi).2⟩, h.2⟩
theorem OwnC.slice {B : Nat} {w : World} {l : List Cf} {us : Nat → Value} (h : OwnC B w l us) {j : Nat} (hj : j < l.length) : ∃ a c, us j = .slice a (nthC l j).ns.length c := (h.1 j hj).1.form
theorem kept_le {B r o : Nat} {a w : World} (h : Kept (fun k => B ≤ k) a w) (hB : B ≤ r) (x : Value) : Kept (fun k => B ≤ k) a (w.setCell ⟨r, o, none⟩ x) := h.setCell (p := ⟨r, o, none⟩) (.inl hB) x
end Go.Proofs.YtclfecninhipnaaGreatDoor
namespace Go.Proofs.YtclfecninhipnaaGreatDoor
open Go.RowKit
set_option linter.unusedVariables false
set_option linter.unusedSimpArgs false

theorem keep_ne (l : List Int) (n : Int) : keep l (fun x => decide (x = n)) = l.filter (fun x => decide (x ≠ n)) := by
  unfold keep
  congr 1
  funext x
  simp
theorem last_two {c : Cf} {b : Bool} {nd : Int} (hj : c.jn ≠ nd) (hb : b = (c.fr && decide (c.last ≠ nd))) : turnC c 1 nd = { c with ns := c.ns.filter (fun x => decide (x ≠ nd)), fr := b } := by
  rw [turn1, if_neg hj, hb]
end Go.Proofs.YtclfecninhipnaaGreatDoor
namespace Go.Proofs.YtclfecninhipnaaGreatDoor
open Go.RowKit
set_option linter.unusedVariables false

theorem made_turn (c : Cf) (k nd : Int) : madeC c k nd = { turnC c k nd with ep := c.ep + 1 } := by
  unfold turnC madeC
  split
  · split <;> rfl
  · split
    · rfl
    · split <;> rfl
theorem turn_ep (c : Cf) (k nd : Int) : (turnC c k nd).ep = c.ep := rfl
/-- What Do tells. -/
def DoE (l' : List Cf) (ok : Bool) (w : World) (e : Ending) (w' : World) : Prop := ∃ v, e = .returned (.tuple #[v, .bool ok]) ∧ CfsAt w' (fun k => w.heap.size ≤ k) v l' ∧ Kept NoB w w'
theorem copy_cfs {l : List Cf} {w0 w w' : World} {e : Ending} (h : CopyEnd l w e w') (h0 : w0.heap.size ≤ w.heap.size) : ∃ a cap, e = .returned (.slice a l.length cap) ∧ CfsAt w' (fun k => w0.heap.size ≤ k) (.slice a l.length cap) l ∧ Kept NoB w w' := by
  obtain ⟨hk, ⟨rfl, a, c, rfl, hc, hn⟩ | ⟨r, cap, us, rfl, hr, hrow, hown⟩⟩ := h
  · exact ⟨a, c, rfl, ⟨a, c, rfl, Nat.zero_le _, hc, hn, fun h => absurd h (by simp)⟩, hk⟩
  · exact ⟨_, cap, rfl, (hrow.cfs hown.nodes hr).mono (fun k _ hk => Nat.le_trans h0 hk), hk⟩
theorem copy_ne {l : List Cf} {w w' : World} {e : Ending} (h : CopyEnd l w e w') (hl : 0 < l.length) : ∃ r cap us, e = .returned (.slice (some ⟨r, 0, none⟩) l.length cap) ∧ w.heap.size ≤ r ∧ RowC w' r cap l us ∧ OwnC w.heap.size w' l us ∧ Kept NoB w w' := by
  obtain ⟨hk, ⟨rfl, _⟩ | ⟨r, cap, us, rfl, hr, hrow, hown⟩⟩ := h
  · exact absurd hl (by simp)
  · exact ⟨r, cap, us, rfl, hr, hrow, hown, hk⟩
/-- The last two steps: the epoch rises; what lies there then. -/
theorem do_end (B r cap : Nat) (l : List Cf) (us : Nat → Value) (j : Nat) (k nd : Int) (w W : World) (hj : j < l.length) (hr : RowC W r cap (l.set j (turnC (nthC l j) k nd)) us) (ho : OwnC B W (l.set j (turnC (nthC l j) k nd)) us) (hB : B ≤ r) (hwB : w.heap.size ≤ B) (hk : Kept (fun k => B ≤ k) w W) (he0 : 0 ≤ (nthC l j).ep) (he : (nthC l j).ep ≠ topE) (he2 : (nthC l j).ep ≤ topE) :
    W.cell? ⟨r, j * 5 + 1, none⟩ = some (.int .u64 (nthC l j).ep) ∧ W.frozen? ⟨r, j * 5 + 1, none⟩ = false ∧
    CfsAt (W.setCell ⟨r, j * 5 + 1, none⟩ (.int .u64 ((nthC l j).ep + 1))) (fun k => w.heap.size ≤ k) (.slice (some ⟨r, 0, none⟩) l.length cap) (l.set j (madeC (nthC l j) k nd)) ∧ Kept NoB w (W.setCell ⟨r, j * 5 + 1, none⟩ (.int .u64 ((nthC l j).ep + 1))) := by
  have hj1 : j < (l.set j (turnC (nthC l j) k nd)).length := by rw [List.length_set]; exact hj
  obtain ⟨c1, f1⟩ := hr.cell (m := j * 5 + 1) (by omega)
  rw [cellC1, nthC_sets hj, turn_ep] at c1
  refine ⟨c1, f1, ?_, ?_⟩
  · have h1 := hr.setEp hj1 ((nthC l j).ep + 1)
    have h2 := ho.store hr (o := j * 5 + 1) hj1 { nthC (l.set j (turnC (nthC l j) k nd)) j with ep := (nthC l j).ep + 1 } (.int .u64 ((nthC l j).ep + 1)) rfl ⟨by show 0 ≤ (nthC l j).ep + 1; omega, by show (nthC l j).ep + 1 ≤ topE; omega⟩
    have h3 := h1.cfs (h2.nodes) hB
    rw [nthC_sets hj, set_set, ← made_turn, List.length_set] at h3
    exact h3.mono (fun k _ hk => Nat.le_trans hwB hk)
  · have hb := (hk.setCell (p := ⟨r, j * 5 + 1, none⟩) (.inl hB) (.int .u64 ((nthC l j).ep + 1)))
    exact ⟨hb.os, hb.tape, hb.output, hb.size, fun i hi _ => hb.block i hi (fun hB' => by have hB' : B ≤ i := hB'; omega)⟩
theorem doC_no {l : List Cf} {e0 k ch ep nd : Int} (h : canC l e0 k ch ep nd ≠ 0) : doC l e0 k ch ep nd = l := if_pos h
theorem doC_zero {l : List Cf} {e0 ch ep nd : Int} : doC l e0 0 ch ep nd = l := by unfold doC; split <;> rfl
theorem doC_yes {l : List Cf} {e0 k ch ep nd : Int} (h : canC l e0 k ch ep nd = 0) (hk : k ≠ 0) : doC l e0 k ch ep nd = l.set ch.toNat (madeC (nthC l ch.toNat) k nd) := by unfold doC; rw [if_neg (fun x => x h), if_neg hk]
end Go.Proofs.YtclfecninhipnaaGreatDoor
