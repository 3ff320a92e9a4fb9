/-
  slices.DeleteFunc over numbers in a row of the call's own.
-/
import Derived.Test.YtbdenjmnohhhiaaDoorCnfZ
import Derived.Lib.SliceRun
namespace Go.Proofs.YtbdenjmnohhhiaaDoor
open Go.RowKit
set_option linter.unusedVariables false

theorem bset1 {w : World} {g : Nat} {cs : Array Value} {t : TypeId} {fr : Nat × Nat} (h : w.heap[g]? = some (.cells cs t fr)) (i : Nat) (u : Value) :
    (w.setCell ⟨g, i, none⟩ u).heap[g]? = some (.cells (cs.setIfInBounds i u) t fr) := by simp [World.setCell, Array.getElem?_modify, h]
theorem heap_puts {g : Nat} {t : TypeId} {fr : Nat × Nat} : ∀ (vs : List Value) (o : Nat) (w : World) (cur : Array Value), w.heap[g]? = some (.cells cur t fr) → o + vs.length ≤ cur.size →
    ∃ cur', (w.setCells g o vs).heap[g]? = some (.cells cur' t fr) ∧ cur'.size = cur.size ∧ cur'.toList = cur.toList.take o ++ vs ++ cur.toList.drop (o + vs.length)
  | [], o, w, cur, h, hl => ⟨cur, h, rfl, by simp⟩
  | v :: vs, o, w, cur, h, hl => by
    simp only [List.length_cons] at hl
    obtain ⟨cur', h1, h2, h3⟩ := heap_puts vs (o + 1) (w.setCell ⟨g, o, none⟩ v) (cur.setIfInBounds o v) (bset1 h o v) (by simp; omega)
    refine ⟨cur', h1, by simpa using h2, ?_⟩
    rw [h3, Array.toList_setIfInBounds]
    have hlt : o < cur.toList.length := by simp; omega
    have e1 : (cur.toList.set o v).take (o + 1) = cur.toList.take o ++ [v] := by
      rw [List.take_succ_eq_append_getElem (by simpa using hlt)]
      simp [List.take_set_of_le]
    rw [e1, List.drop_set_of_lt (by omega)]
    simp only [List.append_assoc, List.cons_append, List.nil_append, List.length_cons]
    rw [show o + 1 + vs.length = o + (vs.length + 1) by omega]
theorem kept_puts {S : Nat → Prop} {g : Nat} {a : World} (hS : S g ∨ a.heap.size ≤ g) : ∀ (vs : List Value) (o : Nat) (w : World), Kept S a w → Kept S a (w.setCells g o vs)
  | [], _, _, h => h
  | v :: vs, o, w, h => kept_puts hS vs (o + 1) _ (h.setCell (p := ⟨g, o, none⟩) hS v)
theorem zero_int (w : World) : (zeroValue 3).run Tryd.prog w = .ok (.int .i64 0) w := by kernel_rfl
set_option maxRecDepth 100000 in
/-- The first place where p holds. -/
theorem IndexP_any (v : Value) (l : List Int) (f : FuncId) (caps : Array Value) (p : Int → Bool) (F : Nat → Prop) (w : World) (h : NSl w F v l) (hp : TellsN f caps l p w) :
    Calls Tryd.prog 88 #[v, .func (.func f) #[] caps] w fun e w' => (∃ r : Int, e = .returned (.int .i64 r) ∧ ((r = -1 ∧ l.any p = false) ∨ (∃ k : Nat, r = k ∧ k < l.length ∧ (l.take k).any p = false ∧ p (l.getD k 0) = true))) ∧ Kept NoB w w' := by
  obtain ⟨a, cap, rfl, _⟩ := id h
  have hl := len_le h
  have H := Lib.hid h
  have HP := Lib.hid hp.2
  have hent : ∀ (args : Array Value) (w : World), Sem.run Tryd.prog (callFunc f args) w = .ok (.enter f args) w := hp.1
  clear h hp
  go_enter Tryd.func88, Tryd.ntmps88
  go_wp2
  go_loopw [8] (fun i wr => ∃ k : Nat, i = .int .i64 k ∧ k ≤ l.length ∧ (l.take k).any p = false ∧ Kept NoB w wr) (fun i _ => l.length - (intOf i).toNat)
  case atStart => exact ⟨0, rfl, Nat.zero_le _, by simp, Kept.refl _ _⟩
  case round =>
    obtain ⟨k, rfl, hk, hno, hkk⟩ := hrel
    have HN := Lib.hid hno
    have HK := Lib.hid hkk
    clear hno hkk
    by_cases hlt : k < l.length
    · obtain ⟨b, o, rfl, _, _, hc⟩ := (H.out.kept HK.out (fun _ _ _ h => h)).at_ hlt
      have HT := Lib.hid (take_one hlt)
      have HA : Hid (l.getD k 0 ∈ l) := Lib.hid (by rw [getD_at hlt]; exact List.getElem_mem _)
      obtain ⟨y, hy⟩ : ∃ y, y = l.getD k 0 := ⟨_, rfl⟩
      have HY := Lib.hid hy
      rw [← hy] at hc HT HA
      have hk1 : (k : Int) < (l.length : Int) := by omega
      have HC := Lib.hid (HP.out y wr HA.out HK.out)
      clear hy
      cases hpy : p y with
      | true =>
        rw [hpy] at HC
        have HPY : Hid (p (l.getD k 0) = true) := Lib.hid (by rw [← HY.out]; exact hpy)
        clear hpy
        go_wp2_with fail
        refine HC.out.mono ?_
        rintro e w2 ⟨rfl, hk2⟩
        have HK2 := Lib.hid (HK.out.trans hk2 (fun _ _ h => h))
        clear hk2
        go_wp2
        go_ret
        exact ⟨⟨_, rfl, .inr ⟨k, rfl, hlt, HN.out, HPY.out⟩⟩, HK2.out⟩
      | false =>
        rw [hpy] at HC
        have HPY : Hid ((l.take (k + 1)).any p = false) := Lib.hid (by rw [HT.out, List.any_append, HN.out]; simp [hpy])
        clear hpy
        go_wp2_with fail
        refine HC.out.mono ?_
        rintro e w2 ⟨rfl, hk2⟩
        have HK2 := Lib.hid (HK.out.trans hk2 (fun _ _ h => h))
        clear hk2
        go_wp2
        exact ⟨⟨k + 1, by go_num, by omega, HPY.out, HK2.out⟩, by simp [intOf]; omega⟩
    · obtain rfl : k = l.length := by omega
      go_wp2
      go_ret
      exact ⟨⟨_, rfl, .inl ⟨rfl, by have := HN.out; rwa [List.take_length] at this⟩⟩, HK.out⟩
abbrev keep (l : List Int) (p : Int → Bool) : List Int := l.filter (fun y => !p y)
theorem keep_take {l : List Int} {p : Int → Bool} {k : Nat} (h : k < l.length) : keep (l.take (k + 1)) p = keep (l.take k) p ++ if p (l.getD k 0) = true then [] else [l.getD k 0] := by
  unfold keep
  rw [take_one h, List.filter_append]
  congr 1
  cases hp : p (l.getD k 0) with
  | true => rw [if_pos rfl]; simpa using hp
  | false => rw [if_neg (by decide)]; simpa using hp
theorem keep_all {l : List Int} {p : Int → Bool} (h : l.any p = false) : keep l p = l := by
  unfold keep
  rw [List.filter_eq_self]
  intro x hx
  have := List.any_eq_false.1 h x hx
  simpa using this
theorem keep_le (l : List Int) (p : Int → Bool) : (keep l p).length ≤ l.length := List.length_filter_le _ _
/-- Where the loop stands: jj numbers have been looked at. -/
def DelI (g c : Nat) (p : Int → Bool) (l : List Int) (w wr : World) (jj : Nat) : Prop :=
  ∃ cur : Array Value, wr.heap[g]? = some (.cells cur 3 (0, 0)) ∧ cur.size = c ∧ cur.toList.take (keep (l.take jj) p).length = ivs (keep (l.take jj) p) ∧ (∀ m, jj ≤ m → m < l.length → cur[m]? = some (.int .i64 (l.getD m 0))) ∧ Kept (fun k => k = g) w wr
theorem DelI.keep {g c : Nat} {p : Int → Bool} {l : List Int} {w wr w2 : World} {jj : Nat} (h : DelI g c p l w wr jj) (hk : Kept NoB wr w2) : DelI g c p l w w2 jj := by
  obtain ⟨cur, h1, h2, h3, h4, h5⟩ := h
  exact ⟨cur, hk.heap (fun h => h) h1, h2, h3, h4, h5.trans hk (fun _ _ h => h.elim)⟩
theorem DelI.skip {g c : Nat} {p : Int → Bool} {l : List Int} {w wr : World} {jj : Nat} (h : DelI g c p l w wr jj) (hj : jj < l.length) (hm : p (l.getD jj 0) = true) : DelI g c p l w wr (jj + 1) ∧ (Go.Proofs.YtbdenjmnohhhiaaDoor.keep (l.take (jj + 1)) p).length = (Go.Proofs.YtbdenjmnohhhiaaDoor.keep (l.take jj) p).length := by
  obtain ⟨cur, h1, h2, h3, h4, h5⟩ := h
  have e : Go.Proofs.YtbdenjmnohhhiaaDoor.keep (l.take (jj + 1)) p = Go.Proofs.YtbdenjmnohhhiaaDoor.keep (l.take jj) p := by rw [keep_take hj, if_pos hm, List.append_nil]
  exact ⟨⟨cur, h1, h2, by rw [e]; exact h3, fun m hm1 hm2 => h4 m (by omega) hm2, h5⟩, by rw [e]⟩
theorem DelI.put {g c i : Nat} {p : Int → Bool} {l : List Int} {w wr : World} {jj : Nat} (h : DelI g c p l w wr jj) (hj : jj < l.length) (hm : p (l.getD jj 0) = false) (hi : i = (Go.Proofs.YtbdenjmnohhhiaaDoor.keep (l.take jj) p).length) (hij : i < jj) (hlc : l.length ≤ c) :
    DelI g c p l w (wr.setCell ⟨g, i, none⟩ (.int .i64 (l.getD jj 0))) (jj + 1) ∧ (Go.Proofs.YtbdenjmnohhhiaaDoor.keep (l.take (jj + 1)) p).length = i + 1 := by
  obtain ⟨cur, h1, h2, h3, h4, h5⟩ := h
  have e : Go.Proofs.YtbdenjmnohhhiaaDoor.keep (l.take (jj + 1)) p = Go.Proofs.YtbdenjmnohhhiaaDoor.keep (l.take jj) p ++ [l.getD jj 0] := by rw [keep_take hj, if_neg (by rw [hm]; decide)]
  have e2 : (Go.Proofs.YtbdenjmnohhhiaaDoor.keep (l.take (jj + 1)) p).length = i + 1 := by rw [e, List.length_append, ← hi]; rfl
  refine ⟨⟨_, bset1 h1 i _, by simpa using h2, ?_, fun m hm1 hm2 => ?_, h5.setCell (p := ⟨g, i, none⟩) (.inl rfl) _⟩, e2⟩
  · rw [e2, e]
    unfold ivs
    rw [List.map_append]
    have h3' : cur.toList.take i = (Go.Proofs.YtbdenjmnohhhiaaDoor.keep (l.take jj) p).map (Value.int .i64) := by rw [hi]; exact h3
    rw [← h3']
    simp only [Array.toList_setIfInBounds]
    have hl : i < cur.toList.length := by rw [Array.length_toList, h2]; omega
    rw [List.take_add_one, List.getElem?_set_self (by simpa using hl), List.take_set_of_le (Nat.le_refl _)]
    simp
  · rw [Array.getElem?_setIfInBounds, if_neg (by omega)]
    exact h4 m (by omega) hm2
theorem IOwn.parts {B : Nat} {w : World} {a : Option Addr} {n c : Nat} {l : List Int} (h : IOwn B w (.slice a n c) l) (hl : 0 < l.length) :
    ∃ g cur, a = some ⟨g, 0, none⟩ ∧ B ≤ g ∧ w.heap[g]? = some (.cells cur 3 (0, 0)) ∧ cur.size = c ∧ l.length ≤ c ∧ c ≤ maxLen ∧ ∀ m, m < l.length → cur[m]? = some (.int .i64 (l.getD m 0)) := by
  rcases h.2 with ⟨_, h0⟩ | ⟨g, cap, cur, hv, hb, hr, hc, hm, hs, ht⟩
  · omega
  · injection hv with hv hn hcap
    subst hcap
    refine ⟨g, cur, hv, hb, hr, by omega, hc, hm, fun m hm => ?_⟩
    have : (ivs l)[m]? = some (.int .i64 (l.getD m 0)) := by
      unfold ivs
      rw [List.getElem?_map, List.getElem?_eq_getElem hm, getD_at hm]
      rfl
    rw [← ht, List.getElem?_take, if_pos (by omega)] at this
    simpa using this
set_option maxRecDepth 100000 in
set_option maxHeartbeats 1000000 in
theorem Delete_any (B c : Nat) (a : Option Addr) (l : List Int) (f : FuncId) (caps : Array Value) (p : Int → Bool) (w : World) (hown : IOwn B w (.slice a l.length c) l) (hl : l.length ≤ 1000)
    (hent : ∀ (args : Array Value) (w : World), Sem.run Tryd.prog (callFunc f args) w = .ok (.enter f args) w)
    (hp : ∀ x w', x ∈ l → Kept (fun k => (Value.slice a l.length c).ownBlock = some k) w w' → Calls Tryd.prog f (#[.int .i64 x] ++ caps) w' (BoolE (p x) w')) :
    Calls Tryd.prog 78 #[.slice a l.length c, .func (.func f) #[] caps] w fun e w' =>
      e = .returned (.slice a (keep l p).length c) ∧ IOwn B w' (.slice a (keep l p).length c) (keep l p) ∧ Kept (fun k => (Value.slice a l.length c).ownBlock = some k) w w' := by
  have HO := Lib.hid hown
  have HX := Lib.hid (IndexP_any _ l f caps p _ w hown.nslB ⟨hent, fun x w' hx hk => hp x w' hx (hk.mono (fun _ _ h => h.elim))⟩)
  have HP := Lib.hid hp
  clear hown hp
  go_enter Tryd.func78, Tryd.ntmps78
  go_wp2_with fail
  refine HX.out.mono ?_
  rintro e w1 ⟨⟨r0, rfl, (⟨rfl, hnone⟩ | ⟨k, rfl, hk, hno, hyes⟩)⟩, hk1⟩
  · have HK1 := Lib.hid hk1
    have HS := Lib.hid (keep_all hnone)
    clear hk1 hnone
    go_wp2
    go_ret
    rw [HS.out]
    exact ⟨rfl, row_keptI HO.out HK1.out (fun _ _ h => h), HK1.out.mono (fun _ _ h => h.elim)⟩
  · obtain ⟨g, cur, rfl, hBg, hcur, hcs, hlc, hcm, hcell⟩ := HO.out.parts (by omega)
    unfold maxLen at hcm
    have hst : keep (l.take (k + 1)) p = l.take k := by
      rw [keep_take hk, if_pos hyes, List.append_nil]
      exact keep_all hno
    have hd0 : DelI g c p l w w1 (k + 1) := by
      refine ⟨cur, hk1.heap (fun h => h) hcur, hcs, ?_, fun m hm1 hm2 => hcell m hm2, hk1.mono (fun _ _ h => h.elim)⟩
      rw [hst]
      refine List.ext_getElem? fun m => ?_
      rw [List.getElem?_take, List.length_take]
      split
      · rename_i hm
        have := hcell m (by omega)
        rw [Array.getElem?_toList, this]
        unfold ivs
        rw [List.getElem?_map, List.getElem?_take, if_pos (by omega), List.getElem?_eq_getElem (by omega), getD_at (by omega)]
        rfl
      · rename_i hm
        rw [List.getElem?_eq_none (by simp [ivs]; omega)]
    have hlen0 : (keep (l.take (k + 1)) p).length = k := by rw [hst, List.length_take]; omega
    have HD0 := Lib.hid hd0
    have HL0 := Lib.hid hlen0
    have hkm2 : ((k : Int) == -1) = false := by simp <;> omega
    clear hcell hcur hcs hst hd0 hlen0 hno hyes hk1
    go_wp2
    go_loopw [5, 6, 7] (fun i j _ wr => ∃ ii jj : Nat, i = .int .i64 ii ∧ j = .int .i64 jj ∧ ii = (keep (l.take jj) p).length ∧ ii < jj ∧ jj ≤ l.length ∧ DelI g c p l w wr jj) (fun _ j _ _ => l.length - (intOf j).toNat)
    case atStart => exact ⟨k, k + 1, rfl, by go_num, HL0.out.symm, by omega, by omega, HD0.out⟩
    case round =>
      obtain ⟨ii, jj, rfl, rfl, hii, hlt, hjl, hdi⟩ := hrel
      have HII := Lib.hid hii
      have HDI := Lib.hid hdi
      obtain ⟨cur, hcur, hcs, _, hce, hkd⟩ := hdi
      clear hii
      by_cases hj : jj < l.length
      · have e0 := (cell_of_row wr g jj _ _ _ hcur).trans (hce jj (Nat.le_refl _) hj)
        have HA : Hid (l.getD jj 0 ∈ l) := Lib.hid (by rw [getD_at hj]; exact List.getElem_mem _)
        obtain ⟨x, hx⟩ : ∃ x, x = l.getD jj 0 := ⟨_, rfl⟩
        rw [← hx] at e0 HA
        have HXX := Lib.hid hx
        have hj1 : (jj : Int) < (l.length : Int) := by omega
        have HC := Lib.hid (HP.out x wr HA.out (hkd.mono (fun i _ h => by rw [h]; rfl)))
        clear hcur hcs hce hkd hx
        have hnot : ∀ (x : Bool) (w : World), (Op.unary .not (.bool x)).run Tryd.prog w = .ok (.bool (!x)) w := fun _ _ => rfl
        go_wp2_with fail
        refine HC.out.mono ?_
        rintro e w2 ⟨rfl, hk2⟩
        have HD2 := Lib.hid (HDI.out.keep hk2)
        cases hm : p x with
        | true =>
          have HMM := Lib.hid (HD2.out.skip hj (by rw [← HXX.out]; exact hm))
          clear hm hk2
          go_wp2
          exact ⟨⟨ii, jj + 1, rfl, by go_num, by rw [HMM.out.2]; exact HII.out, by omega, by omega, HMM.out.1⟩, by simp [intOf]; omega⟩
        | false =>
          have hput := HD2.out.put hj (by rw [← HXX.out]; exact hm) HII.out hlt hlc
          rw [← HXX.out] at hput
          have HPU := Lib.hid hput
          obtain ⟨cur2, hcur2, hcs2, _⟩ := HD2.out
          have i0 : (ii : Int) < (l.length : Int) := by omega
          obtain ⟨u0, hu0⟩ : ∃ u, w2.cell? ⟨g, ii, none⟩ = some u := ⟨_, (cell_of_row w2 g ii _ _ _ hcur2).trans (Array.getElem?_eq_getElem (by omega))⟩
          have z0 : w2.frozen? ⟨g, ii, none⟩ = false := by simp [World.frozen?, hcur2]
          clear hm hk2 hput hcur2 hcs2
          go_wp2
          exact ⟨⟨ii + 1, jj + 1, by go_num, by go_num, HPU.out.2.symm, by omega, by omega, HPU.out.1⟩, by simp [intOf]; omega⟩
      · obtain rfl : jj = l.length := by omega
        have hlen : (keep l p).length = ii := by have := HII.out; rw [List.take_length] at this; exact this.symm
        have hclr := Lib.run_clear_slice (P := Tryd.prog) wr 23 3 0 (.int .i64 0) Tryd.underlying23 (fun w => zero_int w) rfl rfl g ii (l.length - ii) (c - ii) (by omega)
          (fun j hj => by rw [cell_of_row wr g (ii + j) _ _ _ hcur, Array.getElem?_eq_getElem (by omega)]; rfl) (fun j _ => by simp [World.frozen?, hcur])
        have HLEN := Lib.hid hlen
        have HCUR := Lib.hid hcur
        have HCS := Lib.hid hcs
        have i0 : (ii : Int) ≤ (l.length : Int) := by omega
        have i1 : (ii : Int) ≤ (c : Int) := by omega
        have i2 : ¬ (c = ii) := by omega
        clear hce hlen hcur hcs hkd
        go_wp2
        go_ret
        obtain ⟨cur', h1, h2, h3, _, h5⟩ := HDI.out
        have hlen := HLEN.out
        rw [List.take_length, hlen] at h3
        have hcl : cur'.toList.length = c := by simpa using h2
        obtain ⟨cur3, k1, k2, k3⟩ := heap_puts (List.replicate (l.length - ii) (.int .i64 0)) ii wr cur' h1 (by simp; omega)
        refine ⟨by rw [hlen]; rfl, ?_, ?_⟩
        · refine ⟨by simp [ivs], .inr ⟨g, c, cur3, rfl, hBg, k1, by omega, by unfold maxLen; omega, by omega, ?_⟩⟩
          rw [Nat.mul_one, k3, List.append_assoc, hlen, List.take_append_of_le_length (by rw [List.length_take]; omega), List.take_of_length_le (by rw [List.length_take]; omega)]
          exact h3
        · exact (kept_puts (S := fun k => k = g) (.inl rfl) _ ii wr h5).mono (fun i _ h => by rw [h]; rfl)
end Go.Proofs.YtbdenjmnohhhiaaDoor
