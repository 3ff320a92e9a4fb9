/-
  slices.DeleteFunc over a bag's items.
-/
import Derived.Test.YteinjmhogkneoaaBagV
namespace Go.Proofs.Yteinjmhogkneoaa
open Go.RowKit
set_option linter.unusedVariables false

/-- What DeleteFunc leaves: the items that stay, in their place. -/
def DfP (B : Nat) (a : Option Addr) (c : Nat) (gs : List Int) (l : List It) (w : World) (e : Ending) (w' : World) : Prop :=
  e = .returned (.slice a (stays gs l).length c) ∧ w'.ownsRow B 66 2 (.slice a (stays gs l).length c) (stays gs l).length (cel (stays gs l)) ∧ Kept (fun k => some k = (Value.slice a l.length c).ownBlock) w w'
/-- Where the loop stands: jj items have been looked at. -/
def DfI (r c : Nat) (gs : List Int) (l : List It) (w wr : World) (jj : Nat) : Prop :=
  ∃ cur : Array Value, wr.heap[r]? = some (.cells cur 66 (0, 0)) ∧ cur.size = c * 2 ∧ cur.toList.take ((stays gs (l.take jj)).length * 2) = cel (stays gs (l.take jj)) ∧ (∀ m, jj ≤ m → m < l.length → cur[m * 2]? = some (.int .i64 (nth l m).1) ∧ cur[m * 2 + 1]? = some (.int .i64 (nth l m).2)) ∧ Kept (One r) w wr
theorem DfI.keep {r c : Nat} {gs : List Int} {l : List It} {w wr w2 : World} {jj : Nat} (h : DfI r c gs l w wr jj) (hk : Kept NoB wr w2) : DfI r c gs l w w2 jj := by
  obtain ⟨cur, h1, h2, h3, h4, h5⟩ := h
  exact ⟨cur, hk.heap (fun h => h) h1, h2, h3, h4, h5.trans hk (fun _ _ h => h.elim)⟩
theorem DfI.skip {r c : Nat} {gs : List Int} {l : List It} {w wr : World} {jj : Nat} (h : DfI r c gs l w wr jj) (hj : jj < l.length) (hm : (nth l jj).1 ∈ gs) : DfI r c gs l w wr (jj + 1) ∧ (stays gs (l.take (jj + 1))).length = (stays gs (l.take jj)).length := by
  obtain ⟨cur, h1, h2, h3, h4, h5⟩ := h
  have e : stays gs (l.take (jj + 1)) = stays gs (l.take jj) := by rw [stays_take gs l jj hj, if_pos hm, List.append_nil]
  exact ⟨⟨cur, h1, h2, by rw [e]; exact h3, fun m hm1 hm2 => h4 m (by omega) hm2, h5⟩, by rw [e]⟩
theorem DfI.put {r c i : Nat} {gs : List Int} {l : List It} {w wr : World} {jj : Nat} (h : DfI r c gs l w wr jj) (hj : jj < l.length) (hm : (nth l jj).1 ∉ gs) (hi : i = (stays gs (l.take jj)).length) (hij : i < jj) (hlc : l.length ≤ c) :
    DfI r c gs l w ((wr.setCell ⟨r, i * 2, none⟩ (.int .i64 (nth l jj).1)).setCell ⟨r, i * 2 + 1, none⟩ (.int .i64 (nth l jj).2)) (jj + 1) ∧ (stays gs (l.take (jj + 1))).length = i + 1 := by
  obtain ⟨cur, h1, h2, h3, h4, h5⟩ := h
  have e : stays gs (l.take (jj + 1)) = stays gs (l.take jj) ++ [nth l jj] := by rw [stays_take gs l jj hj, if_neg hm]
  have e2 : (stays gs (l.take (jj + 1))).length = i + 1 := by rw [e, List.length_append, ← hi]; rfl
  refine ⟨⟨_, blk_set (blk_set h1 (i * 2) _) (i * 2 + 1) _, by simpa using h2, ?_, fun m hm1 hm2 => ?_, (h5.one _ _).one _ _⟩, e2⟩
  · rw [e2, e, cel_app, ← h3, ← hi]
    simp only [Array.toList_setIfInBounds]
    have hl : i * 2 + 1 < cur.toList.length := by rw [Array.length_toList, h2]; omega
    rw [show (i + 1) * 2 = i * 2 + 1 + 1 by omega, List.take_add_one, List.getElem?_set_self (by simpa using hl), List.take_set_of_le (Nat.le_refl _), List.take_add_one, List.getElem?_set_self (by omega), List.take_set_of_le (Nat.le_refl _)]
    simp [cel]
  · rw [Array.getElem?_setIfInBounds, if_neg (by omega), Array.getElem?_setIfInBounds, if_neg (by omega), Array.getElem?_setIfInBounds, if_neg (by omega), Array.getElem?_setIfInBounds, if_neg (by omega)]
    exact h4 m (by omega) hm2

set_option maxRecDepth 100000 in
set_option maxHeartbeats 1000000 in
theorem DeleteFunc_any (B c b5 : Nat) (a : Option Addr) (l : List It) (gs : List Int) (w : World) (hown : w.ownsRow B 66 2 (.slice a l.length c) l.length (cel l)) (hg : GnAt w b5 gs) (hinc : IncN gs) (hl : l.length ≤ 100000) (hgl : gs.length ≤ 100000) :
    Calls Try.prog 33 #[.slice a l.length c, .func (.func 34) #[] #[.pointer (some ⟨b5, 0, none⟩)]] w (DfP B a c gs l w) := by
  have HO := Lib.hid hown
  have HG := Lib.hid hg
  have HI := Lib.hid hinc
  have HX := Lib.hid (IndexFunc_any B c b5 a l gs w hown hg hinc hl hgl)
  clear hown hg hinc
  go_enter Try.func33, Try.ntmps33
  go_wp2_with fail
  refine HX.out.mono ?_
  rintro e w1 ⟨r0, rfl, hk1, (⟨rfl, hnone⟩ | ⟨k, rfl, hk, hno, hyes⟩)⟩
  · have HK1 := Lib.hid hk1
    have HS := Lib.hid (stays_none hnone)
    clear hk1 hnone
    go_wp2
    go_ret
    unfold DfP
    rw [HS.out]
    exact ⟨rfl, row_kept HO.out HK1.out (fun _ _ h => h), HK1.out.mono (fun _ _ h => h.elim)⟩
  · obtain ⟨r, rfl, hBr, hrl, hcell, hfr, hlc, hcm, cur, hcur, hcs, hct⟩ := Bg.items HO.out (by omega)
    unfold maxLen at hcm
    have hst : stays gs (l.take (k + 1)) = l.take k := by
      rw [stays_take gs l k hk, if_pos hyes, List.append_nil]
      exact stays_none (fun i hi => by
        rw [List.length_take] at hi
        rw [nth_take (by omega)]
        exact hno i (by omega))
    have hd0 : DfI r c gs l w w1 (k + 1) := by
      refine ⟨cur, hk1.heap (fun h => h) hcur, hcs, ?_, fun m hm1 hm2 => ?_, hk1.mono (fun _ _ h => h.elim)⟩
      · rw [hst, cel_take, List.length_take, Nat.min_eq_left (by omega), ← hct, List.take_take, Nat.min_eq_left (by omega)]
      · have h1 := (cell_of_row w r (m * 2) _ _ _ hcur).symm.trans (hcell m hm2).1
        have h2 := (cell_of_row w r (m * 2 + 1) _ _ _ hcur).symm.trans (hcell m hm2).2
        exact ⟨h1, h2⟩
    have hlen0 : (stays gs (l.take (k + 1))).length = k := by rw [hst, List.length_take]; omega
    have HD0 := Lib.hid hd0
    have HL0 := Lib.hid hlen0
    have HG1 := Lib.hid (HG.out.no hk1)
    have hkm : decide ((k : Int) = -1) = false := by simp <;> omega
    have hkm2 : ((k : Int) == -1) = false := by simp <;> omega
    clear hcell hfr hcur hcs hct hst hd0 hlen0 hno hyes hk1
    go_wp2
    go_loopw [5, 6] (fun i j wr => ∃ ii jj : Nat, i = .int .i64 ii ∧ j = .int .i64 jj ∧ ii = (stays gs (l.take jj)).length ∧ ii < jj ∧ jj ≤ l.length ∧ DfI r c gs l w wr jj ∧ GnAt wr b5 gs) (fun _ j _ => l.length - (intOf j).toNat)
    case atStart => exact ⟨k, k + 1, rfl, by go_num, HL0.out.symm, by omega, by omega, HD0.out, HG1.out⟩
    case round =>
      obtain ⟨ii, jj, rfl, rfl, hii, hlt, hjl, hdi, hgn⟩ := hrel
      have HII := Lib.hid hii
      have HDI := Lib.hid hdi
      have HGN := Lib.hid hgn
      obtain ⟨cur, hcur, hcs, _, hce, _⟩ := hdi
      clear hii hgn
      by_cases hj : jj < l.length
      · obtain ⟨c0, c1⟩ := hce jj (Nat.le_refl _) hj
        have e0 := (cell_of_row wr r (jj * 2) _ _ _ hcur).trans c0
        have e1 := (cell_of_row wr r (jj * 2 + 1) _ _ _ hcur).trans c1
        obtain ⟨x, hx⟩ : ∃ x, x = (nth l jj).1 := ⟨_, rfl⟩
        obtain ⟨y, hy⟩ : ∃ y, y = (nth l jj).2 := ⟨_, rfl⟩
        rw [← hx] at e0
        rw [← hy] at e1
        have HXX := Lib.hid hx
        have HYY := Lib.hid hy
        have hj1 : (jj : Int) < (l.length : Int) := by omega
        have hb0 := heap_alloc_new wr (.cells #[.int .i64 x, .int .i64 y] 66)
        have HC := Lib.hid (Keep1_any b5 gs x y _ (HGN.out.no ((Kept.refl NoB wr).alloc (.cells #[.int .i64 x, .int .i64 y] 66))) HI.out hgl)
        have HB0 := Lib.hid hb0
        have HCUR := Lib.hid hcur
        clear hcur hcs hce c0 c1 hx hy hb0
        go_wp2_with fail
        refine HC.out.mono ?_
        rintro e w2 ⟨rfl, hk2⟩
        have hk3 := (((Kept.refl NoB wr).alloc (.cells #[.int .i64 x, .int .i64 y] 66)).trans hk2 (fun _ _ h => h))
        have HD2 := Lib.hid (HDI.out.keep hk3)
        have HG2 := Lib.hid (HGN.out.no hk3)
        have hb2 := hk2.heap (fun h => h) HB0.out
        have v0 : w2.cell? ⟨wr.heap.size, 0, none⟩ = some (.int .i64 x) := cell_of_row _ _ 0 _ _ _ hb2
        have v1 : w2.cell? ⟨wr.heap.size, 1, none⟩ = some (.int .i64 y) := cell_of_row _ _ 1 _ _ _ hb2
        have hnot : ∀ (x : Bool) (w : World), (Op.unary .not (.bool x)).run Try.prog w = .ok (.bool (!x)) w := fun _ _ => rfl
        by_cases hm : x ∈ gs
        · rw [decide_eq_true hm]
          have HMM := Lib.hid (HD2.out.skip hj (by rw [← HXX.out]; exact hm))
          clear hm hk2 hk3 hb2
          go_wp2
          exact ⟨⟨ii, jj + 1, rfl, by go_num, by rw [HMM.out.2]; exact HII.out, by omega, by omega, HMM.out.1, HG2.out⟩, by simp [intOf]; omega⟩
        · rw [decide_eq_false hm]
          have hp := HD2.out.put hj (by rw [← HXX.out]; exact hm) HII.out hlt hlc
          rw [← HXX.out, ← HYY.out] at hp
          have hk4 : Kept (One r) w2 ((w2.setCell ⟨r, ii * 2, none⟩ (.int .i64 x)).setCell ⟨r, ii * 2 + 1, none⟩ (.int .i64 y)) := ((Kept.refl (One r) w2).one _ _).one _ _
          obtain ⟨cur2, hcur2, hcs2, _⟩ := HD2.out
          have hgn4 := HG2.out.kept hk4 (fun k cs t fr hh ht h => by
            have h : k = r := h
            subst h
            rw [hcur2] at hh
            injection hh with hh
            injection hh with _ hh
            exact ht hh.symm)
          have HP := Lib.hid hp
          have HG4 := Lib.hid hgn4
          have i0 : (ii : Int) < (l.length : Int) := by omega
          obtain ⟨u0, hu0⟩ : ∃ u, w2.cell? ⟨r, ii * 2, none⟩ = some u := ⟨_, (cell_of_row w2 r (ii * 2) _ _ _ hcur2).trans (Array.getElem?_eq_getElem (by omega))⟩
          obtain ⟨u1, hu1⟩ : ∃ u, w2.cell? ⟨r, ii * 2 + 1, none⟩ = some u := ⟨_, (cell_of_row w2 r (ii * 2 + 1) _ _ _ hcur2).trans (Array.getElem?_eq_getElem (by omega))⟩
          have z0 : w2.frozen? ⟨r, ii * 2, none⟩ = false := blk_frozen0 hcur2 _
          have z1 : w2.frozen? ⟨r, ii * 2 + 1, none⟩ = false := blk_frozen0 hcur2 _
          clear hm hk2 hk3 hb2 hp hk4 hcur2 hcs2 hgn4
          go_wp2
          exact ⟨⟨ii + 1, jj + 1, by go_num, by go_num, HP.out.2.symm, by omega, by omega, HP.out.1, HG4.out⟩, by simp [intOf]; omega⟩
      · obtain rfl : jj = l.length := by omega
        have hlen : (stays gs l).length = ii := by have := HII.out; rw [List.take_length] at this; exact this.symm
        have hfr : ∀ o, wr.frozen? ⟨r, o, none⟩ = false := fun o => blk_frozen0 hcur o
        obtain ⟨zs, hzs, hclr⟩ := run_clear_two (P := Try.prog) wr 50 66 0 Try.underlying50 _ (fun w => Try.zeroValue66 w) _ _ rfl rfl rfl r (ii * 2) (l.length - ii - 1) (c - ii)
          (fun j hj => by rw [cell_of_row wr r (ii * 2 + j) _ _ _ hcur, Array.getElem?_eq_getElem (by omega)]; rfl) (fun j _ => hfr _)
        rw [show l.length - ii - 1 + 1 = l.length - ii by omega] at hclr hzs
        have HZS := Lib.hid hzs
        have HLEN := Lib.hid hlen
        have HCUR := Lib.hid hcur
        have HCS := Lib.hid hcs
        have i0 : (ii : Int) ≤ (l.length : Int) := by omega
        have i1 : (ii : Int) ≤ (c : Int) := by omega
        have i2 : ¬ (c = ii) := by omega
        clear hce hfr hzs hlen hcur hcs
        go_wp2
        go_ret
        obtain ⟨cur', h1, h2, h3, _, h5⟩ := HDI.out
        have hlen := HLEN.out
        have hzs := HZS.out
        rw [List.take_length, hlen] at h3
        have hcl : cur'.toList.length = c * 2 := by simpa using h2
        obtain ⟨cur3, k1, k2, k3⟩ := heap_setCells zs (ii * 2) wr cur' h1 (by omega)
        refine ⟨by rw [hlen]; rfl, ?_, ?_⟩
        · rw [hlen]
          refine ⟨by rw [cel_len, hlen], .inr ⟨r, c, cur3, rfl, hBr, k1, by omega, by unfold maxLen; omega, by omega, ?_⟩⟩
          rw [k3, List.append_assoc, List.take_append_of_le_length (by rw [List.length_take]; omega), List.take_of_length_le (by rw [List.length_take]; omega)]
          exact h3
        · exact (kept_setCells (S := One r) (.inl rfl) zs (ii * 2) wr h5).mono (fun i _ h => by have h : i = r := h; rw [h]; rfl)
end Go.Proofs.Yteinjmhogkneoaa
