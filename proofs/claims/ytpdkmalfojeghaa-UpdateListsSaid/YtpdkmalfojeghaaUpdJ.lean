/-
  Writing into updates of the call's own; the walk of UpdateLists.
-/
import Derived.Test.YtpdkmalfojeghaaUpdH
import Derived.Deep.RegionLaw
namespace Go.Proofs.Ytpdkmalfojeghaa
open Go.RowKit
set_option linter.unusedVariables false
set_option linter.unusedSimpArgs false

/-- A block of bytes, n of them at least. -/
def Nums17 (w : World) (b n : Nat) : Prop := ∃ cs, w.heap[b]? = some (.cells cs 5 (0, 0)) ∧ ∀ j, j < n → ∃ x, cs[j]? = some (Value.int .u8 x)
theorem Nums17.set {w : World} {b n : Nat} (h : Nums17 w b n) (b' i : Nat) (y : Int) : Nums17 (w.setCell ⟨b', i, none⟩ (.int .u8 y)) b n := by
  obtain ⟨cs, h1, h2⟩ := h
  by_cases hb : b' = b
  · subst hb
    refine ⟨_, blkU_set h1 i _, fun j hj => ?_⟩
    obtain ⟨x, hx⟩ := h2 j hj
    by_cases e : i = j
    · subst e
      have hlt : i < cs.size := by
        rcases Nat.lt_or_ge i cs.size with h | h
        · exact h
        · rw [Array.getElem?_eq_none h] at hx; cases hx
      exact ⟨y, by simp [hlt]⟩
    · exact ⟨x, by rw [Array.getElem?_setIfInBounds_ne e]; exact hx⟩
  · exact ⟨cs, blkU_set_other h1 i _ hb, h2⟩
theorem Nums17.set_other {w : World} {b n : Nat} (h : Nums17 w b n) (b' i : Nat) (y : Value) (hb : b' ≠ b) : Nums17 (w.setCell ⟨b', i, none⟩ y) b n := by
  obtain ⟨cs, h1, h2⟩ := h
  exact ⟨cs, blkU_set_other h1 i _ hb, h2⟩
theorem Own.nums17 {w : World} {F : Nat → Prop} {v : Value} {l : List Int} (h : Own w F v l) : ∃ a c, v = .slice a l.length c ∧ (0 < l.length → ∃ b, a = some ⟨b, 0, none⟩ ∧ F b ∧ Nums17 w b l.length) := by
  rcases h.2.1.2 with ⟨hv, h0⟩ | ⟨r, cap, cur, hv, hb, hr, hc, hm, hs, ht⟩
  · exact ⟨none, 0, by rw [hv, h0], fun hp => by omega⟩
  · refine ⟨_, _, hv, fun hp => ⟨r, rfl, h.2.2 r (by rw [hv]; rfl), cur, hr, fun j hj => ?_⟩⟩
    have hj' := congrArg (fun z => z[j]?) ht
    simp only [List.getElem?_take, List.getElem?_map] at hj'
    rw [if_pos (by omega), Array.getElem?_toList, List.getElem?_eq_getElem hj] at hj'
    exact ⟨_, hj'⟩
/-- Updates that may be written, in blocks from B on. -/
def ChU (B : Nat) (n : Nat) (a : Option Addr) (us : Nat → Value) (ln : Nat → Nat) (w : World) : Prop :=
  0 < n → ∃ r cs, a = some ⟨r, 0, none⟩ ∧ B ≤ r ∧ w.heap[r]? = some (.cells cs 40 (0, 0)) ∧ ∀ j, j < n → (∃ q, cs[j * 7]? = some (.int .u64 q)) ∧ cs[j * 7 + 6]? = some (us j) ∧
    ∃ da dc, us j = .slice da (ln j) dc ∧ ln j ≤ 2100 ∧ (0 < ln j → ∃ b, da = some ⟨b, 0, none⟩ ∧ B ≤ b ∧ b ≠ r ∧ Nums17 w b (ln j))
theorem ChU.of {B : Nat} {w : World} {a : Option Addr} {c : Nat} {ps : List (Up × Value)} (h : UOw 40 B w (.slice a ps.length c) ps) (hd : DatO w (fun k => B ≤ k) ps) (hl : ∀ p ∈ ps, p.1.d.length ≤ 2100) :
    ChU B ps.length a (fun j => (ps.getD j (up0, undef)).2) (fun j => (ps.getD j (up0, undef)).1.d.length) w := by
  intro hp
  rcases h.2 with ⟨hv, h0⟩ | ⟨r, cap, cur, hv, hb, hr, hc, hm, hs, ht⟩
  · omega
  · injection hv with hv _ _
    subst hv
    refine ⟨r, cur, rfl, hb, hr, fun j hj => ?_⟩
    have hat : ∀ i, i < 7 → cur[j * 7 + i]? = (ucs (ps[j]).1 (ps[j]).2)[i]? := fun i hi => by
      have := congrArg (fun z => z[j * 7 + i]?) ht
      simp only [List.getElem?_take] at this
      rw [if_pos (by omega), Array.getElem?_toList] at this
      rw [this, ucl_at ps j i hj hi]
    have hg : ps.getD j (up0, undef) = ps[j] := by rw [List.getD_eq_getElem?_getD, List.getElem?_eq_getElem hj]; rfl
    simp only [hg]
    have hm := List.getElem_mem hj
    obtain ⟨da, dc, e1, e2⟩ := (hd _ hm).nums17
    refine ⟨⟨_, hat 0 (by omega)⟩, hat 6 (by omega), da, dc, e1, hl _ hm, fun hp => ?_⟩
    obtain ⟨b, f1, f2, f3⟩ := e2 hp
    refine ⟨b, f1, f2, ?_, f3⟩
    rintro rfl
    obtain ⟨cs, f4, _⟩ := f3
    rw [hr] at f4
    injection f4 with f4
    injection f4 with _ f4 _
    exact absurd f4 (by decide)
theorem ChU.byte {B n : Nat} {a : Option Addr} {us : Nat → Value} {ln : Nat → Nat} {w : World} (h : ChU B n a us ln w) (b i : Nat) (y : Int) (hb : ∀ r, a = some ⟨r, 0, none⟩ → b ≠ r) : ChU B n a us ln (w.setCell ⟨b, i, none⟩ (.int .u8 y)) := by
  intro hp
  obtain ⟨r, cs, h1, h2, h3, h4⟩ := h hp
  refine ⟨r, cs, h1, h2, blkU_set_other h3 i _ (hb r h1), fun j hj => ?_⟩
  obtain ⟨e1, e2, da, dc, e3, e4, e5⟩ := h4 j hj
  refine ⟨e1, e2, da, dc, e3, e4, fun hp => ?_⟩
  obtain ⟨b', f1, f2, f3, f4⟩ := e5 hp
  exact ⟨b', f1, f2, f3, f4.set b i y⟩
theorem ChU.seq {B n : Nat} {r : Nat} {us : Nat → Value} {ln : Nat → Nat} {w : World} (h : ChU B n (some ⟨r, 0, none⟩) us ln w) (k : Nat) (y : Int) : ChU B n (some ⟨r, 0, none⟩) us ln (w.setCell ⟨r, k * 7, none⟩ (.int .u64 y)) := by
  intro hp
  obtain ⟨r', cs, h1, h2, h3, h4⟩ := h hp
  injection h1 with h1
  injection h1 with h1
  subst h1
  refine ⟨r, _, rfl, h2, blkU_set h3 _ _, fun j hj => ?_⟩
  obtain ⟨⟨q, e1⟩, e2, da, dc, e3, e4, e5⟩ := h4 j hj
  refine ⟨?_, ?_, da, dc, e3, e4, fun hp => ?_⟩
  · by_cases e : k * 7 = j * 7
    · rw [e]
      have hlt : j * 7 < cs.size := by
        rcases Nat.lt_or_ge (j * 7) cs.size with h | h
        · exact h
        · rw [Array.getElem?_eq_none h] at e1; cases e1
      exact ⟨y, by simp [hlt]⟩
    · exact ⟨q, by rw [Array.getElem?_setIfInBounds_ne e]; exact e1⟩
  · rw [Array.getElem?_setIfInBounds_ne (by omega)]
    exact e2
  · obtain ⟨b', f1, f2, f3, f4⟩ := e5 hp
    exact ⟨b', f1, f2, f3, f4.set_other r _ _ (fun h => f3 h.symm)⟩
def UlRel (B n : Nat) (a : Option Addr) (us : Nat → Value) (ln : Nat → Nat) (w : World) (iv : Value) (wr : World) : Prop :=
  ∃ i : Nat, iv = .int .i64 i ∧ i ≤ n ∧ ChU B n a us ln wr ∧ Kept (fun k => B ≤ k) w wr
def UkRel (B n m : Nat) (a : Option Addr) (us : Nat → Value) (ln : Nat → Nat) (w : World) (kv : Value) (wr : World) : Prop :=
  ∃ k : Nat, kv = .int .i64 k ∧ k ≤ m ∧ ChU B n a us ln wr ∧ Kept (fun k => B ≤ k) w wr
set_option maxRecDepth 100000 in
set_option maxHeartbeats 8000000 in
theorem UpdateLists_any (w : World) (v : Value) (l : List Up) (s most : Int) (h : UsAt w (fun k => k < w.heap.size) v l) (hfit : FitsU l) (h0 : 0 ≤ s) (h1 : s ≤ 18446744073709551615) : Calls Try.prog 4 #[v, .int .u64 s, .int .i64 most] w fun e w' => e = .returned (.bool true) ∧ Kept NoB w w' := by
  have HAW := Lib.hid (fun w => awake17 w)
  have HFA := Lib.hid (far17_any w v l _ h)
  cases hfar : farU l with
  | true =>
    rw [hfar] at HFA
    clear h hfit h0 h1 hfar
    go_enter Try.func4, Try.ntmps4
    go_wp2_with fail
    refine HFA.out.mono ?_
    rintro e w1 ⟨rfl, hk1⟩
    have HK1 := Lib.hid hk1
    clear hk1
    go_wp2_with fail
    refine (HAW.out _).mono ?_
    rintro e w2 ⟨rfl, hk2⟩
    have HK2 := Lib.hid (HK1.out.trans hk2 (fun _ _ h => h))
    clear hk2
    go_wp2
    go_ret
    exact ⟨rfl, HK2.out⟩
  | false =>
    rw [hfar] at HFA
    obtain ⟨hl, hdl⟩ := farU_not hfar
    have HU := Lib.hid h
    have HFI := Lib.hid hfit
    have HL := Lib.hid hl
    have HDL := Lib.hid hdl
    have HSB := Lib.hid (And.intro h0 h1)
    obtain ⟨va, vc, rfl⟩ := h.form
    have hll : (l.length : Int) ≤ 40 := by omega
    -- what each call tells, in any later world
    have HU' := Lib.hid (fun w' (hk : Kept NoB w w') => (⟨HU.out.no hk, fun k hk' => by have := hk.size; omega⟩ : UsAt w' (fun k => k < w.heap.size) (.slice va l.length vc) l ∧ ∀ k, k < w.heap.size → k < w'.heap.size))
    have hl1 : l.length ≤ 1000 := by omega
    have hd1 : ∀ x ∈ l, x.d.length ≤ 1000000 := fun x hx => by have := hdl x hx; omega
    have HCO := Lib.hid (fun w' (hk : Kept NoB w w') => Copy_any17 w' _ l _ (HU'.out w' hk).1 (HU'.out w' hk).2 hfit hl1 hd1)
    obtain ⟨rb, hrb⟩ : ∃ b, b = allU seqU s l := ⟨_, rfl⟩
    have hbb : (rb != rb) = false := by simp
    have HRU := Lib.hid (fun w' (hk : Kept NoB w w') => (Runs_any w' _ l s _ (HU'.out w' hk).1 (HU'.out w' hk).2 hfit hl1 h0 h1).mono fun e w'' h => show e = .returned (.bool rb) ∧ Kept NoB w' w'' from by rw [hrb]; exact h)
    have HRR := Lib.hid (fun w' (hk : Kept NoB w w') => (RRuns_any w' _ l s _ (HU'.out w' hk).1 hfit hl1 h0 h1).mono fun e w'' h => show e = .returned (.bool rb) ∧ Kept NoB w' w'' from by rw [hrb]; exact h)
    obtain ⟨bl, hbl⟩ : ∃ b, b = selU (batU s most) 0 l := ⟨_, rfl⟩
    have HBA := Lib.hid (fun w' (hk : Kept NoB w w') => (Batch_any w' _ l s most _ (HU'.out w' hk).1 (HU'.out w' hk).2 hfit hl1 hd1).mono fun e w'' h => show ∃ a c, e = .returned (.slice a bl.length c) ∧ UsAt w'' (fun k => w'.heap.size ≤ k) (.slice a bl.length c) bl ∧ Kept NoB w' w'' from by rw [hbl]; exact h.us)
    have HRB := Lib.hid (fun w' (hk : Kept NoB w w') => (RBatch_any w' _ l s most _ (HU'.out w' hk).1 (HU'.out w' hk).2 hfit hl1).mono fun e w'' h => show RSelE w' (fun k => k < w.heap.size) bl e w'' from by rw [hbl]; exact h)
    obtain ⟨fl, hfl⟩ : ∃ b, b = selU seqU s l := ⟨_, rfl⟩
    have HFT := Lib.hid (fun w' (hk : Kept NoB w w') => (Fits_any w' _ l s _ (HU'.out w' hk).1 (HU'.out w' hk).2 hfit hl1 hd1 h0 h1).mono fun e w'' h => show ∃ a c, e = .returned (.slice a fl.length c) ∧ UsAt w'' (fun k => w'.heap.size ≤ k) (.slice a fl.length c) fl ∧ Kept NoB w' w'' from by rw [hfl]; exact h.us)
    have HRF := Lib.hid (fun w' (hk : Kept NoB w w') => (RFits_any w' _ l s _ (HU'.out w' hk).1 (HU'.out w' hk).2 hfit hl1).mono fun e w'' h => show RSelE w' (fun k => k < w.heap.size) fl e w'' from by rw [hfl]; exact h)
    have HSA := Lib.hid (fun (m : List Up) (F G : Nat → Prop) (x y : Value) w' (hx : UsAt w' F x m) (hy : UsAt w' G y m) => (RSameUpdates_any w' x y m m F G hx hy).mono fun e w'' h => show e = .returned (.bool true) ∧ Kept NoB w' w'' from by rw [decide_eq_true rfl] at h; exact h)
    clear h hfit h0 h1 hfar hl hdl hl1 hd1 hrb hbl hfl
    go_enter Try.func4, Try.ntmps4
    go_wp2_with fail
    refine HFA.out.mono ?_
    rintro e w1 ⟨rfl, hk1⟩
    have HK1 := Lib.hid hk1
    clear hk1
    go_wp2_with fail
    refine (HCO.out _ HK1.out).mono ?_
    rintro e w2 ⟨ca, cc, ps, rfl, hown, hps, hdat, hk2⟩
    have hpl : ps.length = l.length := by rw [← hps, List.length_map]
    have HCC := Lib.hid (ChU.of (hpl ▸ hown) hdat (fun p hp => HDL.out p.1 (hps ▸ List.mem_map_of_mem hp)))
    have HCU := Lib.hid (hps ▸ hown.us (F := fun k => w1.heap.size ≤ k) (fun k hk => (hown.base k hk).1) hdat.u)
    rw [hpl] at HCC
    obtain ⟨us, hus⟩ : ∃ f : Nat → Value, f = fun j => (ps.getD j (up0, undef)).2 := ⟨_, rfl⟩
    obtain ⟨ln, hln⟩ : ∃ f : Nat → Nat, f = fun j => (ps.getD j (up0, undef)).1.d.length := ⟨_, rfl⟩
    rw [← hus, ← hln] at HCC
    have HK2 := Lib.hid (HK1.out.trans hk2 (fun _ _ h => h))
    clear hown hps hdat hk2 hpl hus hln
    go_wp2_with fail
    refine (HRU.out _ HK2.out).mono ?_
    rintro e w3 ⟨rfl, hk3⟩
    have HK3 := Lib.hid (HK2.out.trans hk3 (fun _ _ h => h))
    have HA3 := Lib.hid hk3
    clear hk3
    go_wp2_with fail
    refine (HRR.out _ HK3.out).mono ?_
    rintro e w4 ⟨rfl, hk4⟩
    have HK4 := Lib.hid (HK3.out.trans hk4 (fun _ _ h => h))
    have HA4 := Lib.hid (HA3.out.trans hk4 (fun _ _ h => h))
    clear hk4
    go_wp2_with fail
    refine (HBA.out _ HK4.out).mono ?_
    rintro e w5 ⟨a5, c5, rfl, hu5, hk5⟩
    have HK5 := Lib.hid (HK4.out.trans hk5 (fun _ _ h => h))
    have HA5 := Lib.hid (HA4.out.trans hk5 (fun _ _ h => h))
    have HU5 := Lib.hid hu5
    clear hk5 hu5
    go_wp2_with fail
    refine (HRB.out _ HK5.out).mono ?_
    rintro e w6 ⟨v6, rfl, hu6, hk6⟩
    have HK6 := Lib.hid (HK5.out.trans hk6 (fun _ _ h => h))
    have HA6 := Lib.hid (HA5.out.trans hk6 (fun _ _ h => h))
    have HS6 := Lib.hid (HSA.out bl _ _ _ _ w6 (HU5.out.no hk6) hu6)
    clear hk6 hu6
    go_wp2_with fail
    refine HS6.out.mono ?_
    rintro e w7 ⟨rfl, hk7⟩
    have HK7 := Lib.hid (HK6.out.trans hk7 (fun _ _ h => h))
    have HA7 := Lib.hid (HA6.out.trans hk7 (fun _ _ h => h))
    clear hk7
    go_wp2_with fail
    refine (HFT.out _ HK7.out).mono ?_
    rintro e w8 ⟨a8, c8, rfl, hu8, hk8⟩
    have HK8 := Lib.hid (HK7.out.trans hk8 (fun _ _ h => h))
    have HA8 := Lib.hid (HA7.out.trans hk8 (fun _ _ h => h))
    have HU8 := Lib.hid hu8
    clear hk8 hu8
    go_wp2_with fail
    refine (HRF.out _ HK8.out).mono ?_
    rintro e w9 ⟨v9, rfl, hu9, hk9⟩
    have HK9 := Lib.hid (HK8.out.trans hk9 (fun _ _ h => h))
    have HA9 := Lib.hid (HA8.out.trans hk9 (fun _ _ h => h))
    have HS9 := Lib.hid (HSA.out fl _ _ _ _ w9 (HU8.out.no hk9) hu9)
    clear hk9 hu9
    go_wp2_with fail
    refine HS9.out.mono ?_
    rintro e w10 ⟨rfl, hk10⟩
    have HK10 := Lib.hid (HK9.out.trans hk10 (fun _ _ h => h))
    have HA10 := Lib.hid (HA9.out.trans hk10 (fun _ _ h => h))
    have HS10 := Lib.hid (HSA.out l _ _ _ _ w10 (HCU.out.no (HA9.out.trans hk10 (fun _ _ h => h))) (HU'.out _ HK10.out).1)
    clear hk10
    go_wp2_with fail
    refine HS10.out.mono ?_
    rintro e w11 ⟨rfl, hk11⟩
    have HK11 := Lib.hid (HK10.out.trans hk11 (fun _ _ h => h))
    have hcw : ChU w1.heap.size l.length ca us ln w11 := by
      have hk := HA10.out.trans hk11 (fun _ _ h => h)
      intro hp
      obtain ⟨r, cs, f1, f2, f3, f4⟩ := HCC.out hp
      refine ⟨r, cs, f1, f2, hk.heap (fun h => h) f3, fun j hj => ?_⟩
      obtain ⟨e1, e2, da, dc, e3, e4, e5⟩ := f4 j hj
      refine ⟨e1, e2, da, dc, e3, e4, fun hp => ?_⟩
      obtain ⟨b', g1, g2, g3, cs', g4, g5⟩ := e5 hp
      exact ⟨b', g1, g2, g3, cs', hk.heap (fun h => h) g4, g5⟩
    have HCW := Lib.hid hcw
    have HB := Lib.hid HK1.out.size
    clear hk11 hcw
    go_wp2_with fail
    go_loopw [8] (UlRel w1.heap.size l.length ca us ln w11) (fun i _ => l.length - (RowKit.intOf i).toNat)
    case atStart => exact ⟨0, rfl, Nat.zero_le _, HCW.out, Kept.refl _ _⟩
    case round =>
      obtain ⟨i, rfl, hi, hch, hk⟩ := hrel
      have hi0 : (0 : Int) ≤ (i : Int) := by omega
      have HCH := Lib.hid hch
      have HKI := Lib.hid hk
      clear hch hk
      by_cases hlt : i < l.length
      · have hi1 : (i : Int) < (l.length : Int) := by omega
        obtain ⟨r, cs, rfl, hBr, hrow, hat⟩ := HCH.out (by omega)
        obtain ⟨_, _, da, dc, hu, hln, _⟩ := hat i hlt
        have HBR := Lib.hid hBr
        have hlnI : (ln i : Int) ≤ 2100 := by omega
        clear hrow hat
        go_wp2_with fail
        go_loopw [9] (UkRel w1.heap.size l.length (ln i) (some ⟨r, 0, none⟩) us ln w11) (fun k _ => ln i - (RowKit.intOf k).toNat)
        case atStart => exact ⟨0, rfl, Nat.zero_le _, HCH.out, HKI.out⟩
        case round =>
          obtain ⟨k, rfl, hk, hch, hkk⟩ := hrel
          have hk0 : (0 : Int) ≤ (k : Int) := by omega
          have HCK := Lib.hid hch
          have HKK := Lib.hid hkk
          clear hch hkk HCH HKI
          obtain ⟨r', cs, hr', _, hrow, hat⟩ := HCK.out (by omega)
          injection hr' with hr'
          injection hr' with hr'
          subst hr'
          obtain ⟨⟨q, eq⟩, eu, da', dc', hu', _, hn⟩ := hat i hlt
          rw [hu] at hu'
          injection hu' with hda hdc hdd
          subst hda hdd
          have c0 : wr.cell? ⟨r, i * 7, none⟩ = some (.int .u64 q) := by rw [cell_of_row _ _ _ _ _ _ hrow]; exact eq
          have c6 : wr.cell? ⟨r, i * 7 + 6, none⟩ = some (.slice da (ln i) dc) := by rw [cell_of_row _ _ _ _ _ _ hrow, ← hu]; exact eu
          have z0 := blkU_frozen hrow (i * 7)
          clear hrow hat eq eu
          by_cases hkl : k < ln i
          · have hk1 : (k : Int) < (ln i : Int) := by omega
            obtain ⟨b, rfl, hBb, hbr, cs', hb, hx⟩ := hn (by omega)
            obtain ⟨x, hx⟩ := hx k hkl
            have cx : wr.cell? ⟨b, k, none⟩ = some (.int .u8 x) := by rw [cell_of_row _ _ _ _ _ _ hb]; exact hx
            have zx := blkU_frozen hb k
            have HBB := Lib.hid hBb
            have HBN := Lib.hid hbr
            have HRR2 := Lib.hid (fun (y : Int) => HCK.out.byte b k y (fun r' hr' => by injection hr' with hr'; injection hr' with hr'; subst hr'; exact hbr))
            clear hb hx hn hbr hBb c0 z0
            go_wp2_with fail
            go_region
            go_wp2
            exact ⟨⟨k + 1, by go_num, by omega, HRR2.out _, (HKK.out.drewN _).setCell (p := ⟨b, k, none⟩) (.inl HBB.out) _⟩, by simp [RowKit.intOf]; omega⟩
          · obtain rfl : k = ln i := by omega
            clear hn
            go_wp2
            exact ⟨⟨i + 1, by go_num, by omega, HCK.out.seq i _, HKK.out.setCell (p := ⟨r, i * 7, none⟩) (.inl HBR.out) _⟩, by simp [RowKit.intOf]; omega⟩
      · obtain rfl : i = l.length := by omega
        have hk12 : Kept NoB w wr := HK11.out.trans HKI.out (fun k hk hB => by have := HB.out; omega)
        have HK12 := Lib.hid hk12
        clear hk12
        go_wp2_with fail
        refine (HCO.out _ HK12.out).mono ?_
        intro e w13 h13
        obtain ⟨a13, c13, rfl, hu13, hk13⟩ := h13.us
        have HK13 := Lib.hid (HK12.out.trans hk13 (fun _ _ h => h))
        have HS13 := Lib.hid (HSA.out l _ _ _ _ w13 hu13 (HU'.out _ HK13.out).1)
        clear h13 hu13 hk13
        go_wp2_with fail
        refine HS13.out.mono ?_
        rintro e w14 ⟨rfl, hk14⟩
        have HK14 := Lib.hid (HK13.out.trans hk14 (fun _ _ h => h))
        clear hk14
        go_wp2_with fail
        refine (HAW.out _).mono ?_
        rintro e w15 ⟨rfl, hk15⟩
        have HK15 := Lib.hid (HK14.out.trans hk15 (fun _ _ h => h))
        clear hk15
        go_wp2
        go_ret
        exact ⟨rfl, HK15.out⟩
end Go.Proofs.Ytpdkmalfojeghaa
