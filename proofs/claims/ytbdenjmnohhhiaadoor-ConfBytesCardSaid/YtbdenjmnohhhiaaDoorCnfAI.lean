/-
  Package conf: Begin.
-/
import Derived.Test.YtbdenjmnohhhiaaDoorCnfAF
import Derived.Laws.MakeOwn
namespace Go.Proofs.YtbdenjmnohhhiaaDoor
open Go.RowKit
set_option linter.unusedVariables false
set_option linter.unusedSimpArgs false

/-- What Begin tells. -/
def begB (chains per : Int) : Bool := decide (1 ≤ chains ∧ chains ≤ 4 ∧ 1 ≤ per ∧ per ≤ 5)
def begC (chains per : Int) : List Cf := if begB chains per then begL chains.toNat per.toNat else []
def begX (chains per : Int) : Int := if begB chains per then 0 else 1
def BegE (chains per : Int) (w : World) (e : Ending) (w' : World) : Prop := ∃ v, e = .returned (.tuple #[v, .int .i64 (begX chains per)]) ∧ CfsAt w' (fun k => w.heap.size ≤ k) v (begC chains per) ∧ Kept NoB w w'
theorem upd_upd (us : Nat → Value) (j : Nat) (x y : Value) : upd (upd us j x) j y = upd us j y := by
  funext i
  unfold upd
  split <;> rfl
theorem RowC.setCh {w : World} {r cap : Nat} {l : List Cf} {us : Nat → Value} (h : RowC w r cap l us) {j : Nat} (hj : j < l.length) (n : Int) :
    RowC (w.setCell ⟨r, j * 5, none⟩ (.int .i64 n)) r cap (l.set j { nthC l j with ch := n }) (Go.Proofs.YtbdenjmnohhhiaaDoor.upd us j (us j)) :=
  h.upd hj _ _ _ 0 (by decide) fun i' hi => by
    rw [cell_set hj _ _ _ hi, cell_old _ _ _ _ hi]
    rcases (by omega : i' = 0 ∨ i' = 1 ∨ i' = 2 ∨ i' = 3 ∨ i' = 4) with rfl | rfl | rfl | rfl | rfl <;> rfl
theorem RowC.set5 {w : World} {r cap : Nat} {l : List Cf} {us : Nat → Value} (h : RowC w r cap l us) {j : Nat} (hj : j < l.length) (c : Cf) (v : Value) :
    RowC (((((w.setCell ⟨r, j * 5, none⟩ (.int .i64 c.ch)).setCell ⟨r, j * 5 + 1, none⟩ (.int .u64 c.ep)).setCell ⟨r, j * 5 + 2, none⟩ v).setCell ⟨r, j * 5 + 3, none⟩ (.bool c.fr)).setCell ⟨r, j * 5 + 4, none⟩ (.int .i64 c.jn)) r cap (l.set j c) (Go.Proofs.YtbdenjmnohhhiaaDoor.upd us j v) := by
  have hl : ∀ x, j < (l.set j x).length := fun x => by rw [List.length_set]; exact hj
  have h1 := h.setCh hj c.ch
  have h2 := h1.setEp (hl _) c.ep
  rw [nthC_sets hj, set_set, upd_at, upd_upd] at h2
  have h3 := h2.setNs (hl _) v c.ns
  rw [nthC_sets hj, set_set, upd_upd] at h3
  have h4 := h3.setFr (hl _) c.fr
  rw [nthC_sets hj, set_set, upd_at, upd_upd] at h4
  have h5 := h4.setJn (hl _) c.jn
  rw [nthC_sets hj, set_set, upd_at, upd_upd] at h5
  exact h5
theorem bother1 {w : World} {g k : Nat} {o : Obj} (h : w.heap[g]? = some o) (i : Nat) (u : Value) (hk : k ≠ g) :
    (w.setCell ⟨k, i, none⟩ u).heap[g]? = some o := by simp [World.setCell, Array.getElem?_modify, h, hk]
def lkC (chains per k : Nat) : List Cf := (List.range chains).map fun i => if i < k then beg1 per i else cf0
theorem lk_len (chains per k : Nat) : (lkC chains per k).length = chains := by simp [lkC]
theorem lk_nth {chains per k i : Nat} (h : i < chains) : nthC (lkC chains per k) i = if i < k then beg1 per i else cf0 := by
  rw [nthC_at (by rw [lk_len]; exact h)]
  simp [lkC]
theorem lk_set {chains per k : Nat} (h : k < chains) : (lkC chains per k).set k (beg1 per k) = lkC chains per (k + 1) := by
  refine nthC_ext (by simp [lk_len]) fun i hi => ?_
  have hi' : i < chains := by simpa [lk_len] using hi
  rw [nthC_set (by rw [lk_len]; exact h), lk_nth hi', lk_nth hi']
  by_cases e : i = k
  · subst e; rw [if_pos rfl, if_pos (by omega)]
  · rw [if_neg e]
    by_cases e2 : i < k
    · rw [if_pos e2, if_pos (by omega)]
    · rw [if_neg e2, if_neg (by omega)]
theorem lk_all (chains per : Nat) : lkC chains per chains = begL chains per := by
  refine nthC_ext (by simp [lk_len, begL_len]) fun i hi => ?_
  have hi' : i < chains := by simpa [lk_len] using hi
  rw [lk_nth hi', begL_nth hi', if_pos hi']
theorem beg1_ns (per k : Nat) : (beg1 per k).ns.length = per := by simp [beg1]
theorem beg1_at {per k i : Nat} (h : i < per) : (beg1 per k).ns.getD i 0 = ((k * per + i + 1 : Nat) : Int) := by
  rw [getD_at (by rw [beg1_ns]; exact h)]
  simp [beg1]
theorem made_row {w : World} {chains per : Nat} (hm : chains ≤ 4) : RowC (w.alloc (.cells (madeCells (Value.agg #[.int .i64 0, .int .u64 0, .slice none 0 0, .bool false, .int .i64 0]).cells (chains * 5)) 25)) w.heap.size chains (lkC chains per 0) (fun _ => .slice none 0 0) := by
  refine ⟨_, heap_alloc_new w _, by rw [size_madeCells], by rw [lk_len]; exact Nat.le_refl _, by unfold maxLen; omega, fun m hm' => ?_⟩
  rw [lk_len] at hm'
  have hn : nthC (lkC chains per 0) (m / 5) = cf0 := by rw [lk_nth (by omega), if_neg (by omega)]
  unfold cellC
  rw [hn]
  unfold madeCells
  simp only [Value.cells, Array.getElem?_map, Array.getElem?_range, hm', if_true, Option.map_some]
  have hs : (#[Value.int .i64 0, .int .u64 0, .slice none 0 0, .bool false, .int .i64 0] : Array Value).size = 5 := rfl
  simp only [hs]
  congr 1
  rcases (by omega : m % 5 = 0 ∨ m % 5 = 1 ∨ m % 5 = 2 ∨ m % 5 = 3 ∨ m % 5 = 4) with e | e | e | e | e <;> rw [e] <;> rfl
set_option maxRecDepth 100000 in
set_option maxHeartbeats 2000000 in
theorem Begin_good (chains per : Nat) (w : World) (h1 : 1 ≤ chains) (h4 : chains ≤ 4) (p1 : 1 ≤ per) (p5 : per ≤ 5) :
    Calls Tryd.prog 18 #[.int .i64 chains, .int .i64 per] w (BegE chains per w) := by
  obtain ⟨i0, hi0, hz0, hz1, hz2⟩ := info_parts info_int
  obtain ⟨i1, hj0, hy0, hy1, hy2⟩ := info_parts conf_zero
  have hmk : ∀ W : World, (Instr.makeSlice 28 (.int .i64 (chains : Int)) (.int .i64 (chains : Int))).run Tryd.prog W = .ok (.slice (some ⟨W.heap.size, 0, none⟩) chains chains) (W.alloc (.cells (madeCells (Value.agg #[.int .i64 0, .int .u64 0, .slice none 0 0, .bool false, .int .i64 0]).cells (chains * 5)) 25)) := fun W => by
    have hr := run_make (P := Tryd.prog) W 28 25 i1 _ Tryd.underlying28 hj0 hy0 .i64 .i64 (chains : Int) (chains : Int) (by omega) (by omega) (by rw [hy2]; omega) (by omega)
    simp only [Int.toNat_natCast, hy1] at hr
    exact hr
  have hmi : ∀ W : World, (Instr.makeSlice 23 (.int .i64 (per : Int)) (.int .i64 (per : Int))).run Tryd.prog W = .ok (.slice (some ⟨W.heap.size, 0, none⟩) per per) (W.alloc (.cells (madeCells #[Value.int .i64 0] per) 3)) := fun W => by
    have hr := run_make (P := Tryd.prog) W 23 3 i0 _ Tryd.underlying23 hi0 hz0 .i64 .i64 (per : Int) (per : Int) (by omega) (by omega) (by rw [hz2]; omega) (by omega)
    simp only [Int.toNat_natCast, hz1, Nat.mul_one] at hr
    exact hr
  have hmul : ∀ k : Nat, k ≤ 4 → k * per ≤ 20 := fun k hk => by have := Nat.mul_le_mul hk p5; omega
  have HM := Lib.hid hmul
  have hcp := hmul chains h4
  obtain ⟨cp, hcpe⟩ : ∃ cp, cp = chains * per := ⟨_, rfl⟩
  have hcpI : (chains : Int) * (per : Int) = (cp : Int) := by rw [hcpe]; exact (Int.natCast_mul _ _).symm
  rw [← hcpe] at hcp
  have hwc : IntKind.i64.wrap ((chains : Int) * (per : Int)) = (cp : Int) := by rw [hcpI]; exact IntWalk.i64_in _ (by omega)
  have hc1 : decide ((chains : Int) < 1) = false := decide_eq_false (by omega)
  have hc4 : decide (4 < (chains : Int)) = false := decide_eq_false (by omega)
  have hp1 : decide ((per : Int) < 1) = false := decide_eq_false (by omega)
  have hp5 : decide (5 < (per : Int)) = false := decide_eq_false (by omega)
  have h24 : decide (24 < (cp : Int)) = false := decide_eq_false (by omega)
  have HBX : Hid (begC chains per = begL chains per ∧ begX chains per = 0) := Lib.hid (by
    have hb : begB chains per = true := decide_eq_true (by omega)
    unfold begC begX
    rw [hb, Int.toNat_natCast, Int.toNat_natCast]
    exact ⟨rfl, rfl⟩)
  clear hcpe hcpI hmul
  go_enter Tryd.func18, Tryd.ntmps18
  go_wp2_with fail
  go_loopw [7, 8, 31] (fun _ _ i wr => ∃ (k : Nat) (us : Nat → Value), i = .int .i64 k ∧ k ≤ chains ∧ RowC wr w.heap.size chains (lkC chains per k) us ∧ (∀ j, j < k → IOwn w.heap.size wr (us j) (beg1 per j).ns) ∧ Kept NoB w wr) (fun _ _ i _ => chains - (intOf i).toNat)
  case atStart => exact ⟨0, _, rfl, Nat.zero_le _, made_row h4, fun j h => absurd h (by omega), (Kept.refl NoB w).alloc _⟩
  case round =>
    obtain ⟨k, us, rfl, hk, hrow, hown, hkk⟩ := hrel
    have HR := Lib.hid hrow
    have HO := Lib.hid hown
    have HK := Lib.hid hkk
    clear hrow hown hkk
    by_cases hlt : k < chains
    · have hk0 : (0 : Int) ≤ (k : Int) := by omega
      have hk1 : (k : Int) < (chains : Int) := by omega
      have hgl : w.heap.size < wr.heap.size := HR.out.lt
      have hlk : (lkC chains per k).length = chains := lk_len _ _ _
      have HLK := Lib.hid hlk
      obtain ⟨c0, f0⟩ := HR.out.cell (m := k * 5) (by rw [hlk]; omega)
      obtain ⟨c1, f1⟩ := HR.out.cell (m := k * 5 + 1) (by rw [hlk]; omega)
      obtain ⟨c2, f2⟩ := HR.out.cell (m := k * 5 + 2) (by rw [hlk]; omega)
      obtain ⟨c3, f3⟩ := HR.out.cell (m := k * 5 + 3) (by rw [hlk]; omega)
      obtain ⟨c4, f4⟩ := HR.out.cell (m := k * 5 + 4) (by rw [hlk]; omega)
      have hs5 := HR.out.set5 (by rw [hlk]; exact hlt) (beg1 per k) (.slice (some ⟨wr.heap.size, 0, none⟩) per per)
      rw [lk_set hlt] at hs5
      have hs5 : RowC (((((wr.setCell ⟨w.heap.size, k * 5, none⟩ (.int .i64 (k : Int))).setCell ⟨w.heap.size, k * 5 + 1, none⟩ (.int .u64 1)).setCell ⟨w.heap.size, k * 5 + 2, none⟩ (.slice (some ⟨wr.heap.size, 0, none⟩) per per)).setCell ⟨w.heap.size, k * 5 + 3, none⟩ (.bool false)).setCell ⟨w.heap.size, k * 5 + 4, none⟩ (.int .i64 0)) w.heap.size chains (lkC chains per (k + 1)) (upd us k (.slice (some ⟨wr.heap.size, 0, none⟩) per per)) := hs5
      have hs5 := hs5.kept ((Kept.refl NoB _).alloc (.cells (madeCells #[Value.int .i64 0] per) 3)) (fun h => h)
      have hka : Kept (fun i => i = w.heap.size) wr ((((((wr.setCell ⟨w.heap.size, k * 5, none⟩ (.int .i64 (k : Int))).setCell ⟨w.heap.size, k * 5 + 1, none⟩ (.int .u64 1)).setCell ⟨w.heap.size, k * 5 + 2, none⟩ (.slice (some ⟨wr.heap.size, 0, none⟩) per per)).setCell ⟨w.heap.size, k * 5 + 3, none⟩ (.bool false)).setCell ⟨w.heap.size, k * 5 + 4, none⟩ (.int .i64 0)).alloc (.cells (madeCells #[Value.int .i64 0] per) 3)) :=
        ((((((Kept.refl (fun i => i = w.heap.size) wr).setCell (p := ⟨w.heap.size, k * 5, none⟩) (.inl rfl) _).setCell (p := ⟨w.heap.size, k * 5 + 1, none⟩) (.inl rfl) _).setCell (p := ⟨w.heap.size, k * 5 + 2, none⟩) (.inl rfl) _).setCell (p := ⟨w.heap.size, k * 5 + 3, none⟩) (.inl rfl) _).setCell (p := ⟨w.heap.size, k * 5 + 4, none⟩) (.inl rfl) _).alloc _
      have hz5 : (((((wr.setCell ⟨w.heap.size, k * 5, none⟩ (.int .i64 (k : Int))).setCell ⟨w.heap.size, k * 5 + 1, none⟩ (.int .u64 1)).setCell ⟨w.heap.size, k * 5 + 2, none⟩ (.slice (some ⟨wr.heap.size, 0, none⟩) per per)).setCell ⟨w.heap.size, k * 5 + 3, none⟩ (.bool false)).setCell ⟨w.heap.size, k * 5 + 4, none⟩ (.int .i64 0)).heap.size = wr.heap.size := by simp [World.setCell]
      have hblk : ((((((wr.setCell ⟨w.heap.size, k * 5, none⟩ (.int .i64 (k : Int))).setCell ⟨w.heap.size, k * 5 + 1, none⟩ (.int .u64 1)).setCell ⟨w.heap.size, k * 5 + 2, none⟩ (.slice (some ⟨wr.heap.size, 0, none⟩) per per)).setCell ⟨w.heap.size, k * 5 + 3, none⟩ (.bool false)).setCell ⟨w.heap.size, k * 5 + 4, none⟩ (.int .i64 0)).alloc (.cells (madeCells #[Value.int .i64 0] per) 3)).heap[wr.heap.size]? = some (.cells (madeCells #[Value.int .i64 0] per) 3 (0, 0)) := by
        have := heap_alloc_new (((((wr.setCell ⟨w.heap.size, k * 5, none⟩ (.int .i64 (k : Int))).setCell ⟨w.heap.size, k * 5 + 1, none⟩ (.int .u64 1)).setCell ⟨w.heap.size, k * 5 + 2, none⟩ (.slice (some ⟨wr.heap.size, 0, none⟩) per per)).setCell ⟨w.heap.size, k * 5 + 3, none⟩ (.bool false)).setCell ⟨w.heap.size, k * 5 + 4, none⟩ (.int .i64 0)) (.cells (madeCells #[Value.int .i64 0] per) 3)
        rw [hz5] at this
        exact this
      have HS5 := Lib.hid hs5
      have HKA := Lib.hid hka
      have HBL := Lib.hid hblk
      clear hs5 hka hblk hlk hz5
      obtain ⟨W2, hW2⟩ : ∃ W2 : World, W2 = (((((wr.setCell ⟨w.heap.size, k * 5, none⟩ (.int .i64 (k : Int))).setCell ⟨w.heap.size, k * 5 + 1, none⟩ (.int .u64 1)).setCell ⟨w.heap.size, k * 5 + 2, none⟩ (.slice (some ⟨wr.heap.size, 0, none⟩) per per)).setCell ⟨w.heap.size, k * 5 + 3, none⟩ (.bool false)).setCell ⟨w.heap.size, k * 5 + 4, none⟩ (.int .i64 0)).alloc (.cells (madeCells #[Value.int .i64 0] per) 3) := ⟨_, rfl⟩
      rw [← hW2] at HS5 HKA HBL
      have HW2 := Lib.hid hW2
      clear hW2
      go_wp2_with fail
      rw [← HW2.out]
      clear c0 c1 c2 c3 c4 f0 f1 f2 f3 f4
      have hkp := HM.out k (by omega)
      obtain ⟨wo, rfl⟩ : ∃ wo : World, wo = wr := ⟨_, rfl⟩
      go_loopw [8, 42] (fun _ i wr => ∃ (m : Nat) (cur : Array Value), i = .int .i64 m ∧ m ≤ per ∧ wr.heap[wo.heap.size]? = some (.cells cur 3 (0, 0)) ∧ cur.size = per ∧ (∀ i, i < m → cur[i]? = some (.int .i64 ((k * per + i + 1 : Nat) : Int))) ∧ Kept (fun i => i = wo.heap.size) W2 wr) (fun _ i _ => per - (intOf i).toNat)
      case atStart => exact ⟨0, _, rfl, Nat.zero_le _, HBL.out, by rw [size_madeCells], fun i h => absurd h (by omega), Kept.refl _ _⟩
      case round =>
        obtain ⟨m, cur, rfl, hm, hcur, hcs, hdone, hkd⟩ := hrel
        have HCUR := Lib.hid hcur
        have HCS := Lib.hid hcs
        have HDN := Lib.hid hdone
        have HKD := Lib.hid hkd
        have hneg : w.heap.size ≠ wo.heap.size := by omega
        have HS6 := Lib.hid (HS5.out.kept hkd (fun h => hneg h))
        clear hdone hkd
        by_cases hml : m < per
        · have d2 := (HS6.out.cell (m := k * 5 + 2) (by rw [lk_len]; omega)).1
          rw [cellC2, upd_at] at d2
          obtain ⟨u0, hu0⟩ : ∃ u, wr.cell? ⟨wo.heap.size, m, none⟩ = some u := ⟨_, (cell_of_row _ _ m _ _ _ hcur).trans (Array.getElem?_eq_getElem (by omega))⟩
          have z0 : wr.frozen? ⟨wo.heap.size, m, none⟩ = false := by simp [World.frozen?, hcur]
          obtain ⟨kp, hkpe⟩ : ∃ kp, kp = k * per := ⟨_, rfl⟩
          have hkI : (k : Int) * (per : Int) = (kp : Int) := by rw [hkpe]; exact (Int.natCast_mul _ _).symm
          have HKP := Lib.hid hkpe
          rw [← hkpe] at hkp
          have hw1 : IntKind.i64.wrap ((k : Int) * (per : Int)) = (kp : Int) := by rw [hkI]; exact IntWalk.i64_in _ (by omega)
          have hm0 : (0 : Int) ≤ (m : Int) := by omega
          have hm1 : (m : Int) < (per : Int) := by omega
          have hlkl : (lkC chains per (k + 1)).length = chains := lk_len _ _ _
          clear hcur hcs hkpe hkI hlkl
          go_wp2
          refine ⟨⟨m + 1, _, by go_num, by omega, bset1 HCUR.out m _, by rw [Array.size_setIfInBounds]; exact HCS.out, fun i hi => ?_, HKD.out.setCell (p := ⟨wo.heap.size, m, none⟩) (.inl rfl) _⟩, by simp [intOf]; omega⟩
          rw [Array.getElem?_setIfInBounds]
          by_cases e : m = i
          · subst e
            rw [if_pos rfl, if_pos (by rw [HCS.out]; exact hml), ← HKP.out]
            congr 1
          · rw [if_neg e]
            exact HDN.out i (by omega)
        · obtain rfl : m = per := by omega
          have hmle := HCS.out
          clear hcur hcs
          go_wp2
          refine ⟨⟨k + 1, _, by go_num, by omega, HS6.out, fun j hj => ?_, ?_⟩, by simp [intOf]; omega⟩
          · by_cases e : j = k
            · subst e
              rw [upd_at]
              refine ⟨by simp [ivs], .inr ⟨wo.heap.size, m, cur, by rw [beg1_ns], by omega, HCUR.out, by rw [beg1_ns]; exact Nat.le_refl _, by unfold maxLen; omega, by rw [HCS.out]; omega, ?_⟩⟩
              rw [beg1_ns]
              refine List.ext_getElem? fun i => ?_
              rw [List.getElem?_take]
              unfold ivs
              rw [List.getElem?_map]
              by_cases hi : i < m
              · rw [if_pos (by omega), Array.getElem?_toList, HDN.out i hi, List.getElem?_eq_getElem (by rw [beg1_ns]; exact hi), ← getD_at, beg1_at hi]
                rfl
              · rw [if_neg (by omega), List.getElem?_eq_none (by rw [beg1_ns]; omega)]
                rfl
            · rw [upd_far e]
              have h2 := HO.out j (by omega)
              have h3 := row_keptI h2 HKA.out (fun i hi h => row_ne HR.out h2 (h ▸ hi))
              exact row_keptI h3 HKD.out (fun i hi h => by have := (World.ownsRow.lt h2 i hi).2; omega)
          · have hk2 := HKA.out.trans HKD.out (S := fun i => i = w.heap.size) (fun i hi h => by omega)
            exact ⟨hk2.os.trans HK.out.os, hk2.tape.trans HK.out.tape, hk2.output.trans HK.out.output, Nat.le_trans HK.out.size hk2.size, fun i hi _ => (hk2.block i (Nat.lt_of_lt_of_le hi HK.out.size) (fun h => by omega)).trans (HK.out.block i hi (fun h => h))⟩
    · obtain rfl : k = chains := by omega
      go_wp2
      go_ret2
      have hnod : NodesC wr (fun i => w.heap.size ≤ i) (lkC k per k) us := fun j hj => by
        rw [lk_len] at hj
        rw [lk_nth hj, if_pos hj]
        exact ⟨(HO.out j hj).nslB, by show (0 : Int) ≤ 1; omega, by show (1 : Int) ≤ topE; unfold topE; omega, by rw [beg1_ns]; omega⟩
      have hcf := HR.out.cfs hnod (Nat.le_refl _)
      rw [lk_all, begL_len] at hcf
      exact ⟨.slice (some ⟨w.heap.size, 0, none⟩) k k, (by rw [HBX.out.2] <;> rfl), (by rw [HBX.out.1]; exact hcf), HK.out⟩
theorem Begin_bad (chains per : Int) (w : World) (h : begB chains per = false) : Calls Tryd.prog 18 #[.int .i64 chains, .int .i64 per] w (BegE chains per w) := by
  have HBX : Hid (begC chains per = [] ∧ begX chains per = 1) := Lib.hid (by unfold begC begX; rw [h]; exact ⟨rfl, rfl⟩)
  have hb : ¬ (1 ≤ chains ∧ chains ≤ 4 ∧ 1 ≤ per ∧ per ≤ 5) := of_decide_eq_false h
  have hfin : BegE chains per w (.returned (.tuple #[.slice none 0 0, .int .i64 1])) w := by
    exact ⟨.slice none 0 0, (by rw [HBX.out.2] <;> rfl), (by rw [HBX.out.1]; exact CfsAt.nil _ _), Kept.refl _ _⟩
  have HF := Lib.hid hfin
  clear h hfin HBX
  by_cases h1 : chains < 1
  · clear hb
    go_enter Tryd.func18, Tryd.ntmps18
    go_wp2
    go_ret2
    exact HF.out
  · have b1 : decide (chains < 1) = false := decide_eq_false h1
    by_cases h2 : 4 < chains
    · clear hb
      go_enter Tryd.func18, Tryd.ntmps18
      go_wp2
      go_ret2
      exact HF.out
    · have b2 : decide (4 < chains) = false := decide_eq_false h2
      by_cases h3 : per < 1
      · clear hb
        go_enter Tryd.func18, Tryd.ntmps18
        go_wp2
        go_ret2
        exact HF.out
      · have b3 : decide (per < 1) = false := decide_eq_false h3
        have h4 : 5 < per := by omega
        clear hb
        go_enter Tryd.func18, Tryd.ntmps18
        go_wp2
        go_ret2
        exact HF.out
theorem Begin_any (chains per : Int) (w : World) : Calls Tryd.prog 18 #[.int .i64 chains, .int .i64 per] w (BegE chains per w) := by
  cases h : begB chains per with
  | false => exact Begin_bad chains per w h
  | true =>
    have hb : 1 ≤ chains ∧ chains ≤ 4 ∧ 1 ≤ per ∧ per ≤ 5 := of_decide_eq_true h
    obtain ⟨c, rfl⟩ := Int.eq_ofNat_of_zero_le (show 0 ≤ chains by omega)
    obtain ⟨p, rfl⟩ := Int.eq_ofNat_of_zero_le (show 0 ≤ per by omega)
    exact Begin_good c p w (by omega) (by omega) (by omega) (by omega)
end Go.Proofs.YtbdenjmnohhhiaaDoor
