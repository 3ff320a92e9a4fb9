/-
  slices.DeleteFunc, Delete and Clone over rows of reads.
-/
import Derived.Test.YtnnmkmipeoajjaaGreatDoorCrqE
import Derived.Test.YtnnmkmipeoajjaaGreatDoorVer1
namespace Go.Proofs.YtnnmkmipeoajjaaGreatDoor
open Go.RowKit
set_option linter.unusedVariables false
set_option linter.unusedSimpArgs false

def keepR (p : Rq → Bool) (L : List Rq) : List Rq := L.filter (fun x => !p x)
theorem keepR_take (p : Rq → Bool) (L : List Rq) (k : Nat) (h : k < L.length) : keepR p (L.take (k + 1)) = keepR p (L.take k) ++ (if p L[k] = true then [] else [L[k]]) := by
  unfold keepR
  rw [List.take_add_one, List.getElem?_eq_getElem h, List.filter_append]
  by_cases e : p L[k] = true
  · simp [e]
  · have e : p L[k] = false := by simpa using e
    simp [e]
theorem keepR_none {p : Rq → Bool} {L : List Rq} (h : L.any p = false) : keepR p L = L := by
  unfold keepR
  rw [List.filter_eq_self]
  intro x hx
  have := List.any_eq_false.1 h x hx
  simpa using this
theorem keepR_len (p : Rq → Bool) (L : List Rq) : (keepR p L).length ≤ L.length := List.length_filter_le _ _
theorem zero_rq (w : World) : (zeroValue 33).run Tryz.prog w = .ok (.agg #[.int .u64 0, .int .i64 0, .int .u64 0, .int .u32 0]) w := by kernel_rfl
/-- What clear writes. -/
def zer4 (n : Nat) : List Value := (Builtin.zeroCells #[.int .u64 0, .int .i64 0, .int .u64 0, .int .u32 0] n).toList
theorem zer4_len (n : Nat) : (zer4 n).length = n * 4 := by unfold zer4; rw [Array.length_toList, size_zeroCells]; rfl
theorem zer4_one (n : Nat) : ∀ v ∈ zer4 n, v.oneCell' = true := by
  intro v hv
  unfold zer4 Builtin.zeroCells at hv
  rw [Array.mem_toList_iff, Array.mem_map] at hv
  obtain ⟨i, _, rfl⟩ := hv
  have h3 : i % 4 < 4 := Nat.mod_lt _ (by decide)
  show ((#[Value.int .u64 0, .int .i64 0, .int .u64 0, .int .u32 0] : Array Value)[i % 4]!).oneCell' = true
  match i % 4, h3 with
  | 0, _ | 1, _ | 2, _ | 3, _ => rfl
theorem run_clear22 (w : World) (ty : TypeId) (b o n c : Nat) (hn : 0 < n) (hc : ∀ j, j < n * 4 → (w.cell? ⟨b, o + j, none⟩).isSome = true) (hf : ∀ j, j < n * 4 → w.frozen? ⟨b, o + j, none⟩ = false) :
    (Builtin.clear_ #[46] ty #[.slice (some ⟨b, o, none⟩) n c]).run Tryz.prog w = .ok (.tuple #[]) (w.setCells b o (zer4 n)) := by
  have hst := run_storeCells_cells (P := Tryz.prog) b o (zer4 n) 0 w (by rw [zer4_len]; simpa using hc) (by rw [zer4_len]; simpa using hf) (zer4_one n)
  simp only [Nat.add_zero] at hst
  unfold zer4 at hst ⊢
  obtain ⟨m, rfl⟩ : ∃ m, n = m + 1 := ⟨n - 1, by omega⟩
  have hz : ∀ w, (zeroValue 33).run Tryz.prog w = .ok (.agg #[.int .u64 0, .int .i64 0, .int .u64 0, .int .u32 0]) w := zero_rq
  simp [Builtin.clear_, run_underlying Tryz.underlying46, hz, Value.cells, hst]
/-- Where the loop stands: jj reads have been looked at. -/
def DfR (r c : Nat) (p : Rq → Bool) (L : List Rq) (w wr : World) (jj : Nat) : Prop :=
  ∃ cur : Array Value, wr.heap[r]? = some (.cells cur 33 (0, 0)) ∧ cur.size = c * 4 ∧ cur.toList.take ((keepR p (L.take jj)).length * 4) = rql (keepR p (L.take jj)) ∧ (∀ m (h : m < L.length), jj ≤ m → ∀ i, i < 4 → cur[m * 4 + i]? = (rqc L[m])[i]?) ∧ Kept (fun k => k = r) w wr
theorem DfR.keep {r c : Nat} {p : Rq → Bool} {L : List Rq} {w wr w2 : World} {jj : Nat} (h : DfR r c p L w wr jj) (hk : Kept NoB wr w2) : DfR r c p L w w2 jj := by
  obtain ⟨cur, h1, h2, h3, h4, h5⟩ := h
  exact ⟨cur, hk.heap (fun h => h) h1, h2, h3, h4, h5.trans hk (fun _ _ h => h.elim)⟩
theorem DfR.skip {r c : Nat} {p : Rq → Bool} {L : List Rq} {w wr : World} {jj : Nat} (h : DfR r c p L w wr jj) (hj : jj < L.length) (hm : p L[jj] = true) : DfR r c p L w wr (jj + 1) ∧ (keepR p (L.take (jj + 1))).length = (keepR p (L.take jj)).length := by
  obtain ⟨cur, h1, h2, h3, h4, h5⟩ := h
  have e : keepR p (L.take (jj + 1)) = keepR p (L.take jj) := by rw [keepR_take p L jj hj, if_pos hm, List.append_nil]
  exact ⟨⟨cur, h1, h2, by rw [e]; exact h3, fun m hm1 hm2 => h4 m hm1 (by omega), h5⟩, by rw [e]⟩
theorem take_mid {α : Type} {A B C : List α} {n k : Nat} (hA : A.length = n) (hB : B.length = k) : (A ++ (B ++ C)).take (n + k) = A ++ B := by
  subst hA hB
  rw [← List.append_assoc, List.take_append_of_le_length (by simp), List.take_of_length_le (by simp)]
theorem DfR.put {r c i : Nat} {p : Rq → Bool} {L : List Rq} {w wr : World} {jj : Nat} (h : DfR r c p L w wr jj) (hj : jj < L.length) (hm : p L[jj] = false) (hi : i = (keepR p (L.take jj)).length) (hij : i < jj) (hlc : L.length ≤ c) :
    DfR r c p L w (wr.setCells r (i * 4) (rqc L[jj])) (jj + 1) ∧ (keepR p (L.take (jj + 1))).length = i + 1 := by
  obtain ⟨cur, h1, h2, h3, h4, h5⟩ := h
  have e : keepR p (L.take (jj + 1)) = keepR p (L.take jj) ++ [L[jj]] := by rw [keepR_take p L jj hj, if_neg (by simp [hm])]
  have e2 : (keepR p (L.take (jj + 1))).length = i + 1 := by rw [e, List.length_append, ← hi]; rfl
  have hl4 : (rqc L[jj]).length = 4 := rfl
  obtain ⟨cur', g1, g2, g3⟩ := heap_puts15 (rqc L[jj]) (i * 4) wr cur h1 (by rw [hl4, h2]; omega)
  have hcl : cur.toList.length = c * 4 := by rw [Array.length_toList, h2]
  refine ⟨⟨cur', g1, by rw [g2, h2], ?_, fun m hm1 hm2 q hq => ?_, kept_puts15 (S := fun k => k = r) (.inl (Eq.refl r)) _ _ _ h5⟩, e2⟩
  · rw [e2, e, rql_app, ← h3, ← hi, g3, List.append_assoc, show (i + 1) * 4 = i * 4 + 4 by omega, take_mid (by rw [List.length_take, hcl]; omega) hl4]
    simp [rql]
  · rw [← Array.getElem?_toList, g3, List.append_assoc, List.getElem?_append_right (by rw [List.length_take]; omega), List.getElem?_append_right (by rw [List.length_take, hl4]; omega), List.getElem?_drop, List.length_take, hcl, Nat.min_eq_left (by omega), hl4, show i * 4 + 4 + (m * 4 + q - i * 4 - 4) = m * 4 + q by omega, Array.getElem?_toList]
    exact h4 m hm1 (by omega) q hq
def DfPR (B : Nat) (a : Option Addr) (c : Nat) (p : Rq → Bool) (L : List Rq) (w : World) (e : Ending) (w' : World) : Prop :=
  e = .returned (.slice a (keepR p L).length c) ∧ RqOw 33 B w' (.slice a (keepR p L).length c) (keepR p L) ∧ Kept (fun k => some k = (Value.slice a L.length c).ownBlock) w w'
set_option maxRecDepth 100000 in
set_option maxHeartbeats 2000000 in
theorem DeleteR_any (a : Option Addr) (c : Nat) (L : List Rq) (f : FuncId) (b : Nat) (bs : Array Value) (bt : TypeId) (p : Rq → Bool) (B : Nat) (w : World) (h : RqOw 33 B w (.slice a L.length c) L) (hb : w.heap[b]? = some (.cells bs bt (0, 0))) (hbt : bt ≠ 33) (hp : TellsR f b (.cells bs bt (0, 0)) p) (hl : L.length ≤ 1000) :
    Calls Tryz.prog 77 #[.slice a L.length c, .func (.func f) #[] #[.pointer (some ⟨b, 0, none⟩)]] w (DfPR B a c p L w) := by
  have HX := Lib.hid (IndexR_any _ L f b _ p B w h hb hp hl)
  have HO := Lib.hid h
  have HB := Lib.hid hb
  have HP := Lib.hid hp.2
  have hent : ∀ (args : Array Value) (w : World), Sem.run Tryz.prog (callFunc f args) w = .ok (.enter f args) w := hp.1
  obtain ⟨m, hm⟩ : ∃ m, m = L.length := ⟨_, rfl⟩
  have HM := Lib.hid hm
  have hml : m ≤ 1000 := by rw [hm]; exact hl
  rw [← hm] at HX HO ⊢
  clear h hb hp hm
  go_enter Tryz.func77, Tryz.ntmps77
  go_wp2_with fail
  refine HX.out.mono ?_
  rintro e w1 ⟨r0, rfl, hk1, (⟨rfl, hnone⟩ | ⟨k, hk, rfl, hno, hyes⟩)⟩
  · have HK1 := Lib.hid hk1
    have HS := Lib.hid (keepR_none hnone)
    clear hk1 hnone
    go_wp2
    go_ret
    unfold DfPR
    rw [HS.out, ← HM.out]
    exact ⟨rfl, HO.out.no HK1.out, HK1.out.mono (fun _ _ h => h.elim)⟩
  · obtain ⟨r, cap, cur, hv, hBr, hcur, hlc, hcm, hcs, hct⟩ : ∃ r cap cur, Value.slice a m c = .slice (some ⟨r, 0, none⟩) m cap ∧ B ≤ r ∧ w.heap[r]? = some (.cells cur 33 (0, 0)) ∧ m ≤ cap ∧ cap ≤ maxLen ∧ cur.size = cap * 4 ∧ cur.toList.take (m * 4) = rql L := by
      rcases HO.out.2 with ⟨hv, h0⟩ | ⟨r, cap, cur, hv, hB, hr, h1, h2, h3, h4⟩
      · have := HM.out; omega
      · rw [← HM.out] at hv h1 h4; exact ⟨r, cap, cur, hv, hB, hr, h1, h2, h3, h4⟩
    injection hv with hv1 hv2 hv3
    clear hv2
    subst hv1 hv3
    unfold maxLen at hcm
    have hbr : b ≠ r := by rintro rfl; have := HB.out; rw [hcur] at this; injection this with this; injection this with _ this; exact hbt this.symm
    have hkm : k < m := by rw [HM.out]; exact hk
    have hst : keepR p (L.take (k + 1)) = L.take k := by rw [keepR_take p L k hk, if_pos hyes, List.append_nil]; exact keepR_none hno
    have hcell : ∀ j, j < m * 4 → cur[j]? = (rql L)[j]? := by intro j hj; rw [← hct, List.getElem?_take, if_pos hj, Array.getElem?_toList]
    have hd0 : DfR r c p L w w1 (k + 1) := by
      refine ⟨cur, hk1.heap (fun h => h) hcur, hcs, ?_, fun q hq1 hq2 i hi => ?_, hk1.mono (fun _ _ h => h.elim)⟩
      · rw [hst, rql_take, List.length_take, Nat.min_eq_left (by omega), ← hct, List.take_take, Nat.min_eq_left (by omega)]
      · rw [hcell _ (by have := HM.out; omega), rql_at L q i hq1 hi]
    have hlen0 : (keepR p (L.take (k + 1))).length = k := by rw [hst, List.length_take]; omega
    have HD0 := Lib.hid hd0
    have HL0 := Lib.hid hlen0
    have HB1 := Lib.hid (hk1.heap (fun h => h) HB.out)
    have hkm2 : ((k : Int) == -1) = false := by simp <;> omega
    clear hcell hcur hcs hct hst hd0 hlen0 hno hyes hk1
    go_wp2
    go_loopw [5, 6] (fun i j wr => ∃ ii jj : Nat, i = .int .i64 ii ∧ j = .int .i64 jj ∧ ii = (keepR p (L.take jj)).length ∧ ii < jj ∧ jj ≤ m ∧ DfR r c p L w wr jj ∧ wr.heap[b]? = some (.cells bs bt (0, 0))) (fun _ j _ => m - (intOf j).toNat)
    case atStart => exact ⟨k, k + 1, rfl, by go_num, HL0.out.symm, by omega, by omega, HD0.out, HB1.out⟩
    case round =>
      obtain ⟨ii, jj, rfl, rfl, hii, hlt, hjl, hdi, hgb⟩ := hrel
      have HII := Lib.hid hii
      have HDI := Lib.hid hdi
      have HGB := Lib.hid hgb
      obtain ⟨cur, hcur, hcs, _, hce, _⟩ := hdi
      clear hii hgb
      by_cases hj : jj < m
      · have hjL : jj < L.length := by rw [← HM.out]; exact hj
        have c0 := hce jj hjL (Nat.le_refl _) 0 (by omega)
        have c1 := hce jj hjL (Nat.le_refl _) 1 (by omega)
        have c2 := hce jj hjL (Nat.le_refl _) 2 (by omega)
        have c3 := hce jj hjL (Nat.le_refl _) 3 (by omega)
        obtain ⟨y, hy⟩ : ∃ y, y = L[jj] := ⟨_, rfl⟩
        have HY := Lib.hid hy
        rw [← hy] at c0 c1 c2 c3
        have HPY := Lib.hid (fun W (h : W.heap[b]? = some (.cells bs bt (0, 0))) => HP.out y W h)
        obtain ⟨q, hq⟩ : ∃ q, q = p y := ⟨_, rfl⟩
        rw [← hq] at HPY
        have HQ := Lib.hid hq
        obtain ⟨yt, yc, yn, yk⟩ := y
        simp only [rqv] at HPY
        have e0 : wr.cell? ⟨r, jj * 4, none⟩ = some (.int .u64 yt) := (cell_of_row wr r (jj * 4) _ _ _ hcur).trans c0
        have e1 : wr.cell? ⟨r, jj * 4 + 1, none⟩ = some (.int .i64 yc) := (cell_of_row wr r (jj * 4 + 1) _ _ _ hcur).trans c1
        have e2 : wr.cell? ⟨r, jj * 4 + 2, none⟩ = some (.int .u64 yn) := (cell_of_row wr r (jj * 4 + 2) _ _ _ hcur).trans c2
        have e3 : wr.cell? ⟨r, jj * 4 + 3, none⟩ = some (.int .u32 yk) := (cell_of_row wr r (jj * 4 + 3) _ _ _ hcur).trans c3
        have hj1 : (jj : Int) < (m : Int) := by omega
        have hb0 := heap_alloc_new wr (.cells #[.int .u64 yt, .int .i64 yc, .int .u64 yn, .int .u32 yk] 33)
        have hkU := (Kept.refl NoB wr).alloc (.cells #[.int .u64 yt, .int .i64 yc, .int .u64 yn, .int .u32 yk] 33)
        have HC := Lib.hid (HPY.out _ (hkU.heap (fun h => h) HGB.out))
        have HB0 := Lib.hid hb0
        have hrlt : r < wr.heap.size := heap_lt hcur
        clear hcur hcs hce c0 c1 c2 c3 hy hb0 hq
        go_upto_region 8 with fail
        obtain ⟨U, hU⟩ : ∃ U, U = wr.alloc (.cells #[.int .u64 yt, .int .i64 yc, .int .u64 yn, .int .u32 yk] 33) := ⟨_, rfl⟩
        rw [← hU] at HC HB0 hkU ⊢
        have HKU := Lib.hid hkU
        obtain ⟨v0, v1, v2, v3, _⟩ := cells4q HB0.out
        clear hU hkU e0 e1 e2 e3
        have hnot : ∀ (x : Bool) (w : World), (Op.unary .not (.bool x)).run Tryz.prog w = .ok (.bool (!x)) w := fun _ _ => rfl
        obtain ⟨bx, hbx⟩ : ∃ bx, bx = wr.heap.size := ⟨_, rfl⟩
        rw [← hbx] at v0 v1 v2 v3 HB0 ⊢
        have hrb : ¬ r = bx := by omega
        have hbr2 : ¬ bx = r := by omega
        clear hbx
        cases q with
        | true =>
          have HMM := Lib.hid ((HDI.out.keep HKU.out).skip hjL (by rw [← HY.out]; exact HQ.out.symm))
          go_wp2_with fail
          refine HC.out.mono ?_
          rintro e w2 ⟨rfl, hk2⟩
          have HD2 := Lib.hid (HMM.out.1.keep hk2)
          have HG2 := Lib.hid (hk2.heap (fun h => h) (HKU.out.heap (fun h => h) HGB.out))
          clear hk2
          go_wp2
          exact ⟨⟨ii, jj + 1, rfl, by go_num, by rw [HMM.out.2]; exact HII.out, by omega, by omega, HD2.out, HG2.out⟩, by simp [intOf]; omega⟩
        | false =>
          go_wp2_with fail
          refine HC.out.mono ?_
          rintro e w2 ⟨rfl, hk2⟩
          have HD2 := Lib.hid ((HDI.out.keep HKU.out).keep hk2)
          have hp := HD2.out.put hjL (by rw [← HY.out]; exact HQ.out.symm) HII.out hlt (by rw [← HM.out]; exact hlc)
          rw [← HY.out] at hp
          have HP2 := Lib.hid hp
          obtain ⟨cur2, hcur2, hcs2, _⟩ := HD2.out
          have HG2 := Lib.hid ((kept_puts15 (S := fun k => k = r) (g := r) (.inl (Eq.refl r)) (rqc ⟨yt, yc, yn, yk⟩) (ii * 4) w2 (Kept.refl _ _)).heap hbr (hk2.heap (fun h => h) (HKU.out.heap (fun h => h) HGB.out)))
          obtain ⟨v0, v1, v2, v3, _⟩ := cells4q (hk2.heap (fun h => h) HB0.out)
          have i0 : (ii : Int) < (m : Int) := by omega
          have hi4 : ii * 4 + 3 < cur2.size := by rw [hcs2]; omega
          obtain ⟨u0, hu0⟩ : ∃ u, w2.cell? ⟨r, ii * 4, none⟩ = some u := ⟨_, (cell_of_row w2 r (ii * 4) _ _ _ hcur2).trans (Array.getElem?_eq_getElem (by omega))⟩
          obtain ⟨u1, hu1⟩ : ∃ u, w2.cell? ⟨r, ii * 4 + 1, none⟩ = some u := ⟨_, (cell_of_row w2 r (ii * 4 + 1) _ _ _ hcur2).trans (Array.getElem?_eq_getElem (by omega))⟩
          obtain ⟨u2, hu2⟩ : ∃ u, w2.cell? ⟨r, ii * 4 + 2, none⟩ = some u := ⟨_, (cell_of_row w2 r (ii * 4 + 2) _ _ _ hcur2).trans (Array.getElem?_eq_getElem (by omega))⟩
          obtain ⟨u3, hu3⟩ : ∃ u, w2.cell? ⟨r, ii * 4 + 3, none⟩ = some u := ⟨_, (cell_of_row w2 r (ii * 4 + 3) _ _ _ hcur2).trans (Array.getElem?_eq_getElem (by omega))⟩
          have z0 : w2.frozen? ⟨r, ii * 4, none⟩ = false := blkV_frozen hcur2 _
          have z1 : w2.frozen? ⟨r, ii * 4 + 1, none⟩ = false := blkV_frozen hcur2 _
          have z2 : w2.frozen? ⟨r, ii * 4 + 2, none⟩ = false := blkV_frozen hcur2 _
          have z3 : w2.frozen? ⟨r, ii * 4 + 3, none⟩ = false := blkV_frozen hcur2 _
          clear hk2 hp hcur2 hcs2 hi4
          go_wp2
          exact ⟨⟨ii + 1, jj + 1, by go_num, by go_num, HP2.out.2.symm, by omega, by omega, HP2.out.1, HG2.out⟩, by simp [intOf]; omega⟩
      · obtain rfl : jj = m := by omega
        have hLt : L.take jj = L := by rw [HM.out, List.take_length]
        have hlen : (keepR p L).length = ii := by have := HII.out; rw [hLt] at this; exact this.symm
        have hclr := run_clear22 wr
        have hclr2 : ∀ ty, (Builtin.clear_ #[46] ty #[.slice (some ⟨r, ii * 4, none⟩) (jj - ii) (c - ii)]).run Tryz.prog wr = .ok (.tuple #[]) (wr.setCells r (ii * 4) (zer4 (jj - ii))) := fun ty => run_clear22 wr ty r (ii * 4) (jj - ii) (c - ii) (by omega) (fun j hj => by rw [cell_of_row wr r (ii * 4 + j) _ _ _ hcur, Array.getElem?_eq_getElem (by omega)]; rfl) (fun j _ => blkV_frozen hcur _)
        have HLEN := Lib.hid hlen
        have HLT := Lib.hid hLt
        have HCUR := Lib.hid hcur
        have HCS := Lib.hid hcs
        have i0 : (ii : Int) ≤ (jj : Int) := by omega
        have i1 : (ii : Int) ≤ (c : Int) := by omega
        have i2 : ¬ (c = ii) := by omega
        clear hce hlen hcur hcs hclr hLt
        go_wp2
        go_ret
        obtain ⟨cur', h1, h2, h3, _, h5⟩ := HDI.out
        have hlen := HLEN.out
        rw [HLT.out, hlen] at h3
        obtain ⟨cur3, k1, k2, k3⟩ := heap_puts15 (zer4 (jj - ii)) (ii * 4) wr cur' h1 (by rw [zer4_len]; omega)
        unfold DfPR
        rw [hlen]
        refine ⟨rfl, ⟨by rw [rql_len], .inr ⟨r, c, cur3, by rw [hlen], hBr, k1, by rw [hlen]; omega, by unfold maxLen; omega, by omega, ?_⟩⟩, ?_⟩
        · have hcl : cur'.toList.length = c * 4 := by simpa using h2
          rw [hlen, k3, List.append_assoc, List.take_append_of_le_length (by rw [List.length_take]; omega), List.take_of_length_le (by rw [List.length_take]; omega)]
          exact h3
        · exact (kept_puts15 (S := fun k => k = r) (.inl (Eq.refl r)) _ _ _ h5).mono (fun i _ h => by have h : i = r := h; rw [h]; rfl)
end Go.Proofs.YtnnmkmipeoajjaaGreatDoor
