/-
  Layer 31: the page's example.
-/
import Derived.Test.YtokafgleejcbgaaGreatDoorTreL
import Derived.Lib.SlBytesConst
namespace Go.Proofs.YtokafgleejcbgaaGreatDoor
open Go.RowKit
set_option linter.unusedVariables false
set_option maxRecDepth 100000

theorem ex_path31 : pathE [47, 97] = 0 ∧ pathNs [47, 97] = [[97]] ∧ abv29 [47, 97] = ([47], [97], 0) ∧ pathE [47] = 0 ∧ pathNs [47] = [] := by decide
theorem ex_lt31 : lt31 [47] [47, 97] := by decide
theorem ex_jn31 : jn29 [[97]] = [47, 97] := by decide
abbrev ex0 (b : Nat) : It := newIt [47] b true
abbrev ex1 (b : Nat) : It := ⟨[47], b, true, [], 1, fun _ => False⟩
theorem ne31 : ¬ ([47] : List UInt8) = [47, 97] := by decide
theorem ex_at0 (b : Nat) : atT [ex0 b] [47] = some (ex0 b) ∧ atT [ex0 b] [47, 97] = none := by
  refine ⟨?_, ?_⟩
  · rw [atT_cons, if_pos (show (ex0 b).p = [47] from rfl)]
  · rw [atT_cons, if_neg (show ¬ (ex0 b).p = [47, 97] from ne31)]; rfl
theorem ex_rs0 (b : Nat) : rs31 [ex0 b] (ex0 b) [47] = (0, some (ex0 b)) := by
  obtain ⟨_, _, _, h4, h5⟩ := ex_path31
  unfold rs31
  rw [h4, h5]
  rfl
theorem ex_pa0 (b : Nat) : pa31 [ex0 b] (ex0 b) [47, 97] = (0, some (ex0 b)) := by
  obtain ⟨_, _, h3, _, _⟩ := ex_path31
  unfold pa31
  rw [h3, if_neg (by simp)]
  show (match (rs31 [ex0 b] (ex0 b) [47]).2 with | none => ((rs31 [ex0 b] (ex0 b) [47]).1, none) | some x => if x.dir = true then (0, some x) else (14, none)) = (0, some (ex0 b))
  rw [ex_rs0]
  rfl
theorem ex_sz0 (b : Nat) : sz31 (ex0 b) = 0 := rfl
theorem ex_sz1 (b : Nat) : sz31 (ex1 b) = 16 := rfl
theorem ex_szv (b : Nat) : sz31 (newIt [47, 97] b false) = 0 := rfl
theorem ex_cr (b : Nat) : cr31 4 4 [ex0 b] (ex0 b) [47, 97] = 0 := by
  have h1 : room31 (ex0 b) = true := by unfold room31; rw [ex_sz0]; decide
  have h2 : blkT [ex0 b] = 0 := by unfold blkT ndT; simp only [List.map_cons, List.map_nil, List.sum_cons, List.sum_nil, ex_sz0]; decide
  have h3 : more31 (ex0 b) 16 = 1 := by unfold more31; rw [ex_sz0]; decide
  unfold cr31
  rw [ex_pa0]
  simp only
  rw [(ex_at0 b).2, if_neg (by simp), h1, if_neg (by simp), h2, h3, if_neg (by simp)]
theorem ex_put (b b1 : Nat) : incT (putT [ex0 b] (newIt [47, 97] b1 false)) [47] = [ex1 b, newIt [47, 97] b1 false] := by
  have h : putT [ex0 b] (newIt [47, 97] b1 false) = [ex0 b, newIt [47, 97] b1 false] := by
    unfold putT
    rw [if_pos (show lt31 (ex0 b).p (newIt [47, 97] b1 false).p from ex_lt31)]
    rfl
  rw [h]
  unfold incT
  rw [List.map_cons, List.map_cons, List.map_nil]
  unfold inc31
  rw [if_pos (show (ex0 b).p = [47] from rfl), if_neg (show ¬ (newIt [47, 97] b1 false).p = [47] from fun h => ne31 h.symm)]
  rfl
theorem ex_at1 (b : Nat) (v : It) (hv : v.p = [47, 97]) : atT [ex1 b, v] [47] = some (ex1 b) ∧ atT [ex1 b, v] [47, 97] = some v := by
  refine ⟨?_, ?_⟩
  · rw [atT_cons, if_pos (show (ex1 b).p = [47] from rfl)]
  · rw [atT_cons, if_neg (show ¬ (ex1 b).p = [47, 97] from ne31), atT_cons, if_pos hv]
theorem ex_rs1 (b : Nat) (v : It) (hv : v.p = [47, 97]) : rs31 [ex1 b, v] (ex1 b) [47, 97] = (0, some v) := by
  obtain ⟨h1, h2, _, _, _⟩ := ex_path31
  have h : rsT [ex1 b, v] [[97]] 1 (ex1 b) = (0, v) := by
    rw [rsT, if_pos rfl]
    show (match atT [ex1 b, v] (jn29 [[97]]) with | none => (13, ex1 b) | some y => rsT [ex1 b, v] [[97]] 0 y) = (0, v)
    rw [ex_jn31, (ex_at1 b v hv).2]
    rfl
  unfold rs31
  rw [h1, h2, if_neg (by simp)]
  show ((rsT [ex1 b, v] [[97]] 1 (ex1 b)).1, if (rsT [ex1 b, v] [[97]] 1 (ex1 b)).1 = 0 then some (rsT [ex1 b, v] [[97]] 1 (ex1 b)).2 else none) = _
  rw [h]
  rfl
theorem ex_fl1 (b b1 : Nat) : fl31 [ex1 b, newIt [47, 97] b1 false] (ex1 b) [47, 97] 0 = (0, some (newIt [47, 97] b1 false)) := by
  unfold fl31
  rw [ex_rs1 b _ rfl]
  rfl
theorem ex_pu (b b1 : Nat) : pu31 4 [ex1 b, newIt [47, 97] b1 false] (ex1 b) [47, 97] 0 [97, 98, 99] = 0 := by
  have h2 : blkT [ex1 b, newIt [47, 97] b1 false] = 1 := by unfold blkT ndT; simp only [List.map_cons, List.map_nil, List.sum_cons, List.sum_nil, ex_sz1, ex_szv]; decide
  have h3 : more31 (newIt [47, 97] b1 false) 3 = 1 := by unfold more31; rw [ex_szv]; decide
  unfold pu31
  rw [ex_fl1, if_neg (by simp)]
  show (if (512 : Int) < 0 + (([97, 98, 99] : List Int).length : Int) then (17 : Int) else if ¬ blkT [ex1 b, newIt [47, 97] b1 false] + more31 (newIt [47, 97] b1 false) 3 ≤ 4 then 16 else 0) = 0
  rw [h2, h3, if_neg (by simp), if_neg (by simp)]
abbrev ex2 (b1 nb : Nat) : It := ⟨[47, 97], b1, false, [97, 98, 99], 0, fun k => k = nb⟩
theorem ex_set (b b1 nb : Nat) : setD [ex1 b, newIt [47, 97] b1 false] [47, 97] (newD [] 0 [97, 98, 99]) (fun k => k = nb) = [ex1 b, ex2 b1 nb] := by
  unfold setD
  rw [List.map_cons, List.map_cons, List.map_nil]
  unfold set31
  rw [if_neg (show ¬ (ex1 b).p = [47, 97] from ne31), if_pos (show (newIt [47, 97] b1 false).p = [47, 97] from rfl)]
  rfl
theorem ex_st (b b1 nb : Nat) : st31 [ex1 b, ex2 b1 nb] (ex1 b) [47, 97] = (0, 3, false) := by
  unfold st31
  rw [ex_rs1 b _ rfl]
  rfl
theorem ex_sz2 (b nb : Nat) : sz31 (ex2 b nb) = 3 := rfl
theorem ex_blk (b b1 nb : Nat) : blkT [ex1 b, ex2 b1 nb] = 2 := by unfold blkT ndT; simp only [List.map_cons, List.map_nil, List.sum_cons, List.sum_nil, ex_sz1, ex_sz2]; decide
theorem ex_k0 {w w1 w2 : World} {bm b : Nat} (hk : Kept NoB w w1) (h : Kept (Foot31 bm [ex0 b]) w1 w2) (h1 : w.heap.size ≤ bm) (h2 : w.heap.size ≤ b) : Kept NoB w w2 :=
  hk.trans h (fun i hi hf => by
    rcases hf with hf | ⟨x, hx, hf⟩
    · omega
    · rw [List.mem_singleton] at hx
      rw [hx] at hf
      have hf : i = b := hf
      omega)
theorem ex_k1 {w w1 w2 : World} {bm b : Nat} {v : It} (hk : Kept NoB w w1) (h : Kept (Foot31 bm [ex1 b, v]) w1 w2) (h1 : w.heap.size ≤ bm) (h2 : w.heap.size ≤ b) (h3 : w.heap.size ≤ v.b) : Kept NoB w w2 :=
  hk.trans h (fun i hi hf => by
    rcases hf with hf | ⟨x, hx, hf⟩
    · omega
    · rcases List.mem_cons.1 hx with hx | hx
      · rw [hx] at hf
        have hf : i = b := hf
        omega
      · rw [List.mem_singleton] at hx
        rw [hx] at hf
        omega)
theorem ex_abc (w : World) : BSl (w.alloc (.cells #[.int .u8 97, .int .u8 98, .int .u8 99] 5 (3, 4))) (fun k => k = w.heap.size) (.slice (some ⟨w.heap.size, 0, none⟩) 3 3) [97, 98, 99] := by
  have h := heap_alloc_new w (.cells #[.int .u8 97, .int .u8 98, .int .u8 99] 5 (3, 4))
  refine ⟨some ⟨w.heap.size, 0, none⟩, 3, rfl, Nat.le_refl _, by decide, (fun h => by cases h), (fun x hx => by simp at hx; omega), fun _ => ⟨w.heap.size, 0, rfl, rfl, heap_lt h, fun j hj => ?_⟩⟩
  have hj : j < 3 := hj
  rw [Nat.zero_add, cell_of_row _ _ j _ _ _ h]
  match j, hj with
  | 0, _ => rfl
  | 1, _ => rfl
  | 2, _ => rfl
theorem st_ans31 {q : Int × Int × Bool} {a b : Int} {c : Bool} (h : q = (a, b, c)) : Ending.returned (.agg #[.int .i64 q.1, .slice none 0 0, .slice none 0 0, .int .i64 q.2.1, .bool q.2.2]) = .returned (.agg #[.int .i64 a, .slice none 0 0, .slice none 0 0, .int .i64 b, .bool c]) := by rw [h]
theorem ex_mem {b b1 : Nat} {x : It} (h : x ∈ [ex1 b, newIt [47, 97] b1 false]) (hf : (fl31 [ex1 b, newIt [47, 97] b1 false] (ex1 b) [47, 97] 0).2 = some x) : x = newIt [47, 97] b1 false := by
  rw [ex_fl1] at hf
  exact (Option.some.inj hf).symm
set_option maxHeartbeats 8000000 in
theorem awake31_any (w : World) (hv : Lng w) : Calls Tryz.prog 12 #[] w fun e w' => e = .returned (.bool true) ∧ Kept NoB w w' := by
  have HN := Lib.hid (New31_any 4 4 w)
  have HV := Lib.hid hv
  clear hv
  go_enter Tryz.func12, Tryz.ntmps12
  go_upto_region 2 with (go_at_call 31; refine HN.out.mono ?_; rintro e w1 hn; unfold NewE at hn; rw [if_pos (by decide)] at hn; (obtain ⟨g, bm, b, hg, hbm, hb, rfl, ht, hk⟩ := hn); have HT1 := Lib.hid ht; have HK1 := Lib.hid hk; have HG := Lib.hid hg; have HBM := Lib.hid hbm; have HB := Lib.hid hb; clear ht hk hg hbm hb)
  have HD1 := Lib.hid (Do31_make w1 g bm 4 4 [ex0 b] (ex0 b) ⟨#[47, 97]⟩ ByteArray.empty 0 0 (.slice none 0 0) HT1.out (ex_at0 b).1 (by decide) (HV.out.no HK1.out))
  unfold callV at HD1
  go_upto_region 3 with (go_at_call 4; refine HD1.out.mono ?_; rintro e w2 hm; (obtain ⟨rfl, -, h3⟩ := hm); (obtain ⟨a, ha, b1, hb1, hpa, ht2, hk2⟩ := h3 (ex_cr b)); have hab : a = ex0 b := (by rw [List.mem_singleton] at ha; exact ha); subst hab; have ht2' : TrAt w2 g bm 4 4 [ex1 b, newIt [47, 97] b1 false] := (by rw [← ex_put]; exact ht2); have HT2 := Lib.hid ht2'; have HK2 := Lib.hid (ex_k0 HK1.out hk2 HBM.out HB.out); have HB1 := Lib.hid (show w.heap.size ≤ b1 from Nat.le_trans HK1.out.size hb1); clear h3 ha hb1 hpa ht2 hk2 ht2')
  have hka := (Kept.refl NoB w2).alloc (.cells #[.int .u8 97, .int .u8 98, .int .u8 99] 5 (3, 4))
  have HD2 : Hid (Calls Tryz.prog 4 #[.pointer (some ⟨g, 0, none⟩), .agg #[.int .i64 6, .string ⟨#[47, 97]⟩, .string ByteArray.empty, .int .i64 0, .int .i64 0, .slice (some ⟨w2.heap.size, 0, none⟩) 3 3]] (w2.alloc (.cells #[.int .u8 97, .int .u8 98, .int .u8 99] 5 (3, 4))) (PuE g bm 4 4 [ex1 b, newIt [47, 97] b1 false] (ex1 b) [47, 97] 0 [97, 98, 99] (w2.alloc (.cells #[.int .u8 97, .int .u8 98, .int .u8 99] 5 (3, 4))))) := Lib.hid (Do31_put _ g bm 4 4 [ex1 b, newIt [47, 97] b1 false] (ex1 b) ⟨#[47, 97]⟩ ByteArray.empty 0 0 (some ⟨w2.heap.size, 0, none⟩) 3 [97, 98, 99] (fun k => k = w2.heap.size) (HT2.out.no hka) (ex_at1 b _ rfl).1 (by decide) ((HV.out.no HK2.out).no hka) (ex_abc w2) (fun k hk hf => by have := HT2.out.foot_lt hf; have hk : k = w2.heap.size := hk; omega) (by decide))
  have HKA := Lib.hid (HK2.out.trans hka (fun _ _ h => h))
  have hcv := Lib.run_convert_bytes_const (P := Tryz.prog) w2 22 5 #[.int .u8 97, .int .u8 98, .int .u8 99] 3 3 Tryz.underlying22 Tryz.underlying5
  rw [show (#[Value.int .u8 97, Value.int .u8 98, Value.int .u8 99] : Array Value).size = 3 from rfl] at hcv
  clear hka
  go_upto_region 4 with (go_at_call 4; refine HD2.out.mono ?_; rintro e w3 hm; (obtain ⟨he, -, h3⟩ := hm); have he : e = .returned (.agg #[.int .i64 0, .slice none 0 0, .slice none 0 0, .int .i64 0, .bool false]) := (by rw [he, ex_pu]; rfl); subst he; (obtain ⟨x, hx, nb, hnb, hfl, ht3, hk3⟩ := h3 (ex_pu b b1)); have hxv := ex_mem hx hfl; subst hxv; have ht3' : TrAt w3 g bm 4 4 [ex1 b, ex2 b1 nb] := (by rw [← ex_set]; exact ht3); have HT3 := Lib.hid ht3'; have HK3 := Lib.hid (ex_k1 HKA.out hk3 HBM.out HB.out HB1.out); clear h3 hx hfl ht3 hk3 ht3')
  obtain ⟨W5, hW5⟩ : ∃ W5, W5 = w3.alloc (.cells #[.int .i64 0, .slice none 0 0, .slice none 0 0, .int .i64 0, .bool false] 29) := ⟨_, rfl⟩
  have hk5 : Kept NoB w3 W5 := by rw [hW5]; exact (Kept.refl NoB w3).alloc _
  have HB5 : Hid (W5.heap[w3.heap.size]? = some (.cells #[.int .i64 0, .slice none 0 0, .slice none 0 0, .int .i64 0, .bool false] 29 (0, 0))) := Lib.hid (by rw [hW5]; exact heap_alloc_new w3 _)
  have HT5 := Lib.hid (HT3.out.no hk5)
  have HK5 := Lib.hid (HK3.out.trans hk5 (fun _ _ h => h))
  rw [← hW5]
  have HD3 := Lib.hid (Do31_stat W5 g bm 4 4 [ex1 b, ex2 b1 nb] (ex1 b) ⟨#[47, 97]⟩ ByteArray.empty 0 0 (.slice none 0 0) HT5.out (ex_at1 b _ rfl).1 (by decide) (HV.out.no HK5.out))
  unfold callV at HD3
  obtain ⟨bX, hbX⟩ : ∃ q, q = w3.heap.size := ⟨_, rfl⟩
  rw [← hbX] at HB5 ⊢
  clear hW5 hk5 hbX hcv HD1 HD2 HT1 HT2
  go_upto_region 5 with (go_at_call 4; refine HD3.out.mono ?_; rintro e w4 hm; (obtain ⟨he, hk⟩ := hm); have he : e = .returned (.agg #[.int .i64 0, .slice none 0 0, .slice none 0 0, .int .i64 3, .bool false]) := (he.trans (st_ans31 (ex_st b b1 nb))); subst he; have HK4 := Lib.hid (HK5.out.trans hk (fun _ _ h => h)); have HT4 := Lib.hid (HT5.out.no hk); have HB4 := Lib.hid (hk.heap (fun h => h) HB5.out); clear hk)
  obtain ⟨W6, hW6⟩ : ∃ W6, W6 = w4.alloc (.cells #[.int .i64 0, .slice none 0 0, .slice none 0 0, .int .i64 3, .bool false] 29) := ⟨_, rfl⟩
  have hk6 : Kept NoB w4 W6 := by rw [hW6]; exact (Kept.refl NoB w4).alloc _
  have HB6 : Hid (W6.heap[w4.heap.size]? = some (.cells #[.int .i64 0, .slice none 0 0, .slice none 0 0, .int .i64 3, .bool false] 29 (0, 0))) := Lib.hid (by rw [hW6]; exact heap_alloc_new w4 _)
  have HBX6 := Lib.hid (hk6.heap (fun h => h) HB4.out)
  have HT6 := Lib.hid (HT4.out.no hk6)
  have HK6 := Lib.hid (HK4.out.trans hk6 (fun _ _ h => h))
  rw [← hW6]
  obtain ⟨bY, hbY⟩ : ∃ q, q = w4.heap.size := ⟨_, rfl⟩
  rw [← hbY] at HB6 ⊢
  obtain ⟨x0, -, -, -, -⟩ := cells5_31 HBX6.out
  obtain ⟨-, -, -, y3, -⟩ := cells5_31 HB6.out
  have HBL := Lib.hid (Blocks31_any W6 g bm 4 4 [ex1 b, ex2 b1 nb] HT6.out)
  rw [ex_blk] at HBL
  clear hW6 hk6 hbY
  go_wp2_with (first
    | (go_at_call 8; refine HBL.out.mono ?_; rintro e w7 ⟨rfl, hk⟩; have HK7 := Lib.hid (HK6.out.trans hk (fun _ _ h => h)); have HT7 := Lib.hid (HT6.out.no hk); clear hk)
    | (go_at_call 7; refine (Inodes31_any w7 g bm 4 4 [ex1 b, ex2 b1 nb] HT7.out).mono ?_; rintro e w8 ⟨rfl, rfl⟩))
  go_ret
  exact ⟨rfl, HK7.out⟩
end Go.Proofs.YtokafgleejcbgaaGreatDoor
