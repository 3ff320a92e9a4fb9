/-
  The answer's Bytes, Get, Decode.
-/
import Derived.Test.YtdohnobfaignpaaDoorCmdP
namespace Go.Proofs.YtdohnobfaignpaaDoor
open Go.RowKit Go.Sort Go.Lib
set_option linter.unusedVariables false

/-- A made row of two. -/
theorem own_two (w : World) (e : TypeId) (x y : Int) : (w.alloc (.cells #[.int .u8 x, .int .u8 y] e)).ownsRow 0 e 1 (.slice (some ⟨w.heap.size, 0, none⟩) 2 2) 2 ([x, y].map (Value.int .u8)) :=
  ⟨rfl, .inr ⟨w.heap.size, 2, _, rfl, Nat.zero_le _, heap_alloc_new w _, Nat.le_refl _, by decide, rfl, rfl⟩⟩
theorem Own.row {w : World} {F : Nat → Prop} {v : Value} {l : List Int} {n : Nat} (h : Own w F v l) (hn : l.length = n) : w.ownsRow 0 5 1 v n (l.map (Value.int .u8)) := hn ▸ h.2.1
set_option maxRecDepth 100000 in
set_option maxHeartbeats 1000000 in
theorem CRBytes_any (k ch ep nd : Nat) (w : World) (hc : Cm k ch ep nd) :
    Calls Tryd.prog 17 #[.agg #[.int .i64 k, .int .i64 ch, .int .u64 ep, .int .i64 nd]] w fun e w' => ∃ v, e = .returned v ∧ Own w' (fun k => w.heap.size ≤ k) v (cbs k ch ep nd) ∧ Kept NoB w w' := by
  obtain ⟨i0, hi0, hz0, hz1, hz2⟩ := info_parts Tryd.info5
  obtain ⟨hk4, hc3, hep, hnd⟩ := hc.le
  have HE : Hid (ep < 256 ^ 8) := Lib.hid (by omega)
  clear hc
  go_enter Tryd.func17, Tryd.ntmps17
  go_wp2_with fail
  have hsz : (w.alloc (.cells #[.int .i64 (k : Int), .int .i64 (ch : Int), .int .u64 (ep : Int), .int .i64 (nd : Int)] 24)).heap.size = w.heap.size + 1 := by simp
  have hb0 := balloc (heap_alloc_new w (.cells #[.int .i64 (k : Int), .int .i64 (ch : Int), .int .u64 (ep : Int), .int .i64 (nd : Int)] 24)) (.cells #[.int .u8 (k : Int), .int .u8 (ch : Int)] 5)
  have ho0 : Own ((w.alloc (.cells #[.int .i64 (k : Int), .int .i64 (ch : Int), .int .u64 (ep : Int), .int .i64 (nd : Int)] 24)).alloc (.cells #[.int .u8 (k : Int), .int .u8 (ch : Int)] 5)) (fun x => x = w.heap.size + 1) (.slice (some ⟨w.heap.size + 1, 0, none⟩) 2 2) [(k : Int), (ch : Int)] := by
    refine ⟨?_, ?_, ?_⟩
    · intro x hx
      simp only [List.mem_cons, List.not_mem_nil, or_false] at hx
      omega
    · have := own_two (w.alloc (.cells #[.int .i64 (k : Int), .int .i64 (ch : Int), .int .u64 (ep : Int), .int .i64 (nd : Int)] 24)) 5 k ch
      rw [hsz] at this
      exact this
    · intro x hx
      simp [Value.ownBlock] at hx
      omega
  have HK0 := Lib.hid (((Kept.refl NoB w).alloc (.cells #[.int .i64 (k : Int), .int .i64 (ch : Int), .int .u64 (ep : Int), .int .i64 (nd : Int)] 24)).alloc (.cells #[.int .u8 (k : Int), .int .u8 (ch : Int)] 5))
  refine (Big_any ep 8 _ (by omega) (by omega) HE).mono ?_
  rintro e w2 ⟨v, rfl, hv, hk⟩
  obtain ⟨oa, oc, rfl⟩ := own_form hv.2.1
  have HV := Lib.hid hv
  have HB2 := Lib.hid (hk.heap (fun h => h) hb0)
  have HO2 := Lib.hid (ho0.kept hk (fun _ _ h => h))
  have HK2 := Lib.hid (HK0.out.trans hk (fun _ _ h => h))
  have hsz2 : w.heap.size + 2 ≤ w2.heap.size := by have := hk.size; simp at this; omega
  clear hv hb0 ho0 hk hsz
  have hlen : (be ep 8).length = 8 := be_len ep 8
  obtain ⟨L, hL⟩ : ∃ L, L = [(k : Int), (ch : Int)] ++ be ep 8 := ⟨_, rfl⟩
  have HL10 : Hid (L.length = 10) := Lib.hid (by rw [hL, List.length_append, hlen]; rfl)
  have HLL := Lib.hid hL
  clear hL
  go_wp2_with (first
    | (at_builtin; refine wpList_append_bsl _ rfl (.tmp 11) (.tmp 14) _ rfl 5 i0 _ Tryd.underlying27 hi0 hz0 hz1 hz2 rfl (.slice (some ⟨w.heap.size + 1, 0, none⟩) 2 2) 2 [(k : Int), (ch : Int)] rfl HO2.out.2.1 _ _ (be ep 8) rfl HV.out.bsl (by rw [be_len]; decide) ?_; intro a' c' w3 hown1 hg1 hat1; (have HR1 := Lib.hid (HO2.out.grow (G := fun x => w.heap.size + 1 ≤ x) HV.out.1 (fun x _ h => by omega) (fun x h => by omega) hown1 hg1 hat1)); (have HB3 := Lib.hid (HR1.out.2.heap (show ¬ w.heap.size = w.heap.size + 1 by omega) HB2.out)); (obtain ⟨c0, c1, c2, c3, _, _, _, _⟩ := cells4 HB3.out); (have hlt3 := heap_lt HB3.out); (have hz3 := HR1.out.2.size); rw [hlen]; (have HOL : Hid (Own w3 (fun x => w.heap.size + 1 ≤ x) (.slice a' 10 c') L) := Lib.hid (by have h := HR1.out.1; rw [hlen, ← HLL.out] at h; exact h)); clear hown1 hg1 hat1)
    | (at_builtin; refine wpList_append_bsl _ rfl (.tmp 16) (.tmp 20) _ rfl 5 i0 _ Tryd.underlying27 hi0 hz0 hz1 hz2 rfl (.slice a' 10 c') 10 L rfl ((HOL.out.kept ((Kept.refl NoB w3).alloc (.cells #[.int .u8 (nd : Int)] 5)) (fun _ _ h => h)).row HL10.out) (fun x => w3.heap.size ≤ x) (.slice (some ⟨w3.heap.size, 0, none⟩) 1 1) [(nd : Int)] rfl (BSl.ofOwn (own_one w3 5 nd) (fun x hx => by simp only [List.mem_singleton] at hx; omega) (fun x hx => by simp [Value.ownBlock] at hx; omega)) (by show 10 + 1 ≤ 140737488355328; omega) ?_; intro a2 cp2 w4 hown2 hg2 hat2))
  have hO3 : Own (w3.alloc (.cells #[.int .u8 (nd : Int)] 5)) (fun x => w.heap.size + 1 ≤ x) (.slice a' 10 c') L := HOL.out.kept ((Kept.refl NoB w3).alloc (.cells #[.int .u8 (nd : Int)] 5)) (fun _ _ h => h)
  have h1B : IsB [(nd : Int)] := fun x hx => by simp only [List.mem_singleton] at hx; omega
  have R2 := hO3.grow (G := fun x => w.heap.size ≤ x) (m := [(nd : Int)]) (a' := a2) (c' := cp2) h1B (fun x _ h => by omega) (fun x h => by simp at h; omega) (by rw [HL10.out]; exact hown2) hg2 (by rw [HL10.out]; exact hat2)
  have hbs : L ++ [(nd : Int)] = cbs k ch ep nd := by
    rw [HLL.out, cbs, be_one k (by omega), be_one ch (by omega), be_one nd (by omega)]
    rfl
  rw [HL10.out, hbs] at R2
  have hkf : Kept NoB w w4 := ((HK2.out.trans (T := fun x => x = w.heap.size + 1) HR1.out.2 (fun i hi h => by omega)).alloc (.cells #[.int .u8 (nd : Int)] 5)).trans R2.2 (fun i hi h => by omega)
  go_ret
  exact ⟨_, rfl, R2.1, hkf⟩
end Go.Proofs.YtdohnobfaignpaaDoor
