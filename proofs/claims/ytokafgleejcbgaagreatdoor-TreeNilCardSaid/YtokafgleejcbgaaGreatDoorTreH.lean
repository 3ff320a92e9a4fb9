/-
  Layer 31: makeFile.
-/
import Derived.Test.YtokafgleejcbgaaGreatDoorTreG
namespace Go.Proofs.YtokafgleejcbgaaGreatDoor
open Go.RowKit
set_option linter.unusedVariables false
set_option maxRecDepth 100000

/-- A call. -/
def callV (k : Int) (p q : ByteArray) (o n : Int) (d : Value) : Value := .agg #[.int .i64 k, .string p, .string q, .int .i64 o, .int .i64 n, d]
theorem cells6_31 {w : World} {b : Nat} {v0 v1 v2 v3 v4 v5 : Value} {t : TypeId} (h : w.heap[b]? = some (.cells #[v0, v1, v2, v3, v4, v5] t (0, 0))) : w.cell? ⟨b, 0, none⟩ = some v0 ∧ w.cell? ⟨b, 1, none⟩ = some v1 ∧ w.cell? ⟨b, 2, none⟩ = some v2 ∧ w.cell? ⟨b, 3, none⟩ = some v3 ∧ w.cell? ⟨b, 4, none⟩ = some v4 ∧ w.cell? ⟨b, 5, none⟩ = some v5 :=
  ⟨cell_of_row _ _ 0 _ _ _ h, cell_of_row _ _ 1 _ _ _ h, cell_of_row _ _ 2 _ _ _ h, cell_of_row _ _ 3 _ _ _ h, cell_of_row _ _ 4 _ _ _ h, cell_of_row _ _ 5 _ _ _ h⟩
/-- A new item. -/
def newIt (p : List UInt8) (b : Nat) (dir : Bool) : It := ⟨p, b, dir, [], 0, fun _ => False⟩
/-- What making an item answers, and leaves. -/
def MkE (g bm : Nat) (I B : Int) (L : List It) (r : It) (p : List UInt8) (dir : Bool) (w : World) (e : Ending) (w' : World) : Prop :=
  e = .returned (ansV (cr31 I B L r p)) ∧ (cr31 I B L r p ≠ 0 → Kept NoB w w') ∧
    (cr31 I B L r p = 0 → ∃ a ∈ L, ∃ b, w.heap.size ≤ b ∧ (pa31 L r p).2 = some a ∧ TrAt w' g bm I B (incT (putT L (newIt p b dir)) a.p) ∧ Kept (Foot31 bm L) w w')
theorem callAns31 (w : World) (k : Int) (s q : ByteArray) (o n : Int) (d : Value) (W : World) (hW : W = (w.alloc (.cells #[.int .i64 k, .string s, .string q, .int .i64 o, .int .i64 n, d] 24)).alloc (.cells #[.int .i64 0, .slice none 0 0, .slice none 0 0, .int .i64 0, .bool false] 29)) :
    Hid (Kept NoB w W) ∧ Hid (W.heap[w.heap.size]? = some (.cells #[.int .i64 k, .string s, .string q, .int .i64 o, .int .i64 n, d] 24 (0, 0))) ∧ Hid (W.heap[w.heap.size + 1]? = some (.cells #[.int .i64 0, .slice none 0 0, .slice none 0 0, .int .i64 0, .bool false] 29 (0, 0))) ∧ Hid (W.heap.size = w.heap.size + 2) := by
  subst hW
  refine ⟨((Kept.refl NoB w).alloc _).alloc _, ((Kept.refl NoB _).alloc _).heap (fun h => h) (heap_alloc_new w _), ?_, ?_⟩
  · have := heap_alloc_new (w.alloc (.cells #[.int .i64 k, .string s, .string q, .int .i64 o, .int .i64 n, d] 24)) (.cells #[.int .i64 0, .slice none 0 0, .slice none 0 0, .int .i64 0, .bool false] 29)
    show _ = _
    simpa using this
  · show _ = _
    simp
theorem answer31_lit (e0 : Int) (w : World) : Calls Tryz.prog 13 #[.int .i64 e0] w fun e w' => e = .returned (.agg #[.int .i64 e0, .slice none 0 0, .slice none 0 0, .int .i64 0, .bool false]) ∧ Kept NoB w w' := answer31_any e0 w
theorem frz31 {w : World} {g : Nat} {cs : Array Value} {t : TypeId} (h : w.heap[g]? = some (.cells cs t (0, 0))) (o : Nat) : w.frozen? ⟨g, o, none⟩ = false := by simp [World.frozen?, h]
theorem ansSet31 {w : World} {b : Nat} {v0 v1 v2 v3 v4 : Value} (h : w.heap[b]? = some (.cells #[v0, v1, v2, v3, v4] 29 (0, 0))) (e : Int) (u1 u2 : Value) (n : Int) (dir : Bool) (W : World)
    (hW : W = ((((w.setCell ⟨b, 0, none⟩ (.int .i64 e)).setCell ⟨b, 1, none⟩ u1).setCell ⟨b, 2, none⟩ u2).setCell ⟨b, 3, none⟩ (.int .i64 n)).setCell ⟨b, 4, none⟩ (.bool dir)) :
    W.heap[b]? = some (.cells #[.int .i64 e, u1, u2, .int .i64 n, .bool dir] 29 (0, 0)) ∧ Kept (fun k => k = b) w W := by
  subst hW
  refine ⟨?_, ?_⟩
  · have h1 := heap_setCell_same w b 0 _ _ (.int .i64 e) h
    have h2 := heap_setCell_same _ b 1 _ _ u1 h1
    have h3 := heap_setCell_same _ b 2 _ _ u2 h2
    have h4 := heap_setCell_same _ b 3 _ _ (.int .i64 n) h3
    have h5 := heap_setCell_same _ b 4 _ _ (.bool dir) h4
    rw [h5]
    rfl
  · exact (((((Kept.refl (fun k => k = b) w).setCell (p := ⟨b, 0, none⟩) (.inl rfl) _).setCell (p := ⟨b, 1, none⟩) (.inl rfl) _).setCell (p := ⟨b, 2, none⟩) (.inl rfl) _).setCell (p := ⟨b, 3, none⟩) (.inl rfl) _).setCell (p := ⟨b, 4, none⟩) (.inl rfl) _
theorem foot_new31 {bm k : Nat} {L : List It} {v : It} {p : List UInt8} (h : Foot31 bm (incT (putT L v) p) k) : Foot31 bm L k ∨ k = v.b := by
  rcases h with rfl | ⟨y, hy, rfl⟩
  · exact .inl (.inl rfl)
  · obtain ⟨x, hx, rfl⟩ := incT_mem hy
    rw [(inc31_same p x).2.1]
    rcases putT_mem hx with rfl | hx
    · exact .inr rfl
    · exact .inl (.inr ⟨x, hx, rfl⟩)
theorem g_new31 {k : Nat} {L : List It} {v y : It} {p : List UInt8} (hy : y ∈ incT (putT L v) p) (hG : y.G k) : (∃ x ∈ L, x.G k) ∨ v.G k := by
  obtain ⟨x, hx, rfl⟩ := incT_mem hy
  rw [(inc31_same p x).2.2.1] at hG
  rcases putT_mem hx with rfl | hx
  · exact .inr hG
  · exact .inl ⟨x, hx, hG⟩
theorem CrE.heap {g bm : Nat} {I B : Int} {L : List It} {r v : It} {w w' : World} {e : Ending} {b : Nat} {O : Obj} (h : CrE g bm I B L r v w e w') (hb : w.heap[b]? = some O) (hf : ¬ Foot31 bm L b) : w'.heap[b]? = some O := by
  obtain ⟨_, h2, h3⟩ := h
  by_cases hc : cr31 I B L r v.p = 0
  · obtain ⟨_, _, _, _, hk⟩ := h3 hc
    exact hk.heap hf hb
  · exact (h2 hc).heap (fun h => h) hb
set_option maxHeartbeats 4000000 in
theorem makeFile31_any (w : World) (g bm : Nat) (I B : Int) (L : List It) (r : It) (k : Int) (s q : ByteArray) (o n : Int) (d : Value) (h : TrAt w g bm I B L) (hr : atT L [47] = some r) (hs : s.size ≤ 1000000) (hlg : Lng w) :
    Calls Tryz.prog 14 #[.pointer (some ⟨g, 0, none⟩), callV k s q o n d] w (MkE g bm I B L r s.data.toList false w) := by
  obtain ⟨p, hp⟩ : ∃ p, p = s.data.toList := ⟨_, rfl⟩
  rw [← hp]
  obtain ⟨W, hW⟩ : ∃ W, W = (w.alloc (.cells #[.int .i64 k, .string s, .string q, .int .i64 o, .int .i64 n, d] 24)).alloc (.cells #[.int .i64 0, .slice none 0 0, .slice none 0 0, .int .i64 0, .bool false] 29) := ⟨_, rfl⟩
  obtain ⟨HKW, HBC, HBA, HWS⟩ := callAns31 w k s q o n d W hW
  obtain ⟨-, c1, -, -, -, -⟩ := cells6_31 HBC.out
  have hki := (Kept.refl NoB W).alloc (.cells #[.bool false, .slice none 0 0, .int .i64 0] 51)
  have htI := (h.no HKW.out).no hki
  have hnew : ItC (W.alloc (.cells #[.bool false, .slice none 0 0, .int .i64 0] 51)) (newIt p W.heap.size false) := ⟨none, 0, heap_alloc_new W _, BSl.nil _ _⟩
  have HC : Hid (Calls Tryz.prog 32 #[.pointer (some ⟨g, 0, none⟩), .string s, .pointer (some ⟨W.heap.size, 0, none⟩)] (W.alloc (.cells #[.bool false, .slice none 0 0, .int .i64 0] 51)) (CrE g bm I B L r (newIt p W.heap.size false) (W.alloc (.cells #[.bool false, .slice none 0 0, .int .i64 0] 51)))) := Lib.hid (create31_any _ g bm I B L r (newIt p W.heap.size false) s htI hr hs ((hlg.no HKW.out).no hki) hp.symm hnew rfl rfl (fun _ h => h) (fun hf => by have := h.foot_lt hf; have := HWS.out; have e : (newIt p W.heap.size false).b = W.heap.size := rfl; omega) (fun x hx hG => by have := (h.own x hx _ hG).2; have := HWS.out; have e : (newIt p W.heap.size false).b = W.heap.size := rfl; omega))
  have HKI := Lib.hid (HKW.out.trans hki (fun _ _ h => h))
  have HFL := Lib.hid (fun k (hf : Foot31 bm L k) => h.foot_lt hf)
  have HGL := Lib.hid (heap_lt h.c)
  have HGG := Lib.hid (fun x (hx : x ∈ L) k (hG : x.G k) => (h.own x hx k hG).2)
  have HBI := Lib.hid (hki.heap (fun h => h) HBA.out)
  clear h hr hs hlg hp hki htI hnew
  unfold callV
  go_enter Tryz.func14, Tryz.ntmps14
  go_upto_region 1 with fail
  rw [← hW]
  obtain ⟨bA, hbA⟩ : ∃ b, b = w.heap.size + 1 := ⟨_, rfl⟩
  rw [← hbA] at HBI HBA ⊢
  have HBE := Lib.hid hbA
  clear hW hbA
  go_wp2_with (first
    | (go_at_call 32; refine HC.out.mono ?_; rintro e w2 hcr; have HCR := Lib.hid hcr; have HB2 := Lib.hid (hcr.heap HBI.out (fun hf => by have := HFL.out _ hf; have := HBE.out; omega)); (obtain ⟨rfl, -⟩ := hcr))
    | (go_at_call 13; refine (answer31_lit _ _).mono ?_; rintro e w3 ⟨rfl, hk3⟩; have HK3 := Lib.hid hk3; have HB3 := Lib.hid (hk3.heap (fun h => h) HB2.out); clear hk3; (obtain ⟨z0, z1, z2, z3, z4⟩ := cells5_31 HB3.out); have f0 := frz31 HB3.out 0; have f1 := frz31 HB3.out 1; have f2 := frz31 HB3.out 2; have f3 := frz31 HB3.out 3; have f4 := frz31 HB3.out 4))
  obtain ⟨cr, hcr⟩ : ∃ c, c = cr31 I B L r (newIt p W.heap.size false).p := ⟨_, rfl⟩
  have HCQ := Lib.hid hcr
  rw [← hcr]
  obtain ⟨W4, hW4⟩ : ∃ W4, W4 = ((((w3.setCell ⟨bA, 0, none⟩ (.int .i64 cr)).setCell ⟨bA, 1, none⟩ (.slice none 0 0)).setCell ⟨bA, 2, none⟩ (.slice none 0 0)).setCell ⟨bA, 3, none⟩ (.int .i64 0)).setCell ⟨bA, 4, none⟩ (.bool false) := ⟨_, rfl⟩
  obtain ⟨hb4, hk4⟩ := ansSet31 HB3.out cr (.slice none 0 0) (.slice none 0 0) 0 false W4 hW4
  rw [← hW4]
  obtain ⟨r0, r1, r2, r3, r4⟩ := cells5_31 hb4
  have HK4 := Lib.hid hk4
  clear hcr hW4 hb4 hk4 z0 z1 z2 z3 z4 f0 f1 f2 f3 f4
  refine bodyPost_ret (v := ansV cr) (by simp [results, ansV, Tryz.results14, go_sem, r0, r1, r2, r3, r4]) rfl ?_
  obtain ⟨-, h2, h3⟩ := HCR.out
  have hbe := HBE.out
  have hws := HWS.out
  have hcq : cr = cr31 I B L r p := HCQ.out
  have hn4 : ∀ i, i < w.heap.size → ¬ i = bA := fun i hi => by omega
  refine ⟨by rw [hcq], fun hc => ((HKI.out.trans (h2 hc) (fun _ _ h => h)).trans HK3.out (fun _ _ h => h)).trans HK4.out (fun i hi h => absurd h (hn4 i hi)), fun hc => ?_⟩
  obtain ⟨a, ha, hpa, ht, hk⟩ := h3 hc
  refine ⟨a, ha, W.heap.size, by omega, hpa, ?_, (((HKI.out.mono (fun _ _ h => h.elim)).trans hk (fun _ _ h => h)).trans HK3.out (fun _ _ h => h.elim)).trans HK4.out (fun i hi h => absurd h (hn4 i hi))⟩
  refine (ht.no HK3.out).kept HK4.out (fun i hi hor hb => ?_)
  have hb : i = bA := hb
  have hlt : i < w.heap.size ∨ i = W.heap.size := by
    rcases hor with rfl | hf | ⟨x, hx, hG⟩
    · exact .inl HGL.out
    · rcases foot_new31 hf with hf | hf
      · exact .inl (HFL.out i hf)
      · exact .inr hf
    · rcases g_new31 hx hG with ⟨y, hy, hG⟩ | hG
      · exact .inl (HGG.out y hy i hG)
      · exact hG.elim
  omega
end Go.Proofs.YtokafgleejcbgaaGreatDoor
