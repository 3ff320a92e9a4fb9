/-
  What catenarylaw01.put does: an item is put, and its bytes and its own error are told.
-/
import Derived.Test.YtnkkbajlmpccmaaRefD
import Derived.Test.YtnkkbajlmpccmaaAwake
namespace Go.Proofs.Ytnkkbajlmpccmaa
open Go.RowKit

/-- An item: its kind, its number, its width, its bytes. -/
structure Itm where
  kind : Int
  n : Nat
  width : Int
  b : List Int

def Itm.err (x : Itm) : Int := if x.kind = 0 then putErr x.n x.width else 0
def Itm.bytes (x : Itm) : List Int :=
  if x.kind = 0 then putBytes x.n x.width else if x.kind = 1 then x.b.take 60 else if x.kind = 2 then be (x.b.take 60).length 2 ++ x.b.take 60 else [if x.n % 2 = 1 then 1 else 0]

/-- The value is that item. -/
def ItmAt (w : World) (F : Nat → Prop) (v : Value) (x : Itm) : Prop :=
  ∃ b, v = .agg #[.int .i64 x.kind, .int .u64 x.n, .int .i64 x.width, b] ∧ BSl w F b x.b ∧ Hid (x.n < 18446744073709551616)

theorem emit_put (s : OSt) (n : Nat) (width : Int) : s.emit (putErr n width) (be (n : Int).toNat width.toNat) = s.emit (putErr n width) (putBytes n width) := by
  unfold putBytes
  by_cases h : putErr n width = 0
  · rw [if_pos h, Int.toNat_natCast]
  · rw [OSt.emit_err _ _ _ h, OSt.emit_err _ _ _ h]
theorem textErr_short (l : List Int) (h : l.length ≤ 60) : textErr l = 0 := if_neg (by omega)

set_option maxRecDepth 100000 in
theorem put_any (g : Nat) (s : OSt) (v : Value) (x : Itm) (F G : Nat → Prop) (w : World) (h : OutAt w F g s) (hx : ItmAt w G v x) (hFG : ∀ k, G k → ¬ F k) (hFs : ∀ k, F k → k < w.heap.size) (hs : s.bs.length ≤ 900000) :
    Calls Try.prog 14 #[.pointer (some ⟨g, 0, none⟩), v] w fun r w' => ∃ u, r = .returned (.tuple #[u, .int .i64 x.err]) ∧
      BSl w' (fun k => G k ∨ w.heap.size ≤ k) u x.bytes ∧ OutAt w' (fun k => F k ∨ w.heap.size ≤ k) g (s.emit x.err x.bytes) ∧ Kept F w w' := by
  obtain ⟨kind, n, width, bl⟩ := x
  have HO := Lib.hid h
  obtain ⟨b, rfl, hb, hn⟩ := hx
  simp only at hb hn ⊢
  have HB := Lib.hid hb
  obtain ⟨a, cap, rfl, _⟩ := hb
  have hlt : g < w.heap.size := by obtain ⟨_, _, _, _, _, _, _, v, hv, _⟩ := h; exact heap_lt hv
  clear h
  obtain ⟨l, hl⟩ : ∃ l, l = bl.take 60 := ⟨_, rfl⟩
  have hl60 : l.length ≤ 60 := by rw [hl, List.length_take]; omega
  have HL := Lib.hid hl
  clear hl
  have hns : ¬ F w.heap.size := fun h => by have := hFs _ h; omega
  have HF := Lib.hid hFs
  have HFG := Lib.hid hFG
  have hO1 := HO.out.kept (S := NoB) ((Kept.refl NoB w).alloc (.cells #[.int .i64 kind, .int .u64 n, .int .i64 width, .slice a bl.length cap] 31)) (fun _ _ h => h)
  have hB1 := HB.out.kept (S := NoB) ((Kept.refl NoB w).alloc (.cells #[.int .i64 kind, .int .u64 n, .int .i64 width, .slice a bl.length cap] 31)) (fun _ _ h => h)
  have hblk := heap_alloc_new w (.cells #[.int .i64 kind, .int .u64 n, .int .i64 width, .slice a bl.length cap] 31)
  have HO1 := Lib.hid hO1
  have HB1 := Lib.hid hB1
  have HBLK := Lib.hid hblk
  have HK1 := Lib.hid ((Kept.refl F w).alloc (.cells #[.int .i64 kind, .int .u64 n, .int .i64 width, .slice a bl.length cap] 31))
  clear hFs hFG hO1 hB1 hblk
  by_cases h0 : kind = 0
  · subst h0
    have HE := Lib.hid (show (⟨0, n, width, bl⟩ : Itm).err = putErr n width from if_pos rfl)
    have HY := Lib.hid (show (⟨0, n, width, bl⟩ : Itm).bytes = putBytes n width from if_pos rfl)
    go_enter Try.func14, Try.ntmps14
    go_wp2_with fail
    refine (Cut_any _ bl 60 _ _ HB1.out (by omega)).mono ?_
    rintro e w1 ⟨v', rfl, hv', rfl⟩
    clear hv'
    go_wp2_with fail
    refine (Put_any g s n width _ _ HO1.out (by omega) (by omega)).mono ?_
    rintro e w2 ⟨rfl, hO2, hk2⟩
    rw [emit_put] at hO2
    have HO2 := Lib.hid hO2
    have hb2 := hk2.heap hns HBLK.out
    have c1 : w2.cell? ⟨w.heap.size, 1, none⟩ = some (.int .u64 n) := cell_of_row w2 _ 1 _ _ _ hb2
    have c2 : w2.cell? ⟨w.heap.size, 2, none⟩ = some (.int .i64 width) := cell_of_row w2 _ 2 _ _ _ hb2
    have HK2 := Lib.hid (HK1.out.trans hk2 (fun _ _ h => h))
    clear hk2 hO2 hb2
    go_wp2_with fail
    refine (RPut_any n width _ hn).mono ?_
    rintro e w3 ⟨u, rfl, hu, hk3⟩
    have HU := Lib.hid hu
    obtain ⟨ua, uc, rfl⟩ := own_form hu.2.1
    clear hu
    have HK3 := Lib.hid hk3
    have hz2 := HK2.out.size
    have HW := Lib.hid (show w.heap.size ≤ (w.alloc (.cells #[.int .i64 0, .int .u64 n, .int .i64 width, .slice a bl.length cap] 31)).heap.size by simp)
    clear hk3
    go_wp2
    go_ret2
    rw [HE.out, HY.out]
    exact ⟨_, rfl, HU.out.bsl.mono (fun k _ h => .inr (by omega)), (HO2.out.mono (fun k _ h => h.imp id (fun h => by have := HW.out; omega))).kept HK3.out (fun _ _ h => h), HK2.out.trans HK3.out (fun _ _ h => h.elim)⟩
  · have HE := Lib.hid (show (⟨kind, n, width, bl⟩ : Itm).err = 0 from if_neg h0)
    have h0b : (kind == 0) = false := by simpa using h0
    by_cases h1 : kind = 1
    · subst h1
      have HY := Lib.hid (show (⟨1, n, width, bl⟩ : Itm).bytes = l by rw [HL.out]; rfl)
      clear h0 h0b
      go_enter Try.func14, Try.ntmps14
      go_wp2_with fail
      refine (Cut_any _ bl 60 _ _ HB1.out (by omega)).mono ?_
      rintro e w1 ⟨v', rfl, hv', rfl⟩
      rw [← HL.out] at hv'
      have HV := Lib.hid hv'
      obtain ⟨a', cap', rfl, _⟩ := hv'
      go_wp2_with fail
      refine (Raw_any g s _ l _ _ _ HO1.out HV.out HFG.out (by omega) (by omega)).mono ?_
      rintro e w2 ⟨rfl, hO2, hk2⟩
      have HO2 := Lib.hid hO2
      have HK2 := Lib.hid (HK1.out.trans hk2 (fun _ _ h => h))
      have HV2 := Lib.hid (HV.out.kept hk2 HFG.out)
      clear hk2 hO2
      go_wp2
      go_ret2
      rw [HE.out, HY.out]
      exact ⟨_, rfl, HV2.out.mono (fun k _ h => .inl h), HO2.out.mono (fun k _ h => h.imp id (fun h => by simp at h; omega)), HK2.out⟩
    · have h1b : (kind == 1) = false := by simpa using h1
      by_cases h2 : kind = 2
      · subst h2
        have HY := Lib.hid (show (⟨2, n, width, bl⟩ : Itm).bytes = be l.length 2 ++ l by rw [HL.out]; rfl)
        clear h0 h0b h1 h1b
        go_enter Try.func14, Try.ntmps14
        go_wp2_with fail
        refine (Cut_any _ bl 60 _ _ HB1.out (by omega)).mono ?_
        rintro e w1 ⟨v', rfl, hv', rfl⟩
        rw [← HL.out] at hv'
        have HV := Lib.hid hv'
        obtain ⟨a', cap', rfl, _⟩ := hv'
        go_wp2_with fail
        refine (Text_any g s _ l _ _ _ HO1.out HV.out HFG.out (by omega) (by omega)).mono ?_
        rintro e w2 ⟨rfl, hO2, hk2⟩
        rw [textErr_short l hl60] at hO2
        have HO2 := Lib.hid hO2
        have HK2 := Lib.hid (HK1.out.trans hk2 (fun _ _ h => h))
        have HV2 := Lib.hid (HV.out.kept hk2 HFG.out)
        clear hk2 hO2
        go_wp2_with fail
        refine (RText_any _ l _ _ HV2.out (by omega)).mono ?_
        rintro e w3 ⟨u, rfl, hu, hk3⟩
        have HU := Lib.hid hu
        obtain ⟨ua, uc, rfl⟩ := own_form hu.2.1
        have HK3 := Lib.hid hk3
        have hz2 := HK2.out.size
        clear hu hk3
        go_wp2
        go_ret2
        rw [HE.out, HY.out]
        refine ⟨_, rfl, ?_, (HO2.out.mono (fun k _ h => h.imp id (fun h => by simp at h; omega))).kept HK3.out (fun _ _ h => h), HK2.out.trans HK3.out (fun _ _ h => h.elim)⟩
        have hU : BSl w3 (fun k => G k ∨ w.heap.size ≤ k) _ _ := HU.out.bsl.mono (fun k _ (h : w2.heap.size ≤ k) => Or.inr (by omega))
        rw [List.length_append] at hU
        exact hU
      · have h2b : (kind == 2) = false := by simpa using h2
        have HY := Lib.hid (show (⟨kind, n, width, bl⟩ : Itm).bytes = [if n % 2 = 1 then 1 else 0] by unfold Itm.bytes; rw [if_neg h0, if_neg h1, if_neg h2])
        clear h0 h1 h2
        go_enter Try.func14, Try.ntmps14
        go_wp2_with fail
        refine (Cut_any _ bl 60 _ _ HB1.out (by omega)).mono ?_
        rintro e w1 ⟨v', rfl, hv', rfl⟩
        have HV := Lib.hid hv'
        obtain ⟨a', cap', rfl, _⟩ := hv'
        have hbit : ∀ q : Bool, q = ((n : Int) % 2 == 1) → ([if q = true then 1 else 0] : List Int) = [if n % 2 = 1 then 1 else 0] := fun q hq => by
          subst hq
          by_cases h : n % 2 = 1
          · rw [if_pos h, if_pos (by simp; omega)]
          · rw [if_neg h, if_neg (by simp; omega)]
        have HBit := Lib.hid hbit
        clear hbit
        obtain ⟨q, hq⟩ : ∃ q, q = ((n : Int) % 2 == 1) := ⟨_, rfl⟩
        go_wp2_with fail
        rw [← hq]
        have HQ := Lib.hid hq
        clear hq
        refine (Bool_any g s q _ _ HO1.out (by omega)).mono ?_
        rintro e w2 ⟨rfl, hO2, hk2⟩
        rw [HBit.out q HQ.out] at hO2
        have HO2 := Lib.hid hO2
        have hb2 := hk2.heap hns HBLK.out
        have c1 : w2.cell? ⟨w.heap.size, 1, none⟩ = some (.int .u64 n) := cell_of_row w2 _ 1 _ _ _ hb2
        have HK2 := Lib.hid (HK1.out.trans hk2 (fun _ _ h => h))
        clear hk2 hO2 hb2
        go_wp2_with fail
        rw [← HQ.out]
        refine (Yes_any q _).mono ?_
        rintro e w3 ⟨u, rfl, hu, hk3⟩
        rw [HBit.out q HQ.out] at hu
        have HU := Lib.hid hu
        obtain ⟨ua, uc, rfl, _⟩ := hu
        have HK3 := Lib.hid hk3
        have hz2 := HK2.out.size
        clear hk3
        go_wp2
        go_ret2
        rw [HE.out, HY.out]
        have hU : BSl w3 (fun k => G k ∨ w.heap.size ≤ k) _ _ := HU.out.mono (fun k _ (h : w2.heap.size ≤ k) => Or.inr (by omega))
        exact ⟨_, rfl, hU, (HO2.out.mono (fun k _ h => h.imp id (fun h => by simp at h; omega))).kept HK3.out (fun _ _ h => h), HK2.out.trans HK3.out (fun _ _ h => h.elim)⟩
end Go.Proofs.Ytnkkbajlmpccmaa
