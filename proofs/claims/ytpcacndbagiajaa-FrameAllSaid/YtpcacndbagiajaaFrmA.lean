/-
  Package frame: a codec in memory; New, Put, Size, Same.
-/
import Derived.Test.YtpcacndbagiajaaCrcT
namespace Go.Proofs.Ytpcacndbagiajaa
open Go.RowKit

/-- The block g is a codec over the table at t, with these counts. -/
def CodecAt (w : World) (g t : Nat) (good bad : Int) : Prop := w.heap[g]? = some (.cells #[.pointer (some ⟨t, 0, none⟩), .int .u64 good, .int .u64 bad] 129 (0, 0))
theorem CodecAt.kept {S : Nat → Prop} {w w' : World} {g t : Nat} {x y : Int} (h : CodecAt w g t x y) (hk : Kept S w w') (hg : ¬ S g) : CodecAt w' g t x y := hk.heap hg h
theorem CodecAt.cells {w : World} {g t : Nat} {x y : Int} (h : CodecAt w g t x y) : w.cell? ⟨g, 0, none⟩ = some (.pointer (some ⟨t, 0, none⟩)) ∧ w.cell? ⟨g, 1, none⟩ = some (.int .u64 x) ∧ w.cell? ⟨g, 2, none⟩ = some (.int .u64 y) ∧ (∀ o, w.frozen? ⟨g, o, none⟩ = false) ∧ g < w.heap.size :=
  ⟨cell_of_row w g 0 _ _ _ h, cell_of_row w g 1 _ _ _ h, cell_of_row w g 2 _ _ _ h, fun o => blk_frozen0 h o, heap_lt h⟩
theorem CodecAt.lt {w : World} {g t : Nat} {x y : Int} (h : CodecAt w g t x y) : g < w.heap.size := heap_lt h

/-- There is a table at t, made or not. -/
def TabSome (w : World) (t : Nat) : Prop := ∃ m, TabAt w t m
theorem TabSome.kept {S : Nat → Prop} {w w' : World} {t : Nat} (h : TabSome w t) (hk : Kept S w w') (ht : ¬ S t) : TabSome w' t := by
  obtain ⟨m, h⟩ := h
  exact ⟨m, h.kept hk ht⟩
theorem TabSome.lt {w : World} {t : Nat} (h : TabSome w t) : t < w.heap.size := by
  obtain ⟨m, h⟩ := h
  exact h.lt

set_option maxRecDepth 100000 in
/-- New, of no table. -/
theorem FNew_nil (w : World) : Calls Try.prog 38 #[.pointer none] w fun e w' => ∃ g, e = .returned (.pointer (some ⟨g, 0, none⟩)) ∧ w.heap.size < g ∧ TabAt w' w.heap.size false ∧ CodecAt w' g w.heap.size 0 0 ∧ Kept NoB w w' := by
  go_enter Try.func38, Try.ntmps38
  go_wp2_with fail
  refine (CNew_any _).mono ?_
  rintro e w1 ⟨rfl, ht1, hk1⟩
  have hlt := ht1.lt
  have HT1 := Lib.hid ht1
  clear ht1
  go_wp2
  go_ret
  exact ⟨w1.heap.size, rfl, hlt, HT1.out.kept (S := NoB) ((Kept.refl _ _).alloc _) (fun h => h), heap_alloc_new w1 _, hk1.alloc _⟩
set_option maxRecDepth 100000 in
/-- New, of a table. -/
theorem FNew_any (t : Nat) (w : World) : Calls Try.prog 38 #[.pointer (some ⟨t, 0, none⟩)] w fun e w' => e = .returned (.pointer (some ⟨w.heap.size, 0, none⟩)) ∧ CodecAt w' w.heap.size t 0 0 ∧ Kept NoB w w' := by
  go_enter Try.func38, Try.ntmps38
  go_wp2
  go_ret
  exact ⟨rfl, heap_alloc_new w _, (Kept.refl _ _).alloc _⟩

/-- What Put answers. -/
def putF (k : Nat) (l : List Int) : List Int × Int :=
  if k = 0 then ([], 4) else if 16384 < l.length then ([], 6) else ((k : Int) :: (be l.length 2 ++ l) ++ le4 (more 0 ((k : Int) :: (be l.length 2 ++ l))), 0)

set_option maxRecDepth 100000 in
/-- Put. -/
theorem FPut_any (g t : Nat) (m : Bool) (x y : Int) (k : Nat) (b : Value) (l : List Int) (F : Nat → Prop) (w : World) (hc : CodecAt w g t x y) (ht : TabAt w t m) (hk : k < 256) (hb : BSl w F b l) (hl : l.length ≤ 20000) :
    Calls Try.prog 39 #[.pointer (some ⟨g, 0, none⟩), .agg #[.int .u8 k, b]] w fun e w' => ∃ v', e = .returned (.tuple #[v', .int .i64 (putF k l).2]) ∧ Own w' (fun k => w.heap.size ≤ k) v' (putF k l).1 ∧ TabSome w' t ∧ Kept (One t) w w' := by
  have HB := Lib.hid hb
  have HC := Lib.hid hc
  have HT := Lib.hid ht
  have htl := ht.lt
  have hgl := hc.lt
  obtain ⟨ba, bc, rfl, _⟩ := hb
  clear hc ht
  by_cases hk0 : k = 0
  · subst hk0
    have hp : putF 0 l = ([], 4) := if_pos rfl
    rw [hp]
    clear hp
    go_enter Try.func39, Try.ntmps39
    go_wp2
    go_ret2
    exact ⟨_, rfl, Own.nil _ _, ⟨m, HT.out.kept (S := NoB) ((Kept.refl _ _).alloc _) (fun h => h)⟩, (Kept.refl _ _).alloc _⟩
  · have hkb : ((k : Int) == 0) = false := by rw [beq_eq_false_iff_ne]; omega
    by_cases hlong : 16384 < l.length
    · have hp : putF k l = ([], 6) := by unfold putF; rw [if_neg hk0, if_pos hlong]
      rw [hp]
      clear hp
      go_enter Try.func39, Try.ntmps39
      go_wp2
      go_ret2
      exact ⟨_, rfl, Own.nil _ _, ⟨m, HT.out.kept (S := NoB) ((Kept.refl _ _).alloc _) (fun h => h)⟩, (Kept.refl _ _).alloc _⟩
    · have HP := Lib.hid (show putF k l = ((k : Int) :: (be l.length 2 ++ l) ++ le4 (more 0 ((k : Int) :: (be l.length 2 ++ l))), 0) by unfold putF; rw [if_neg hk0, if_neg hlong])
      go_enter Try.func39, Try.ntmps39
      go_wp2_with fail
      refine (New_any (3 + (l.length : Int)) _ (by omega)).mono ?_
      rintro e w1 ⟨rfl, ho1, hk1⟩
      rw [show max (3 + (l.length : Int)) 0 = 3 + (l.length : Int) by omega] at ho1
      simp only [World.size_alloc] at ho1 ⊢
      have hk01 : Kept NoB w w1 := ((Kept.refl _ w).alloc _).trans hk1 (fun _ _ h => h)
      have hh1 : w1.heap[w.heap.size]? = some (.cells #[.int .u8 (k : Int), .slice ba l.length bc] 81 (0, 0)) := hk1.heap (fun h => h) (heap_alloc_new w _)
      have c10 := cell_of_row w1 w.heap.size 0 _ _ _ hh1
      simp only [List.getElem?_toArray, List.getElem?_cons_zero] at c10
      have HO1 := Lib.hid ho1
      have HK1 := Lib.hid hk01
      have HH1 := Lib.hid hh1
      clear ho1 hk1 hk01 hh1
      have hkw : IntKind.u64.wrap (k : Int) = (k : Int) := IntWalk.u64_in _ (by omega)
      go_wp2_with fail
      refine (Put_any (w.heap.size + 1) _ (k : Int) 1 _ _ HO1.out (by omega) (by show 0 ≤ 1000000; omega)).mono ?_
      rintro e w2 ⟨rfl, ho2, hk2⟩
      have e2 : OSt.emit ⟨[], 3 + (l.length : Int), 0⟩ (putErr (k : Int) 1) (be (k : Int).toNat (1 : Int).toNat) = ⟨[(k : Int)], 3 + (l.length : Int), 0⟩ := by
        have h1 := (putErr_fit k 1 (by omega) (by omega) (by omega)).1
        rw [show ((1 : Nat) : Int) = 1 from rfl] at h1
        rw [h1]
        unfold OSt.emit
        have e3 : be (k : Int).toNat (1 : Int).toNat = [(k : Int)] := by
          show be k 1 = _
          simp [be, Nat.mod_eq_of_lt hk]
        rw [e3, if_pos rfl, if_pos rfl, if_pos (by show (1 : Int) ≤ 3 + (l.length : Int) - 0; omega)]
        rfl
      rw [e2] at ho2
      have hh2 := hk2.heap (fun h => by have h2 : w.heap.size + 1 ≤ w.heap.size := h; omega) HH1.out
      have c21 := cell_of_row w2 w.heap.size 1 _ _ _ hh2
      simp only [List.getElem?_toArray, List.getElem?_cons_zero, List.getElem?_cons_succ] at c21
      have HK2 := Lib.hid (HK1.out.trans hk2 (fun i hi h => by have h2 : w.heap.size + 1 ≤ i := h; omega))
      have hz1 := HK1.out.size
      have hgt1 := HO1.out.1
      have hsz1 := heap_lt HH1.out
      have hG2 : ∀ k, k < w2.heap.size → (w.heap.size + 1 ≤ k ∨ w1.heap.size ≤ k) → w.heap.size < k := fun k _ h => by omega
      have HO2 := Lib.hid (ho2.mono (G := fun k => w.heap.size < k) hG2)
      have HB2 := Lib.hid ((HB.out.mono (G := fun k => F k ∧ k < w.heap.size) (fun k hk h => ⟨h, hk⟩)).kept HK2.out (fun _ _ h => h))
      clear hG2
      clear ho2 hk2 hh2 e2
      go_wp2_with fail
      refine (Text_any (w.heap.size + 1) _ _ l _ _ _ HO2.out HB2.out (fun k h1 h2 => by have h3 : w.heap.size < k := h2; omega) (by show 1 ≤ 900000; omega) (by omega)).mono ?_
      rintro e w3 ⟨rfl, ho3, hk3⟩
      have e3 : OSt.emit ⟨[(k : Int)], 3 + (l.length : Int), 0⟩ (textErr l) (be l.length 2 ++ l) = ⟨(k : Int) :: (be l.length 2 ++ l), 3 + (l.length : Int), 0⟩ := by
        rw [show textErr l = 0 from if_neg (by omega)]
        unfold OSt.emit
        rw [if_pos rfl, if_pos rfl, if_pos (by rw [List.length_append, be_len]; simp only [List.length_cons, List.length_nil]; omega)]
        rfl
      rw [e3] at ho3
      have HO3 := Lib.hid ho3
      have HK3 := Lib.hid (HK2.out.trans hk3 (fun i hi h => by have h2 : w.heap.size < i := h; omega))
      clear ho3 hk3 e3
      go_wp2_with fail
      refine (Done_any (w.heap.size + 1) _ _ _ HO3.out (by show _ ≤ _; simp only [List.length_cons, List.length_append, be_len]; omega)).mono ?_
      rintro e w4 ⟨v4, rfl, hb4, hk4⟩
      have hk4' := HK3.out.trans hk4 (fun _ _ h => h)
      have HC4 := HC.out.kept hk4' (fun h => h)
      obtain ⟨cg, _, _, _, _⟩ := HC4.cells
      have HT4 := Lib.hid (HT.out.kept hk4' (fun h => h))
      have HB4 := Lib.hid hb4
      have HK4 := Lib.hid hk4'
      have hsz3 := HK3.out.size
      clear hb4 hk4 hk4' HC4
      go_wp2_with fail
      refine (Seal_any t m _ _ _ _ HT4.out HB4.out (by omega) (by simp only [List.length_cons, List.length_append, be_len]; omega)).mono ?_
      rintro e w5 ⟨v5, rfl, hv5, ht5, hk5⟩
      have hsz4 := HK4.out.size
      go_wp2
      go_ret2
      rw [HP.out]
      exact ⟨_, rfl, hv5.mono (fun k _ h => by omega), ⟨true, ht5⟩, (HK4.out.mono (fun _ _ h => h.elim)).trans hk5 (fun _ _ h => h)⟩

/-- Size. -/
theorem FSize_any (k : Int) (b : Value) (l : List Int) (F : Nat → Prop) (w : World) (hb : BSl w F b l) (hl : l.length ≤ 1000000) :
    Calls Try.prog 42 #[.agg #[.int .u8 k, b]] w fun e w' => e = .returned (.int .i64 ((l.length : Int) + 7)) ∧ Kept NoB w w' := by
  obtain ⟨ba, bc, rfl, _⟩ := hb
  go_enter Try.func42, Try.ntmps42
  go_wp2
  go_ret
  refine ⟨?_, (Kept.refl _ _).alloc _⟩
  show Ending.returned (.int .i64 (3 + (l.length : Int) + 4)) = _
  rw [show 3 + (l.length : Int) + 4 = (l.length : Int) + 7 by omega]

set_option maxRecDepth 100000 in
/-- Same. -/
theorem FSame_any (k j : Int) (b c : Value) (l m : List Int) (F G : Nat → Prop) (w : World) (hb : BSl w F b l) (hc : BSl w G c m) :
    Calls Try.prog 43 #[.agg #[.int .u8 k, b], .agg #[.int .u8 j, c]] w fun e w' => e = .returned (.bool (decide (k = j) && decide (l = m))) ∧ Kept NoB w w' := by
  have HB := Lib.hid hb
  have HC := Lib.hid hc
  obtain ⟨ba, bc, rfl, _⟩ := hb
  obtain ⟨ca, cc, rfl, _⟩ := hc
  have hk : ∀ o o' : Obj, Kept NoB w ((w.alloc o).alloc o') := fun o o' => ((Kept.refl _ _).alloc _).alloc _
  by_cases hkj : k = j
  · have e1 : (k == j) = true := by simpa using hkj
    have HJ := Lib.hid hkj
    clear hkj
    go_enter Try.func43, Try.ntmps43
    go_wp2_with fail
    refine (Equal_any _ _ l m F G _ (HB.out.kept (hk _ _) (fun _ _ h => h)) (HC.out.kept (hk _ _) (fun _ _ h => h))).mono ?_
    rintro e w1 ⟨rfl, rfl⟩
    go_wp2
    go_ret
    refine ⟨?_, hk _ _⟩
    rw [decide_eq_true HJ.out, Bool.true_and]
    rfl
  · have e1 : (k == j) = false := by simpa using hkj
    rw [decide_eq_false hkj, Bool.false_and]
    clear hkj
    go_enter Try.func43, Try.ntmps43
    go_wp2
    go_ret
    exact ⟨rfl, hk _ _⟩
end Go.Proofs.Ytpcacndbagiajaa
