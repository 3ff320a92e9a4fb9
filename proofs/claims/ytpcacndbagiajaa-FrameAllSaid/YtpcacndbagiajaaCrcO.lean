/-
  What Of does with its parts, and the page's example of layer 2 (catenarylaw02.awake).
-/
import Derived.Test.YtpcacndbagiajaaCrcM
import Derived.Lib.SlBytesConst
namespace Go.Proofs.Ytpcacndbagiajaa
open Go.RowKit

/-- The value is a slice of n slices of bytes, in blocks of F. -/
def PAt (w : World) (F : Nat → Prop) (v : Value) (n : Nat) (L : Nat → List Int) : Prop :=
  ∃ a cap, v = .slice a n cap ∧ n ≤ 9223372036854775807 ∧ (0 < n → ∃ b o, a = some ⟨b, o, none⟩ ∧ F b ∧ b < w.heap.size ∧ ∀ j, j < n → ∃ x, w.cell? ⟨b, o + j, none⟩ = some x ∧ BSl w F x (L j))
theorem PAt.kept {S F : Nat → Prop} {w w' : World} {v : Value} {n : Nat} {L : Nat → List Int} (h : PAt w F v n L) (hk : Kept S w w') (hs : ∀ k, F k → ¬ S k) : PAt w' F v n L := by
  obtain ⟨a, cap, h1, h2, h3⟩ := h
  refine ⟨a, cap, h1, h2, fun hn => ?_⟩
  obtain ⟨b, o, ha, hF, hb, hc⟩ := h3 hn
  refine ⟨b, o, ha, hF, Nat.lt_of_lt_of_le hb hk.size, fun j hj => ?_⟩
  obtain ⟨x, hx, hbx⟩ := hc j hj
  exact ⟨x, hk.cell (p := ⟨b, o + j, none⟩) (hs b hF) hx, hbx.kept hk hs⟩
def catL (L : Nat → List Int) : Nat → List Int
  | 0 => []
  | j + 1 => catL L j ++ L j
theorem catL_isB {L : Nat → List Int} {n : Nat} (h : ∀ j, j < n → IsB (L j)) : ∀ j, j ≤ n → IsB (catL L j) := by
  intro j
  induction j with
  | zero => exact fun _ => IsB.nil
  | succ j ih => exact fun hj => (ih (by omega)).append (h j (by omega))
theorem more_nil : more 0 [] = 0 := by simp [more, on, oth_oth]
/-- One part. -/
theorem PAt.one {w : World} {F : Nat → Prop} {x : Value} {l : List Int} (h : BSl w F x l) (t : TypeId) : PAt (w.alloc (.cells #[x] t)) (fun k => F k ∨ k = w.heap.size) (.slice (some ⟨w.heap.size, 0, none⟩) 1 1) 1 (fun _ => l) := by
  have hk : Kept NoB w (w.alloc (.cells #[x] t)) := (Kept.refl _ _).alloc _
  refine ⟨_, 1, rfl, by decide, fun _ => ⟨w.heap.size, 0, rfl, .inr rfl, by simp, fun j hj => ⟨x, ?_, (h.kept hk (fun _ _ h => h)).mono (fun k _ h => .inl h)⟩⟩⟩
  have : j = 0 := by omega
  subst this
  exact cell_of_row _ _ 0 _ _ _ (heap_alloc_new w (.cells #[x] t))

set_option maxRecDepth 100000 in
/-- Of. -/
theorem COf_any (g : Nat) (m : Bool) (v : Value) (n : Nat) (L : Nat → List Int) (F : Nat → Prop) (w : World) (h : TabAt w g m) (hp : PAt w F v n L) (hF : ¬ F g) :
    Calls Try.prog 64 #[.pointer (some ⟨g, 0, none⟩), v] w fun e w' => e = .returned (.int .u32 (more 0 (catL L n))) ∧ TabAt w' g true ∧ Kept (One g) w w' := by
  have HP := Lib.hid hp
  have HT := Lib.hid h
  have hFG := Lib.hid (show ∀ k, F k → ¬ One g k from fun k hk h => by have e : k = g := h; rw [e] at hk; exact hF hk)
  obtain ⟨a, cap, rfl, hn, _⟩ := hp
  have hn2 : (n : Int) ≤ 9223372036854775807 := by omega
  have HF := Lib.hid hF
  clear h hF
  go_enter Try.func64, Try.ntmps64
  go_wp2_with fail
  refine (ready_any g m _ HT.out).mono ?_
  rintro e w1 ⟨rfl, ht1, hk1⟩
  have HT1 := Lib.hid ht1
  have HP1 := Lib.hid (HP.out.kept hk1 hFG.out)
  have HK1 := Lib.hid hk1
  clear ht1 hk1
  go_wp2_with fail
  go_loopw [5, 14] (fun x i wr => ∃ j : Nat, j ≤ n ∧ i = .int .i64 j ∧ x = .int .u32 (more 0 (catL L j)) ∧ more 0 (catL L j) < 4294967296 ∧ TabAt wr g true ∧ PAt wr F (.slice a n cap) n L ∧ Kept (One g) w wr) (fun _ i _ => n - (intOf i).toNat)
  case atStart => exact ⟨0, Nat.zero_le _, rfl, by rw [catL, more_nil]; rfl, by rw [catL, more_nil]; decide, HT1.out, HP1.out, HK1.out⟩
  case round =>
    obtain ⟨j, hj, rfl, rfl, hm, ht, hp, hk⟩ := hrel
    have HTr := Lib.hid ht
    have HPr := Lib.hid hp
    have HKr := Lib.hid hk
    have HM := Lib.hid hm
    obtain ⟨s, hs⟩ : ∃ s, s = more 0 (catL L j) := ⟨_, rfl⟩
    rw [← hs]
    have HS := Lib.hid hs
    clear hs hm ht hk
    by_cases hlt : j < n
    · obtain ⟨a', cap', e1, _, hc⟩ := hp
      simp only [Value.slice.injEq] at e1
      obtain ⟨rfl, _, rfl⟩ := e1
      obtain ⟨b, o, rfl, _, _, hcs⟩ := hc (by omega)
      obtain ⟨x, hx, hbx⟩ := hcs j hlt
      have HBX := Lib.hid hbx
      obtain ⟨xa, xc, rfl, _⟩ := hbx
      clear hcs hc
      go_wp2_with fail
      refine (CMore_any g true s _ (L j) F _ HTr.out (by rw [HS.out]; exact HM.out) HBX.out HF.out).mono ?_
      rintro e w2 ⟨rfl, ht2, hk2⟩
      have hnew : more s (L j) = more 0 (catL L (j + 1)) := by rw [HS.out, catL, more_append]
      have hlt2 : more s (L j) < 4294967296 := more_lt _ _ (by rw [HS.out]; exact HM.out) HBX.out.isB
      rw [hnew] at hlt2 ⊢
      have HT2 := Lib.hid ht2
      have HK2 := Lib.hid hk2
      have HL2 := Lib.hid hlt2
      clear hnew ht2 hk2 hlt2
      generalize hq : more 0 (catL L (j + 1)) = q at *
      go_wp2
      exact ⟨⟨j + 1, by omega, by go_num, by rw [hq], by rw [hq]; exact HL2.out, HT2.out, HPr.out.kept HK2.out hFG.out, HKr.out.trans HK2.out (fun _ _ h => h)⟩, by simp [intOf]; omega⟩
    · obtain rfl : j = n := by omega
      clear hp
      go_wp2
      go_ret
      rw [HS.out]
      exact ⟨rfl, HTr.out, HKr.out⟩

theorem nine_bsl (w : World) (t : TypeId) (fr : Nat × Nat) : BSl (w.alloc (.cells #[.int .u8 49, .int .u8 50, .int .u8 51, .int .u8 52, .int .u8 53, .int .u8 54, .int .u8 55, .int .u8 56, .int .u8 57] t fr)) (fun k => k = w.heap.size) (.slice (some ⟨w.heap.size, 0, none⟩) 9 9) [49, 50, 51, 52, 53, 54, 55, 56, 57] := by
  refine ⟨_, 9, rfl, Nat.le_refl _, by decide, (fun h => by cases h), (by unfold IsB; decide), fun _ => ⟨w.heap.size, 0, rfl, rfl, by simp, fun j hj => ?_⟩⟩
  rw [cell_of_row _ _ (0 + j) _ _ _ (heap_alloc_new w (.cells #[.int .u8 49, .int .u8 50, .int .u8 51, .int .u8 52, .int .u8 53, .int .u8 54, .int .u8 55, .int .u8 56, .int .u8 57] t fr))]
  have hj9 : j < 9 := hj
  match j, hj9 with
  | 0, _ | 1, _ | 2, _ | 3, _ | 4, _ | 5, _ | 6, _ | 7, _ | 8, _ => rfl
theorem nine_sum : more 0 [49, 50, 51, 52, 53, 54, 55, 56, 57] = 3421780262 := by decide +kernel

set_option maxRecDepth 100000 in
theorem awake2_any (w : World) : Calls Try.prog 35 #[] w fun e w' => e = .returned (.bool true) ∧ Kept NoB w w' := by
  have kc := fun (w : World) (C : Array Value) (n c : Nat) => Lib.run_convert_bytes_const (P := Try.prog) w 22 5 C n c Try.underlying22 Try.underlying5
  go_enter Try.func35, Try.ntmps35
  go_wp2_with fail
  refine (CNew_any _).mono ?_
  rintro e w1 ⟨rfl, ht1, hk1⟩
  have HT1 := Lib.hid ht1
  have HK1 := Lib.hid hk1
  have hlt := ht1.lt
  clear ht1 hk1
  go_wp2_with fail
  refine (Made_any _ false _ HT1.out).mono ?_
  rintro e w2 ⟨rfl, rfl⟩
  go_wp2_with fail
  have hk3 : ∀ (o q : Obj), Kept NoB w1 ((w1.alloc o).alloc q) := fun o q => ((Kept.refl _ _).alloc o).alloc q
  refine (COf_any w.heap.size false _ 1 (fun _ => [49, 50, 51, 52, 53, 54, 55, 56, 57]) (fun k => k = w1.heap.size ∨ k = w1.heap.size + 1) _ (HT1.out.kept (hk3 _ _) (fun h => h)) ?_ (by omega)).mono ?_
  · have := PAt.one (nine_bsl w1 5 (9, 10)) 22
    simp only [World.size_alloc] at this
    exact this
  rintro e w2 ⟨rfl, ht2, hk2⟩
  have hsum : more 0 (catL (fun _ => [49, 50, 51, 52, 53, 54, 55, 56, 57]) 1) = 3421780262 := nine_sum
  rw [hsum]
  have HT2 := Lib.hid ht2
  have HK2 := Lib.hid hk2
  clear hsum hk3 ht2 hk2
  go_wp2_with fail
  refine (Made_any _ true _ HT2.out).mono ?_
  rintro e w3 ⟨rfl, rfl⟩
  go_wp2_with fail
  refine (Slow_any _ [49, 50, 51, 52, 53, 54, 55, 56, 57] _ _ (nine_bsl _ 5 (9, 10))).mono ?_
  rintro e w4 ⟨rfl, rfl⟩
  rw [nine_sum]
  go_wp2
  go_ret
  have hk1 : Kept (One w.heap.size) w1 w2 := (((Kept.refl _ _).alloc _).alloc _).trans HK2.out (fun _ _ h => h)
  have hk : Kept NoB w w2 := HK1.out.trans hk1 (fun i hi h => by have e : i = w.heap.size := h; omega)
  exact ⟨rfl, hk.alloc _⟩
end Go.Proofs.Ytpcacndbagiajaa
