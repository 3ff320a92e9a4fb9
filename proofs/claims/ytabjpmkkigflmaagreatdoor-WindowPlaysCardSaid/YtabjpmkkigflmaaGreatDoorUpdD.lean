/-
  Package update: the function literals; Copy, Batch, Fits, Runs.
-/
import Derived.Test.YtabjpmkkigflmaaGreatDoorUpdC
namespace Go.Proofs.YtabjpmkkigflmaaGreatDoor
open Go.RowKit
set_option linter.unusedVariables false
set_option linter.unusedSimpArgs false

theorem ent_copy : Enters17 151 := fun args w => by kernel_rfl
theorem ent_batch : Enters17 152 := fun args w => by kernel_rfl
/-- A block of one number. -/
def NumAt (t : TypeId) (b : Nat) (s : Value) (w : World) : Prop := w.heap[b]? = some (.cells #[s] t (0, 0))
theorem NumAt.keep {t : TypeId} {b : Nat} {s : Value} {S : Nat → Prop} {a c : World} (h : NumAt t b s a) (hk : Kept S a c) (hs : ¬ S b) : NumAt t b s c := hk.heap hs h
theorem NumAt.cell {t : TypeId} {b : Nat} {s : Value} {w : World} (h : NumAt t b s w) : w.cell? ⟨b, 0, none⟩ = some s := cell_of_row _ _ 0 _ _ _ h
theorem NumAt.set {t : TypeId} {b : Nat} {s : Value} {w : World} (h : NumAt t b s w) (u : Value) : NumAt t b u (w.setCell ⟨b, 0, none⟩ u) := blkU_set h 0 u
/-- sequence's number. -/
def SeqSt (b : Nat) (s : Int) (w : World) : Prop := NumAt 22 b (.int .u64 s) w ∧ 0 ≤ s ∧ s ≤ 18446744073709551615
set_option maxRecDepth 100000 in
theorem copy1_any (w : World) (v : Value) (x : Up) (F : Nat → Prop) (h : UpV w F v x) (hf : FitU x) : Calls Tryz.prog 151 #[v] w fun e w' => e = .returned (.bool true) ∧ Kept NoB w w' := by
  obtain ⟨u, rfl, hd⟩ := h
  obtain ⟨ua, uc, rfl, _⟩ := id hd
  obtain ⟨y0, y1, y2, y3, y4, y5, y6⟩ := x
  simp only at hd hf ⊢
  have hka := (Kept.refl NoB w).alloc (.cells #[.int .u64 y0, .int .i64 y1, .int .u64 y2, .int .i64 y3, .int .u32 y4, .int .u64 y5, .slice ua y6.length uc] 34)
  have HKA := Lib.hid hka
  obtain ⟨c0, c1, c2, c3, c4, c5, c6⟩ := cells7 (heap_alloc_new w (.cells #[.int .u64 y0, .int .i64 y1, .int .u64 y2, .int .i64 y3, .int .u32 y4, .int .u64 y5, .slice ua y6.length uc] 34))
  clear hka hd hf
  go_enter Tryz.func151, Tryz.ntmps151
  go_wp2
  go_ret
  exact ⟨rfl, HKA.out⟩
theorem copy_takes (w : World) (F : Nat → Prop) (l : List Up) (hF : ∀ k, F k → k < w.heap.size) (hfit : FitsU l) : TakesU 151 #[] NoB anyU (fun _ _ => True) 0 w F l :=
  ⟨ent_copy, fun _ _ _ _ _ _ _ => trivial, fun _ h => absurd h (fun h => h), fun k h => ⟨fun h => h, hF k h⟩, fun s x v w' _ hx hv _ _ => (copy1_any w' v x F hv (hfit x hx)).mono fun e w'' h => ⟨h.1, trivial, h.2⟩⟩
/-- Batch's number, beside what it is held against. -/
def BatSt (b b1 b2 : Nat) (after most : Int) (s : Int) (w : World) : Prop := NumAt 3 b (.int .i64 s) w ∧ NumAt 22 b1 (.int .u64 after) w ∧ NumAt 3 b2 (.int .i64 most) w ∧ 0 ≤ s ∧ s ≤ 10000 ∧ b1 ≠ b ∧ b2 ≠ b
set_option maxRecDepth 100000 in
theorem bat1_any (w : World) (v : Value) (x : Up) (F : Nat → Prop) (b b1 b2 : Nat) (after most s : Int) (h : UpV w F v x) (hf : FitU x) (hs : BatSt b b1 b2 after most s w) (hs1 : s < 10000) : Calls Tryz.prog 152 #[v, .pointer (some ⟨b1, 0, none⟩), .pointer (some ⟨b, 0, none⟩), .pointer (some ⟨b2, 0, none⟩)] w fun e w' => e = .returned (.bool (batU after most s x).1) ∧ BatSt b b1 b2 after most (batU after most s x).2 w' ∧ Kept (fun k => k = b) w w' := by
  obtain ⟨u, rfl, hd⟩ := h
  obtain ⟨ua, uc, rfl, _⟩ := id hd
  obtain ⟨y0, y1, y2, y3, y4, y5, y6⟩ := x
  simp only at hd hf ⊢
  have hka := (Kept.refl NoB w).alloc (.cells #[.int .u64 y0, .int .i64 y1, .int .u64 y2, .int .i64 y3, .int .u32 y4, .int .u64 y5, .slice ua y6.length uc] 34)
  have HKA := Lib.hid hka
  obtain ⟨c0, c1, c2, c3, c4, c5, c6⟩ := cells7 (heap_alloc_new w (.cells #[.int .u64 y0, .int .i64 y1, .int .u64 y2, .int .i64 y3, .int .u32 y4, .int .u64 y5, .slice ua y6.length uc] 34))
  have hn := hs.1.keep hka (fun h => h)
  have hn1 := hs.2.1.keep hka (fun h => h)
  have hn2 := hs.2.2.1.keep hka (fun h => h)
  have HN := Lib.hid (And.intro hn (And.intro hn1 hn2))
  have cb := hn.cell
  have cb1 := hn1.cell
  have cb2 := hn2.cell
  have hne : ¬ w.heap.size = b := by have := heap_lt hs.1; omega
  have hne2 : ¬ b = w.heap.size := by have := heap_lt hs.1; omega
  have zb := blkU_frozen hn 0
  have HS := Lib.hid hs
  have HR : Hid (Kept (fun k => k = b) w (w.alloc (.cells #[.int .u64 y0, .int .i64 y1, .int .u64 y2, .int .i64 y3, .int .u32 y4, .int .u64 y5, .slice ua y6.length uc] 34))) := Lib.hid (hka.mono (fun _ _ h => absurd h (fun h => h)))
  by_cases hz : y0 ≤ after
  · have e1 : batU after most s ⟨y0, y1, y2, y3, y4, y5, y6⟩ = (false, s) := by unfold batU; rw [if_pos (.inl hz)]
    rw [e1]
    have g1 : decide (y0 ≤ after) = true := decide_eq_true hz
    clear hka hd hf hs hz e1 hn hn1 hn2
    go_enter Tryz.func152, Tryz.ntmps152
    go_wp2
    go_ret
    exact ⟨rfl, ⟨HN.out.1, HN.out.2.1, HN.out.2.2, HS.out.2.2.2⟩, HR.out⟩
  · have g1 : decide (y0 ≤ after) = false := decide_eq_false hz
    by_cases hq : most ≤ s
    · have e1 : batU after most s ⟨y0, y1, y2, y3, y4, y5, y6⟩ = (false, s) := by unfold batU; rw [if_pos (.inr hq)]
      rw [e1]
      have g2 : decide (most ≤ s) = true := decide_eq_true hq
      clear hka hd hf hs hz e1 hn hn1 hn2 hq
      go_enter Tryz.func152, Tryz.ntmps152
      go_wp2
      go_ret
      exact ⟨rfl, ⟨HN.out.1, HN.out.2.1, HN.out.2.2, HS.out.2.2.2⟩, HR.out⟩
    · have e1 : batU after most s ⟨y0, y1, y2, y3, y4, y5, y6⟩ = (true, s + 1) := by unfold batU; rw [if_neg (fun h => h.elim hz hq)]
      rw [e1]
      have g2 : decide (most ≤ s) = false := decide_eq_false hq
      have hw : IntKind.i64.wrap (s + 1) = s + 1 := by
        have := hs.2.2.2.1
        unfold IntKind.wrap
        simp [IntKind.bits, IntKind.signed]
        omega
      have HB : Hid (0 ≤ s + 1 ∧ s + 1 ≤ 10000) := Lib.hid (by have := hs.2.2.2.1; omega)
      clear hka hd hf hs hz e1 hn hn1 hn2 hq hs1
      go_enter Tryz.func152, Tryz.ntmps152
      go_wp2
      go_ret
      have hk := (Kept.refl (fun k => k = b) (w.alloc (.cells #[.int .u64 y0, .int .i64 y1, .int .u64 y2, .int .i64 y3, .int .u32 y4, .int .u64 y5, .slice ua y6.length uc] 34))).setCell (p := ⟨b, 0, none⟩) (.inl rfl) (.int .i64 (s + 1))
      exact ⟨rfl, ⟨HN.out.1.set _, HN.out.2.1.keep hk HS.out.2.2.2.2.2.1, HN.out.2.2.keep hk HS.out.2.2.2.2.2.2, HB.out.1, HB.out.2, HS.out.2.2.2.2.2⟩, HR.out.setCell (p := ⟨b, 0, none⟩) (.inl rfl) _⟩
theorem bat_takes (w : World) (F : Nat → Prop) (l : List Up) (b b1 b2 : Nat) (after most : Int) (hF : ∀ k, F k → k < b) (hb : b < w.heap.size) (hb1 : b1 < w.heap.size) (hb2 : b2 < w.heap.size) (hfit : FitsU l) (hl : l.length ≤ 5000) : TakesU 152 #[.pointer (some ⟨b1, 0, none⟩), .pointer (some ⟨b, 0, none⟩), .pointer (some ⟨b2, 0, none⟩)] (fun k => k = b) (batU after most) (BatSt b b1 b2 after most) 0 w F l :=
  ⟨ent_batch, fun s a c S h hk hs => ⟨h.1.keep hk (hs b hb), h.2.1.keep hk (hs b1 hb1), h.2.2.1.keep hk (hs b2 hb2), h.2.2.2⟩, fun k h => by subst h; exact hb, fun k h => ⟨fun e => by have := hF k h; omega, by have := hF k h; omega⟩, fun s x v w' hs0 hx hv hs _ => bat1_any w' v x F b b1 b2 after most s hv (hfit x hx) hs (by
    obtain ⟨k, hk, rfl⟩ := hs0
    rw [endU_bat]
    have := selU_len (batU after most) 0 (l.take k)
    rw [List.length_take] at this
    omega)⟩
end Go.Proofs.YtabjpmkkigflmaaGreatDoor
