/-
  Package update: the function literals; Copy, Batch, Fits, Runs.
-/
import Derived.Test.YtpdkmalfojeghaaGreatDoorUpdC
namespace Go.Proofs.YtpdkmalfojeghaaGreatDoor
open Go.RowKit
set_option linter.unusedVariables false
set_option linter.unusedSimpArgs false

theorem ent_seq : Enters17 222 := fun args w => by kernel_rfl
/-- A block of one number. -/
def NumAt (t : TypeId) (b : Nat) (s : Value) (w : World) : Prop := w.heap[b]? = some (.cells #[s] t (0, 0))
theorem NumAt.keep {t : TypeId} {b : Nat} {s : Value} {S : Nat → Prop} {a c : World} (h : NumAt t b s a) (hk : Kept S a c) (hs : ¬ S b) : NumAt t b s c := hk.heap hs h
theorem NumAt.cell {t : TypeId} {b : Nat} {s : Value} {w : World} (h : NumAt t b s w) : w.cell? ⟨b, 0, none⟩ = some s := cell_of_row _ _ 0 _ _ _ h
theorem NumAt.set {t : TypeId} {b : Nat} {s : Value} {w : World} (h : NumAt t b s w) (u : Value) : NumAt t b u (w.setCell ⟨b, 0, none⟩ u) := blkU_set h 0 u
/-- sequence's number. -/
def SeqSt (b : Nat) (s : Int) (w : World) : Prop := NumAt 22 b (.int .u64 s) w ∧ 0 ≤ s ∧ s ≤ 18446744073709551615
set_option maxRecDepth 100000 in
theorem seq1_any (w : World) (v : Value) (x : Up) (F : Nat → Prop) (b : Nat) (s : Int) (h : UpV w F v x) (hf : FitU x) (hs : SeqSt b s w) : Calls Tryz.prog 222 #[v, .pointer (some ⟨b, 0, none⟩)] w fun e w' => e = .returned (.bool (seqU s x).1) ∧ SeqSt b (seqU s x).2 w' ∧ Kept (fun k => k = b) w w' := by
  obtain ⟨u, rfl, hd⟩ := h
  obtain ⟨ua, uc, rfl, _⟩ := id hd
  obtain ⟨y0, y1, y2, y3, y4, y5, y6⟩ := x
  simp only at hd hf ⊢
  have hka := (Kept.refl NoB w).alloc (.cells #[.int .u64 y0, .int .i64 y1, .int .u64 y2, .int .i64 y3, .int .u32 y4, .int .u64 y5, .slice ua y6.length uc] 43)
  have HKA := Lib.hid hka
  obtain ⟨c0, c1, c2, c3, c4, c5, c6⟩ := cells7 (heap_alloc_new w (.cells #[.int .u64 y0, .int .i64 y1, .int .u64 y2, .int .i64 y3, .int .u32 y4, .int .u64 y5, .slice ua y6.length uc] 43))
  have hn := hs.1.keep hka (fun h => h)
  have HN := Lib.hid hn
  have cb := hn.cell
  have hne : ¬ w.heap.size = b := by have := heap_lt hs.1; omega
  have hne2 : ¬ b = w.heap.size := by have := heap_lt hs.1; omega
  have zb := blkU_frozen hn 0
  have HS := Lib.hid hs
  have h0 : 0 ≤ y0 := hf.1
  have h1 : y0 ≤ 18446744073709551615 := hf.2.1
  have HR : Hid (Kept (fun k => k = b) w (w.alloc (.cells #[.int .u64 y0, .int .i64 y1, .int .u64 y2, .int .i64 y3, .int .u32 y4, .int .u64 y5, .slice ua y6.length uc] 43))) := Lib.hid (hka.mono (fun _ _ h => absurd h (fun h => h)))
  have HW : Hid ((s == 18446744073709551615) = true ∨ True) := Lib.hid (.inr trivial)
  by_cases hz : y0 = 0
  · have e1 : seqU s ⟨y0, y1, y2, y3, y4, y5, y6⟩ = (false, s) := by unfold seqU; rw [if_pos (.inl hz)]
    rw [e1]
    have g1 : (y0 == 0) = true := by simp [hz]
    clear hka hd hf hs hz e1 hn h0 h1
    go_enter Tryz.func222, Tryz.ntmps222
    go_wp2
    go_ret
    exact ⟨rfl, ⟨HN.out, HS.out.2⟩, HR.out⟩
  · have g1 : (y0 == 0) = false := by simpa using hz
    have hw : IntKind.u64.wrap (y0 - 1) = y0 - 1 := by
      unfold IntKind.wrap
      simp [IntKind.bits, IntKind.signed]
      omega
    by_cases hq : y0 = s + 1
    · have e1 : seqU s ⟨y0, y1, y2, y3, y4, y5, y6⟩ = (true, y0) := by unfold seqU; rw [if_neg (fun h => h.elim hz (fun h => h hq))]
      rw [e1]
      have g2 : ((y0 - 1) != s) = false := by simp; omega
      have HB := Lib.hid (And.intro h0 h1)
      clear hka hd hf hs hz e1 hn h0 h1 hq
      go_enter Tryz.func222, Tryz.ntmps222
      go_wp2
      go_ret
      exact ⟨rfl, ⟨HN.out.set _, HB.out⟩, HR.out.setCell (p := ⟨b, 0, none⟩) (.inl rfl) _⟩
    · have e1 : seqU s ⟨y0, y1, y2, y3, y4, y5, y6⟩ = (false, s) := by unfold seqU; rw [if_pos (.inr hq)]
      rw [e1]
      have g2 : ((y0 - 1) != s) = true := by simp; omega
      clear hka hd hf hs hz e1 hn h0 h1 hq
      go_enter Tryz.func222, Tryz.ntmps222
      go_wp2
      go_ret
      exact ⟨rfl, ⟨HN.out, HS.out.2⟩, HR.out⟩
theorem seq_takes (w : World) (F : Nat → Prop) (l : List Up) (b : Nat) (s0 : Int) (hF : ∀ k, F k → k < b) (hb : b < w.heap.size) (hfit : FitsU l) : TakesU 222 #[.pointer (some ⟨b, 0, none⟩)] (fun k => k = b) seqU (SeqSt b) s0 w F l :=
  ⟨ent_seq, fun s a c S h hk hs => ⟨h.1.keep hk (hs b hb), h.2⟩, fun k h => by subst h; exact hb, fun k h => ⟨fun e => by have := hF k h; omega, by have := hF k h; omega⟩, fun s x v w' _ hx hv hs _ => seq1_any w' v x F b s hv (hfit x hx) hs⟩
/-- Batch's number, beside what it is held against. -/
def BatSt (b b1 b2 : Nat) (after most : Int) (s : Int) (w : World) : Prop := NumAt 3 b (.int .i64 s) w ∧ NumAt 22 b1 (.int .u64 after) w ∧ NumAt 3 b2 (.int .i64 most) w ∧ 0 ≤ s ∧ s ≤ 2000 ∧ b1 ≠ b ∧ b2 ≠ b
end Go.Proofs.YtpdkmalfojeghaaGreatDoor
