/-
  The walk of LatchLazy.
-/
import Derived.Test.YtfjgfeaeikjjhaaLatD
namespace Go.Proofs.Ytfjgfeaeikjjhaa
open Go.RowKit
set_option linter.unusedVariables false

theorem kept_no {a b c : World} (h : Kept NoB a b) (k : Kept NoB b c) : Kept NoB a c := h.trans k (fun _ _ h => h)
theorem kept_new {g : Nat} {a b c : World} (h : Kept NoB a b) (k : Kept (One g) b c) (hg : a.heap.size ≤ g) : Kept NoB a c := h.trans k (fun i hi h => by have h : i = g := h; omega)

/-- The state of both lazy values in the world wc: the one of the function (done: dx), the one of no function (done: dy), the captured cell. -/
def LzSt (w : World) (c gx gy : Nat) (v : Int) (dx dy : Bool) (wc : World) : Prop :=
  wc.heap[c]? = some (.cells #[.int .u64 v] 25 (0, 0)) ∧ LazAt wc gx dx dx (if dx then .nilFunc else FnL c) (if dx then v else 0) ∧ LazAt wc gy dy false .nilFunc 0 ∧ Kept NoB w wc ∧ c < gx ∧ gx < gy ∧ w.heap.size ≤ c
theorem LzSt.drew {w wc : World} {c gx gy : Nat} {v : Int} {dx dy : Bool} (h : LzSt w c gx gy v dx dy wc) : LzSt w c gx gy v dx dy wc.drew := ⟨h.1, h.2.1, h.2.2.1, h.2.2.2.1.drew, h.2.2.2.2⟩
theorem LzSt.cell {w wc : World} {c gx gy : Nat} {v : Int} {dx dy : Bool} (h : LzSt w c gx gy v dx dy wc) : wc.cell? ⟨c, 0, none⟩ = some (.int .u64 v) := cell_of_row _ _ 0 _ _ _ h.1
theorem lx_get (w : World) (c gx gy : Nat) (v : Int) (dy : Bool) (wc : World) (h : LzSt w c gx gy v false dy wc) :
    Calls Try.prog 15 #[.pointer (some ⟨gx, 0, none⟩)] wc fun e w' => e = .returned (.int .u64 v) ∧ LzSt w c gx gy v true dy w' := by
  obtain ⟨hb, hx, hy, hk, h1, h2, h3⟩ := h
  refine (GetL_fn gx c v wc hx (cell_of_row _ _ 0 _ _ _ hb) (by omega)).mono ?_
  rintro e w' ⟨rfl, hx', hk'⟩
  exact ⟨rfl, hk'.heap (fun h => by have h : c = gx := h; omega) hb, hx', LazAt.kept hy hk' (fun h => by have h : gy = gx := h; omega), hk.trans hk' (fun i hi h => by have h : i = gx := h; omega), h1, h2, h3⟩
theorem ly_get (w : World) (c gx gy : Nat) (v : Int) (dx : Bool) (wc : World) (h : LzSt w c gx gy v dx false wc) :
    Calls Try.prog 15 #[.pointer (some ⟨gy, 0, none⟩)] wc fun e w' => e = .returned (.int .u64 0) ∧ LzSt w c gx gy v dx true w' := by
  obtain ⟨hb, hx, hy, hk, h1, h2, h3⟩ := h
  refine (GetL_nil gy wc hy).mono ?_
  rintro e w' ⟨rfl, hy', hk'⟩
  exact ⟨rfl, hk'.heap (fun h => by have h : c = gy := h; omega) hb, LazAt.kept hx hk' (fun h => by have h : gx = gy := h; omega), hy', hk.trans hk' (fun i hi h => by have h : i = gy := h; omega), h1, h2, h3⟩
theorem lx_got (w : World) (c gx gy : Nat) (v : Int) (dy : Bool) (wc : World) (h : LzSt w c gx gy v true dy wc) :
    Calls Try.prog 15 #[.pointer (some ⟨gx, 0, none⟩)] wc fun e w' => e = .returned (.int .u64 v) ∧ LzSt w c gx gy v true dy w' :=
  (GetL_done gx true _ v wc h.2.1).mono (by rintro e w' ⟨rfl, rfl⟩; exact ⟨rfl, h⟩)
theorem ly_got (w : World) (c gx gy : Nat) (v : Int) (dx : Bool) (wc : World) (h : LzSt w c gx gy v dx true wc) :
    Calls Try.prog 15 #[.pointer (some ⟨gy, 0, none⟩)] wc fun e w' => e = .returned (.int .u64 0) ∧ LzSt w c gx gy v dx true w' :=
  (GetL_done gy false _ 0 wc h.2.2.1).mono (by rintro e w' ⟨rfl, rfl⟩; exact ⟨rfl, h⟩)
theorem lx_runs (w : World) (c gx gy : Nat) (v : Int) (dy : Bool) (wc : World) (h : LzSt w c gx gy v true dy wc) :
    Calls Try.prog 14 #[.pointer (some ⟨gx, 0, none⟩)] wc fun e w' => e = .returned (.int .i64 1) ∧ LzSt w c gx gy v true dy w' :=
  (Runs_any gx true true _ v wc h.2.1).mono (by rintro e w' ⟨rfl, rfl⟩; exact ⟨rfl, h⟩)
theorem ly_runs (w : World) (c gx gy : Nat) (v : Int) (dx dy : Bool) (wc : World) (h : LzSt w c gx gy v dx dy wc) :
    Calls Try.prog 14 #[.pointer (some ⟨gy, 0, none⟩)] wc fun e w' => e = .returned (.int .i64 0) ∧ LzSt w c gx gy v dx dy w' :=
  (Runs_any gy dy false _ 0 wc h.2.2.1).mono (by rintro e w' ⟨rfl, rfl⟩; exact ⟨rfl, h⟩)

set_option maxRecDepth 100000 in
set_option maxHeartbeats 2000000 in
theorem LatchLazy_any (v n : Int) (w : World) (hn0 : 0 ≤ n) (hn1 : n < 256) :
    Calls Try.prog 4 #[.int .u64 v, .int .u8 n] w fun e w' => e = .returned (.bool true) ∧ Kept NoB w w' := by
  have hmf : ∀ (fn : Fn) (first cap : Array Value) (w : World), (Instr.makeFunc fn first cap).run Try.prog w = .ok (.func fn first cap) w := fun _ _ _ _ => rfl
  have hbox := Lib.hid (heap_alloc_new w (.cells #[.int .u64 v] 25))
  have hbz : w.heap.size < (w.alloc (.cells #[.int .u64 v] 25)).heap.size := by simp
  have HKa := Lib.hid ((Kept.refl NoB w).alloc (.cells #[.int .u64 v] 25))
  go_enter Try.func4, Try.ntmps4
  go_wp2_with fail
  refine (OfF_any _ _).mono ?_
  rintro e w1 ⟨rfl, hx1, hk1, hz1⟩
  obtain ⟨gx, hgx⟩ : ∃ gx, gx = (w.alloc (.cells #[.int .u64 v] 25)).heap.size := ⟨_, rfl⟩
  rw [← hgx] at hx1 hz1 ⊢
  have HX1 := Lib.hid hx1
  have HB1 := Lib.hid (hk1.heap (fun h => h) hbox.out)
  have HK1 := Lib.hid (kept_no HKa.out hk1)
  have hgx' : w.heap.size < gx := by rw [hgx]; exact hbz
  clear hx1 hk1 hgx hbz
  go_wp2_with fail
  refine (OfN_any _).mono ?_
  rintro e w2 ⟨rfl, hy2, hk2, hz2⟩
  have HY2 := Lib.hid hy2
  have HX2 := Lib.hid (LazAt.kept HX1.out hk2 (fun h => h))
  have HB2 := Lib.hid (hk2.heap (fun h => h) HB1.out)
  have HK2 := Lib.hid (kept_no HK1.out hk2)
  obtain ⟨gy, hgy⟩ : ∃ gy, gy = w1.heap.size := ⟨_, rfl⟩
  rw [← hgy] at hz1 hz2 HY2 ⊢
  clear hy2 hk2 hgy
  go_wp2_with fail
  refine (Runs_any _ _ false _ _ _ HX2.out).mono ?_
  rintro e w3 ⟨rfl, rfl⟩
  go_wp2
  go_loopw [8] (fun i wr => ∃ (k : Nat) (d : Bool), i = .int .i64 k ∧ (k : Int) ≤ n % 9 + 1 ∧ LzSt w w.heap.size gx gy v d d wr) (fun i _ => 10 - (intOf i).toNat)
  case atStart => exact ⟨0, false, rfl, by omega, HB2.out, HX2.out, HY2.out, HK2.out, hgx', hz1, Nat.le_refl _⟩
  case round =>
    obtain ⟨k, d, rfl, hk, hst⟩ := hrel
    have hc := hst.cell
    have HST := Lib.hid hst
    clear hst
    by_cases hlt : (k : Int) ≤ n % 9
    · cases d
      · go_wp2_with fail
        go_region_held3 (fun w' => w'.cell? ⟨w.heap.size, 0, none⟩ = some (.int .u64 v))
          (first | exact HST.out.cell | exact cell_drew HST.out.cell | go_keep)
          (first
            | (go_at_call 15; (with_reducible refine (lx_get w w.heap.size gx gy v _ _ (by first | exact HST.out | exact HST.out.drew)).mono ?_); rintro e w6 ⟨rfl, h6⟩; replace HST := Lib.hid h6; clear h6)
            | (go_at_call 15; (with_reducible refine (ly_get w w.heap.size gx gy v _ _ (by first | exact HST.out | exact HST.out.drew)).mono ?_); rintro e w6 ⟨rfl, h6⟩; replace HST := Lib.hid h6; clear h6)
            | (go_at_call 14; (with_reducible refine (lx_runs w w.heap.size gx gy v _ _ (by first | exact HST.out | exact HST.out.drew)).mono ?_); rintro e w6 ⟨rfl, h6⟩; replace HST := Lib.hid h6; clear h6)
            | (go_at_call 14; (with_reducible refine (ly_runs w w.heap.size gx gy v _ _ _ (by first | exact HST.out | exact HST.out.drew)).mono ?_); rintro e w6 ⟨rfl, h6⟩; replace HST := Lib.hid h6; clear h6))
        all_goals go_wp2
        all_goals first
          | exact ⟨⟨k + 1, true, by go_num, by omega, HST.out⟩, by simp [intOf]; omega⟩
          | exact ⟨⟨k + 1, true, by go_num, by omega, HST.out.drew⟩, by simp [intOf]; omega⟩
      · go_wp2_with fail
        go_region_held3 (fun w' => w'.cell? ⟨w.heap.size, 0, none⟩ = some (.int .u64 v))
          (first | exact HST.out.cell | exact cell_drew HST.out.cell | go_keep)
          (first
            | (go_at_call 15; (with_reducible refine (lx_got w w.heap.size gx gy v _ _ (by first | exact HST.out | exact HST.out.drew)).mono ?_); rintro e w6 ⟨rfl, h6⟩; replace HST := Lib.hid h6; clear h6)
            | (go_at_call 15; (with_reducible refine (ly_got w w.heap.size gx gy v _ _ (by first | exact HST.out | exact HST.out.drew)).mono ?_); rintro e w6 ⟨rfl, h6⟩; replace HST := Lib.hid h6; clear h6)
            | (go_at_call 14; (with_reducible refine (lx_runs w w.heap.size gx gy v _ _ (by first | exact HST.out | exact HST.out.drew)).mono ?_); rintro e w6 ⟨rfl, h6⟩; replace HST := Lib.hid h6; clear h6)
            | (go_at_call 14; (with_reducible refine (ly_runs w w.heap.size gx gy v _ _ _ (by first | exact HST.out | exact HST.out.drew)).mono ?_); rintro e w6 ⟨rfl, h6⟩; replace HST := Lib.hid h6; clear h6))
        all_goals go_wp2
        all_goals first
          | exact ⟨⟨k + 1, true, by go_num, by omega, HST.out⟩, by simp [intOf]; omega⟩
          | exact ⟨⟨k + 1, true, by go_num, by omega, HST.out.drew⟩, by simp [intOf]; omega⟩
    · go_wp2_with fail
      refine (awake5_any _).mono ?_
      rintro e w2 ⟨rfl, hk2⟩
      go_wp2
      go_ret
      exact ⟨rfl, kept_no HST.out.2.2.2.1 hk2⟩
end Go.Proofs.Ytfjgfeaeikjjhaa
