/-
  The table is computed once: compute, sync.Once's Do, ready, Made.
-/
import Derived.Test.YtpcacndbagiajaaTab
import Derived.Conc.MuLone
import Derived.Laws.LoneSync
import Derived.Laws.NewBlocks
import Derived.Defers
import Derived.RegionCalls
namespace Go.Proofs.Ytpcacndbagiajaa
open Go.RowKit Go.MuLone

abbrev muLink : Go.Conc.Locks.MuLink := { lock := 94, unlock := 95, ilock := 98, iunlock := 99, lockSlow := 106, unlockSlow := 109, disable := 102, enable := 104, acquire := 105, relMerge := 107, cas32 := 103, add32 := 108, tMutex := 58, tIMutex := 56, tPMutex := 156, tPIMutex := 159, tPI32 := 161, tUP := 163, tNoCopy := 51, tU32 := 49 }
theorem muLib : Go.Conc.Locks.MuLib Try.prog muLink :=
  ⟨Try.func94, Try.func95, Try.func98, Try.func99, Try.func102, Try.func104, Try.func105, Try.func107, Try.func103, Try.func108, Try.underlying56, Try.runUnderlying56, Try.sizeOf56, Try.isAgg56, Try.zeroValue56, Try.underlying58, Try.runUnderlying58, Try.sizeOf58, Try.isAgg58, Try.zeroValue58, Try.underlying156, Try.runUnderlying156, Try.sizeOf156, Try.isAgg156, Try.zeroValue156, Try.underlying159, Try.runUnderlying159, Try.sizeOf159, Try.isAgg159, Try.zeroValue159, Try.underlying161, Try.runUnderlying161, Try.sizeOf161, Try.isAgg161, Try.zeroValue161, Try.underlying163, Try.runUnderlying163, Try.sizeOf163, Try.isAgg163, Try.zeroValue163, Try.underlying51, Try.runUnderlying51, Try.sizeOf51, Try.isAgg51, Try.zeroValue51, Try.underlying21, Try.runUnderlying21, Try.sizeOf21, Try.isAgg21, Try.zeroValue21, (by kernel_rfl)⟩

theorem blk_frozen0 {w : World} {g : Nat} {cs : Array Value} {t : TypeId} (h : w.heap[g]? = some (.cells cs t (0, 0))) (o : Nat) : w.frozen? ⟨g, o, none⟩ = false := by simp [World.frozen?, h]

/-- Add(1) to the count. -/
theorem Add_any (g : Nat) (x : Int) (w : World) (hc : w.cell? ⟨g, 3, none⟩ = some (.int .i64 x)) (hz : w.frozen? ⟨g, 3, none⟩ = false) (h0 : 0 ≤ x) (h1 : x < 1000) :
    Calls Try.prog 91 #[.pointer (some ⟨g, 3, none⟩), .int .i64 1] w fun e w' => e = .returned (.int .i64 (x + 1)) ∧ w' = w.setCell ⟨g, 3, none⟩ (.int .i64 (x + 1)) := by
  have hs : (Op.intArith .add .i64 x 1).run Try.prog w = .ok (.int .i64 (x + 1)) w := by
    have := IntWalk.i64_in (x + 1) (by omega)
    simp [go_sem, this]
  have ha := run_call_add (P := Try.prog) Try.func97 (by kernel_rfl) (by kernel_rfl) (by kernel_rfl) .i64 (by kernel_rfl) hc hz hs
  go_enter Try.func91, Try.ntmps91
  go_wp2
  go_ret
  exact ⟨rfl, rfl⟩

set_option maxRecDepth 100000 in
/-- compute. -/
theorem compute_any (g : Nat) (d : Int) (w : World) (h : Filled w g d 0) (h0 : 0 ≤ d) (h1 : d < 1000) :
    Calls Try.prog 82 #[.pointer (some ⟨g, 0, none⟩)] w fun e w' => e = .returned (.tuple #[]) ∧ ∃ w2, w' = w2.setCell ⟨g, 3, none⟩ (.int .i64 (d + 1)) ∧ Filled w2 g d 256 ∧ Kept (One g) w w2 := by
  have HW := Lib.hid h
  clear h
  go_enter Try.func82, Try.ntmps82
  go_wp2
  go_loopw [3] (fun i wr => ∃ k : Nat, k ≤ 256 ∧ i = .int .i64 k ∧ Filled wr g d k ∧ Kept (One g) w wr) (fun i _ => 256 - (intOf i).toNat)
  case atStart => exact ⟨0, by omega, rfl, HW.out, Kept.refl _ _⟩
  case round =>
    obtain ⟨k, hk, rfl, hF, hkp⟩ := hrel
    have HF := Lib.hid hF
    have HK := Lib.hid hkp
    obtain ⟨hx, c3, hz, hgl⟩ := hF.cell
    clear hF hkp
    by_cases hlt : k < 256
    · obtain ⟨x, hc⟩ := hx k hlt
      have f0 := hz (4 + k)
      have hwr : IntKind.u32.wrap (k : Int) = (k : Int) := IntWalk.u32_in _ (by omega)
      have hk0 : (0 : Int) ≤ (k : Int) := by omega
      have hk1 : (k : Int) < 256 := by omega
      clear hx hz
      go_wp2_with fail
      go_region_law ((go_simp; go_at_call 84; refine (shifted_any k _ (by omega)).mono ?_; rintro e w2 ⟨rfl, rfl⟩))
      go_wp2
      exact ⟨⟨k + 1, by omega, by go_num, (HF.out.store hlt).drew, (HK.out.one (4 + k) _).drew⟩, by simp [intOf]; omega⟩
    · obtain rfl : k = 256 := by omega
      have f3 := hz 3
      have HC3 := Lib.hid c3
      clear hx hz
      go_wp2_with fail
      refine (Add_any g d _ c3 f3 h0 h1).mono ?_
      rintro e w3 ⟨rfl, rfl⟩
      go_wp2
      go_end0
      exact ⟨rfl, wr, rfl, HF.out, HK.out⟩

/-- Store, entered as a deferred call. -/
theorem store_done (a : Addr) (x : Value) (u : FrameMode) (w : World) (hc : w.cell? a = some x) (hz : w.frozen? a = false) :
    CallsD Try.prog 96 #[.pointer (some a), .bool true] u w fun e u' w' => u' = u ∧ (e = .returned (.tuple #[]) ∧ w' = w.drew.setCell a (.int .u32 1)) := by
  have hc' : w.drew.cell? a = some x := by go_simp
  have hz' : w.drew.frozen? a = false := by go_simp
  have hst := run_call_store (P := Try.prog) Try.func100 (by kernel_rfl) (by kernel_rfl) (by kernel_rfl) (by kernel_rfl) (k := .u32) (y := 1) hc' hz'
  go_enter_d Try.func96, Try.ntmps96
  go_wp2
  go_region_calls
  all_goals (go_end0; exact ⟨rfl, rfl⟩)

/-- A block that is not a made table yet: what Filled says ahead of the lock. -/
theorem TabAt.locked {w : World} {g : Nat} (h : TabAt w g false) : Filled (w.setCell ⟨g, 1, none⟩ (.int .i32 1)) g 0 0 := by
  obtain ⟨cs, hh, hs, h0, h1, h2, h3, ht⟩ := h
  have key : ∀ j, j ≠ 1 → (cs.setIfInBounds 1 (.int .i32 1))[j]? = cs[j]? := fun j hj => by rw [Array.getElem?_setIfInBounds, if_neg (by omega)]
  refine ⟨cs.setIfInBounds 1 (.int .i32 1), by simp [World.setCell, Array.getElem?_modify, hh], by simpa using hs, by rw [key 0 (by omega)]; exact h0, by rw [Array.getElem?_setIfInBounds, if_pos rfl, if_pos (by omega)], ?_, by rw [key 3 (by omega)]; exact h3, fun i hi => ⟨0, by rw [key _ (by omega)]; exact ht i hi⟩, fun i hi => by omega⟩
  obtain ⟨x, hx⟩ := h2
  exact ⟨x, by rw [key 2 (by omega)]; exact hx⟩
/-- What is left when all of it is done. -/
theorem Filled.made {w : World} {g : Nat} (h : Filled w g 0 256) : TabAt ((((w.setCell ⟨g, 3, none⟩ (.int .i64 1)).drew).setCell ⟨g, 0, none⟩ (.int .u32 1)).setCell ⟨g, 1, none⟩ (.int .i32 0)) g true := by
  obtain ⟨cs, hh, hs, h0, h1, h2, h3, hx, ht⟩ := h
  have e : ((((w.setCell ⟨g, 3, none⟩ (.int .i64 1)).drew).setCell ⟨g, 0, none⟩ (.int .u32 1)).setCell ⟨g, 1, none⟩ (.int .i32 0)).heap[g]? =
      some (.cells (((cs.setIfInBounds 3 (.int .i64 1)).setIfInBounds 0 (.int .u32 1)).setIfInBounds 1 (.int .i32 0)) 66 (0, 0)) := by
    simp [World.setCell, World.drew, Array.getElem?_modify, hh]
  have key : ∀ j, j ≠ 0 → j ≠ 1 → j ≠ 3 → (((cs.setIfInBounds 3 (.int .i64 1)).setIfInBounds 0 (.int .u32 1)).setIfInBounds 1 (.int .i32 0))[j]? = cs[j]? := fun j a b c => by
    rw [Array.getElem?_setIfInBounds, if_neg (by omega), Array.getElem?_setIfInBounds, if_neg (by omega), Array.getElem?_setIfInBounds, if_neg (by omega)]
  refine ⟨_, e, by simpa using hs, ?_, ?_, ?_, ?_, fun i hi => by rw [key _ (by omega) (by omega) (by omega)]; exact ht i hi⟩
  · simp [hs]
  · simp [hs]
  · obtain ⟨x, hx2⟩ := h2
    exact ⟨x, by rw [key 2 (by omega) (by omega) (by omega)]; exact hx2⟩
  · simp [hs]

set_option maxRecDepth 100000 in
set_option maxHeartbeats 1600000 in
/-- doSlow, the table not made yet. -/
theorem slow_any (g : Nat) (w : World) (h : TabAt w g false) :
    Calls Try.prog 90 #[.pointer (some ⟨g, 0, none⟩), .func (.func 82) #[.pointer (some ⟨g, 0, none⟩)] #[]] w fun e w' => e = .returned (.tuple #[]) ∧ TabAt w' g true ∧ Kept (One g) w w' := by
  have HL := Lib.hid h.locked
  obtain ⟨cs, hh, hs, h0, h1, h2, h3, ht⟩ := h
  have c0 : w.cell? ⟨g, 0, none⟩ = some (.int .u32 0) := (cell_of_row w g 0 _ _ _ hh).trans h0
  have c1 : w.cell? ⟨g, 1, none⟩ = some (.int .i32 0) := (cell_of_row w g 1 _ _ _ hh).trans h1
  have f0 : w.frozen? ⟨g, 0, none⟩ = false := blk_frozen0 hh 0
  have f1 : w.frozen? ⟨g, 1, none⟩ = false := blk_frozen0 hh 1
  have hl := run_call_load (P := Try.prog) Try.func93 (by kernel_rfl) (by kernel_rfl) (by kernel_rfl) .u32 (by kernel_rfl) (w := w.setCell ⟨g, 1, none⟩ (.int .i32 1)) (a := ⟨g, 0, none⟩) (x := 0) ((World.cell?_setCell_other _ ⟨g, 1, none⟩ ⟨g, 0, none⟩ _ (by simp)).trans c0)
  have hnot : ∀ (x : Bool) (w : World), (Op.unary .not (.bool x)).run Try.prog w = .ok (.bool (!x)) w := fun _ _ => rfl
  clear hh hs h0 h1 h2 h3 ht
  go_enter_defers Try.func90, Try.ntmps90
  go_wp2_with (go_at_call 94; refine (lock_free muLib ⟨g, 1, none⟩ _ (by go_simp) (by go_simp)).mono ?_; rintro e w' ⟨rfl, rfl⟩)
  go_in
  go_wp2_with fail
  refine (compute_any g 0 _ HL.out (by omega) (by omega)).mono ?_
  rintro e w3 ⟨rfl, w2, rfl, hF2, hk2⟩
  have HF2 := Lib.hid hF2
  have HK2 := Lib.hid hk2
  obtain ⟨cs, hh, hs, h0, h1, _⟩ := hF2
  have d0 : w2.cell? ⟨g, 0, none⟩ = some (.int .u32 0) := (cell_of_row w2 g 0 _ _ _ hh).trans h0
  have d1 : w2.cell? ⟨g, 1, none⟩ = some (.int .i32 1) := (cell_of_row w2 g 1 _ _ _ hh).trans h1
  have g0 : w2.frozen? ⟨g, 0, none⟩ = false := blk_frozen0 hh 0
  have g1 : w2.frozen? ⟨g, 1, none⟩ = false := blk_frozen0 hh 1
  clear hh hs h0 h1 hk2
  go_wp2
  refine leaves_cons (f := 96) (args := #[.pointer (some ⟨g, 0, none⟩), .bool true]) (by simp) (by simp [go_sem]) ?_
  refine (store_done ⟨g, 0, none⟩ (.int .u32 0) .returning _ ?_ (by simp [g0])).mono ?_
  · exact (World.cell?_setCell_other _ ⟨g, 3, none⟩ ⟨g, 0, none⟩ _ (by simp)).trans d0
  rintro e u' w'' ⟨rfl, rfl, rfl⟩
  refine leaves_cons (f := 95) (args := #[.pointer (some ⟨g, 1, none⟩)]) (by simp [settle]) (by simp [go_sem]) ?_
  refine (unlock_deferred muLib ⟨g, 1, none⟩ _ _ ?_ (by simp [g1])).mono ?_
  · refine (World.cell?_setCell_other _ ⟨g, 0, none⟩ ⟨g, 1, none⟩ _ (by simp)).trans ?_
    rw [World.cell?_drew]
    exact (World.cell?_setCell_other _ ⟨g, 3, none⟩ ⟨g, 1, none⟩ _ (by simp)).trans d1
  rintro e u' w'' ⟨rfl, rfl, rfl⟩
  have hm := HF2.out.made
  have hk := ((((((Kept.refl (One g) w).one 1 (.int .i32 1)).trans HK2.out (fun _ _ h => h)).one 3 (.int .i64 1)).drew).one 0 (.int .u32 1)).one 1 (.int .i32 0)
  simp [Leaves, settle, results, Try.results90]
  exact ⟨hm, hk⟩

/-- Do, the table not made yet. -/
theorem do_first (g : Nat) (w : World) (h : TabAt w g false) :
    Calls Try.prog 81 #[.pointer (some ⟨g, 0, none⟩), .func (.func 82) #[.pointer (some ⟨g, 0, none⟩)] #[]] w fun e w' => e = .returned (.tuple #[]) ∧ TabAt w' g true ∧ Kept (One g) w w' := by
  have HT := Lib.hid h
  obtain ⟨cs, hh, _, h0, _⟩ := h
  have c0 : w.cell? ⟨g, 0, none⟩ = some (.int .u32 0) := (cell_of_row w g 0 _ _ _ hh).trans h0
  have hl := run_call_load (P := Try.prog) Try.func93 (by kernel_rfl) (by kernel_rfl) (by kernel_rfl) .u32 (by kernel_rfl) c0
  have hnot : ∀ (x : Bool) (w : World), (Op.unary .not (.bool x)).run Try.prog w = .ok (.bool (!x)) w := fun _ _ => rfl
  clear hh h0
  go_enter Try.func81, Try.ntmps81
  go_wp2_with (first | (go_at_call 90; refine (slow_any g _ HT.out).mono ?_; rintro e w' ⟨rfl, ht, hk⟩) | (go_at_call 89; go_in))
  go_end0
  exact ⟨rfl, ht, hk⟩
/-- Do, made already. -/
theorem do_done (g : Nat) (fv : Value) (w : World) (h : TabAt w g true) :
    Calls Try.prog 81 #[.pointer (some ⟨g, 0, none⟩), fv] w fun e w' => e = .returned (.tuple #[]) ∧ w = w' := by
  obtain ⟨cs, hh, _, h0, _⟩ := h
  have c0 : w.cell? ⟨g, 0, none⟩ = some (.int .u32 1) := (cell_of_row w g 0 _ _ _ hh).trans h0
  have hl := run_call_load (P := Try.prog) Try.func93 (by kernel_rfl) (by kernel_rfl) (by kernel_rfl) .u32 (by kernel_rfl) c0
  have hnot : ∀ (x : Bool) (w : World), (Op.unary .not (.bool x)).run Try.prog w = .ok (.bool (!x)) w := fun _ _ => rfl
  clear hh h0
  go_enter Try.func81, Try.ntmps81
  go_wp2
  go_end0
  exact ⟨rfl, rfl⟩
/-- ready: the table's address; it is made then. -/
theorem ready_any (g : Nat) (m : Bool) (w : World) (h : TabAt w g m) :
    Calls Try.prog 67 #[.pointer (some ⟨g, 0, none⟩)] w fun e w' => e = .returned (.pointer (some ⟨g, 4, none⟩)) ∧ TabAt w' g true ∧ Kept (One g) w w' := by
  have hmf : ∀ (fn : Fn) (first cap : Array Value) (w : World), (Instr.makeFunc fn first cap).run Try.prog w = .ok (.func fn first cap) w := fun _ _ _ _ => rfl
  cases m
  · have HT := Lib.hid h
    clear h
    go_enter Try.func67, Try.ntmps67
    go_wp2_with fail
    refine (do_first g _ HT.out).mono ?_
    rintro e w1 ⟨rfl, ht, hk⟩
    have HT1 := Lib.hid ht
    obtain ⟨cs, hh, _, h0, _⟩ := ht
    have c4 : ∃ x, w1.cell? ⟨g, 4, none⟩ = some x := by
      obtain ⟨cs, hh, hs, h0, h1, h2, h3, ht⟩ := HT1.out
      exact ⟨_, (cell_of_row w1 g (4 + 0) _ _ _ hh).trans (ht 0 (by decide))⟩
    clear hh h0
    go_wp2
    go_ret
    exact ⟨rfl, HT1.out, hk⟩
  · have HT := Lib.hid h
    clear h
    go_enter Try.func67, Try.ntmps67
    go_wp2_with fail
    refine (do_done g _ _ HT.out).mono ?_
    rintro e w1 ⟨rfl, rfl⟩
    go_wp2
    go_ret
    exact ⟨rfl, HT.out, Kept.refl _ _⟩
/-- Made. -/
theorem Made_any (g : Nat) (m : Bool) (w : World) (h : TabAt w g m) :
    Calls Try.prog 69 #[.pointer (some ⟨g, 0, none⟩)] w fun e w' => e = .returned (.int .i64 (if m then 1 else 0)) ∧ w = w' := by
  obtain ⟨cs, hh, _, h0, _, _, h3, _⟩ := h
  have c3 : w.cell? ⟨g, 3, none⟩ = some (.int .i64 (if m then 1 else 0)) := (cell_of_row w g 3 _ _ _ hh).trans h3
  clear hh h0 h3
  obtain ⟨d, hd⟩ : ∃ d : Int, d = (if m then 1 else 0) := ⟨_, rfl⟩
  rw [← hd] at c3 ⊢
  have hl := run_call_load (P := Try.prog) Try.func92 (by kernel_rfl) (by kernel_rfl) (by kernel_rfl) .i64 (by kernel_rfl) c3
  have hw : IntKind.i64.wrap d = d := by
    cases m <;> (rw [hd]; rfl)
  clear hd
  go_enter Try.func69, Try.ntmps69
  go_wp2
  go_ret
  exact ⟨rfl, rfl⟩
end Go.Proofs.Ytpcacndbagiajaa
