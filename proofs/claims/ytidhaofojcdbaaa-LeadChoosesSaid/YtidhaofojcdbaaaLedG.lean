/-
  Package lead: lead and Promise, where nobody told votes.
-/
import Derived.Test.YtidhaofojcdbaaaLedF
namespace Go.Proofs.Ytidhaofojcdbaaa
open Go.RowKit Go.Maps
set_option linter.unusedVariables false

/-- Those that promised are masters. -/
def WhoOk (ms : Int) (P : List Vt) : Prop := ∀ v ∈ P, 1 ≤ v.s ∧ v.s ≤ ms
def LeadE (g : Nat) (me ms bal fr nx : Int) (w : World) (e : Ending) (w' : World) : Prop := ∃ bp' bq', e = .returned (.tuple #[]) ∧ LdAt w' g bp' bq' me ms 2 bal fr nx [] [] ∧ w.heap.size ≤ bp' ∧ w.heap.size ≤ bq' ∧ Kept (fun k => k = g) w w'
def LeadRel (W : World) (g bp b r n : Nat) (P : List Vt) (wr : World) : Prop := ∃ (left : Lit → Bool) (cnt : Nat), wr.ranges Try.prog 3 heldE bp r P.length (datV nlv P) left cnt ∧ (∀ z, left z = true → Maps.has (datV nlv P) z = true) ∧ NilRow wr b n ∧ Kept (fun k => k = b) W wr
set_option maxRecDepth 100000 in
set_option maxHeartbeats 2000000 in
theorem lead_none (w : World) (g bp bq n : Nat) (me bal fr nx : Int) (P Q : List Vt) (h : LdAt w g bp bq me n 1 bal fr nx P Q) (hn : n ≤ 5) (hP : WhoOk n P) :
    Calls Try.prog 62 #[.pointer (some ⟨g, 0, none⟩)] w (LeadE g me n bal fr nx w) := by
  obtain ⟨i0, hi0, hz0, hz1, hz2⟩ := info_parts info_vts
  have hmk : ∀ W : World, (Instr.makeSlice 66 (.int .i64 (n : Int)) (.int .i64 (n : Int))).run Try.prog W = .ok (.slice (some ⟨W.heap.size, 0, none⟩) n n) (W.alloc (.cells (madeCells #[Value.slice none 0 0] n) 28)) := fun W => by
    have hr := run_make (P := Try.prog) W 66 28 i0 _ Try.underlying66 hi0 hz0 .i64 .i64 (n : Int) (n : Int) (by omega) (by omega) (by rw [hz2]; omega) (by omega)
    simp only [Int.toNat_natCast, hz1, Nat.mul_one] at hr
    exact hr
  have hkey : Maps.Keyed Try.prog 3 := Maps.int_keyed Try.underlying3
  have hlt := h.lt
  have HLT : Hid (g < w.heap.size ∧ bp < w.heap.size ∧ bq < w.heap.size) := Lib.hid ⟨hlt.1, hlt.2.1, hlt.2.2.1⟩
  have HK0 := Lib.hid ((Kept.refl NoB w).alloc (.cells (madeCells #[Value.slice none 0 0] n) 28))
  have HR0 := Lib.hid (NilRow.made w n)
  obtain ⟨W, hW⟩ : ∃ W, W = w.alloc (.cells (madeCells #[Value.slice none 0 0] n) 28) := ⟨_, rfl⟩
  have HWW := Lib.hid hW
  rw [← hW] at HK0 HR0
  have HL := Lib.hid (h.no HK0.out)
  have HM := Lib.hid HL.out.mp.2
  have HPO := Lib.hid hP
  obtain ⟨c0, c1, c2, c3, c4, c5, c6, c7⟩ := h.c
  clear h hW hlt hP
  go_enter Try.func62, Try.ntmps62
  go_upto_region 1 with fail
  rw [← HWW.out]
  clear c0 c1 c2 c3 c4 c5 c6 c7
  obtain ⟨c0, c1, c2, c3, c4, c5, c6, c7⟩ := HL.out.c
  go_wp2_with (first
    | (at_range; refine wpList_range_own _ rfl _ 99 rfl 3 28 hkey Try.underlying99 heldE bp P.length _ rfl HM.out ?_; intro w0 hrg0 hg0 hs0; have HRG0 := Lib.hid hrg0; have HKR := Lib.hid ((Kept.refl NoB W).grown hg0 (fun k hk => by cases hk)); clear hrg0 hg0 hs0))
  go_frame
  go_loopw [3, 4] (fun _ _ wr => LeadRel W g bp w.heap.size W.heap.size n P wr) (fun _ _ wr => wr.rangeLeft bp W.heap.size)
  case atStart => exact ⟨_, _, HRG0.out, fun z hz => hz, HR0.out.kept HKR.out (fun h => h), HKR.out.mono (fun _ _ h => h.elim)⟩
  case round =>
    obtain ⟨left, cnt, hrg, hin, hrow, hkk⟩ := hrel
    have HRG := Lib.hid hrg
    have HIN := Lib.hid hin
    have HROW := Lib.hid hrow
    have HKK := Lib.hid hkk
    clear hrg hin hrow hkk c0 c1 c2 c3 c4 c5 c6 c7
    go_wp2_with (first
      | (at_next; refine wpList_next_ranges _ rfl _ rfl 3 hkey heldE (Value.int .i64) (fun v : Value => v) (fun key kl hkey => by obtain ⟨x, rfl, _⟩ := Maps.keyOf_int_inv Try.underlying3 hkey; exact ⟨x, rfl⟩) (fun v y _ => ⟨v, rfl⟩) bp W.heap.size P.length _ left cnt rfl HRG.out ?_ ?_))
    · intro hc0 hl0
      clear hc0 hl0
      have HL1 := Lib.hid (HL.out.kept HKK.out (fun e => by have e : g = w.heap.size := e; have := HLT.out; omega) (fun e => by have e : bp = w.heap.size := e; have := HLT.out; omega) (fun e => by have e : bq = w.heap.size := e; have := HLT.out; omega))
      have HB := Lib.hid (become_raw wr g me n 1 bal fr nx 2 _ _ HL1.out.cells)
      go_wp2_with fail
      refine HB.out.mono ?_
      rintro e w2 ⟨rfl, hl, hk⟩
      have HL2 := Lib.hid hl
      have HK2 := Lib.hid hk
      have HBE := Lib.hid (Best_none w2 w.heap.size n n (HROW.out.kept hk (fun e => by have e : w.heap.size = g := e; have := HLT.out; omega)) (by omega))
      clear hl hk
      go_wp2_with fail
      refine HBE.out.mono ?_
      rintro e w3 ⟨rfl, hk3⟩
      have HL3 := Lib.hid (HL2.out.no hk3)
      have HKF : Hid (Kept (fun k => k = g) w w3) := Lib.hid ((((HK0.out.trans HKK.out (fun i hi e => by have e : i = w.heap.size := e; omega)).mono (T := fun k => k = g) (fun _ _ h => h.elim)).trans HK2.out (fun _ _ h => h)).trans hk3 (fun _ _ h => h.elim))
      have HSZ : Hid (w.heap.size ≤ wr.heap.size) := Lib.hid (Nat.le_trans HK0.out.size HKK.out.size)
      clear hk3
      go_wp2_with fail
      go_loopw [32] (fun i wr2 => i = .int .i64 0 ∧ wr2 = w3) (fun _ _ => 0)
      case atStart => exact ⟨rfl, rfl⟩
      case round =>
        obtain ⟨rfl, rfl⟩ := hrel
        go_wp2
        go_end0
        exact ⟨_, _, rfl, HL3.out, HSZ.out, Nat.le_succ_of_le HSZ.out, HKF.out⟩
    · intro x cv kl ya yb w1 cnt1 hkx hlx hy hat hrg1 hlt hg1 hs1 hen
      obtain ⟨x', ex, rfl, hwx⟩ := Maps.keyOf_int_inv Try.underlying3 hkx
      cases ex
      have hh := HIN.out _ hlx
      rw [datV_has] at hh
      obtain ⟨v, hv⟩ := Option.isSome_iff_exists.1 hh
      obtain ⟨hvs, hvm⟩ := atV_slot hv
      have hvo := HPO.out v hvm
      have hcv : cv = .slice none 0 0 := by
        have h2 := hat (.held (.slice none 0 0))
        rw [datV_at, hv] at h2
        have h3 : ya = .held cv := by
          unfold heldE at hy
          injection hy with hy
          injection hy with hy _
          exact hy.symm
        rw [h3] at h2
        simp only [Option.map_some, Option.getD_some] at h2
        injection h2 with h2
        exact h2.symm
      subst hcv
      have HRG1 := Lib.hid hrg1
      have HG1 := Lib.hid hg1
      have HLT1 := Lib.hid hlt
      have HX : Hid (1 ≤ x ∧ x ≤ (n : Int)) := Lib.hid (by omega)
      have hwx1 : IntKind.i64.wrap (x - 1) = x - 1 := IntWalk.i64_in _ (by omega)
      obtain ⟨j, hj⟩ := Int.eq_ofNat_of_zero_le (show 0 ≤ x - 1 by omega)
      rw [hj] at hwx1
      have hjn : j < n := by omega
      have hj0 : (0 : Int) ≤ (j : Int) := by omega
      have hj1 : (j : Int) < (n : Int) := by omega
      have hrb : ¬ w.heap.size = W.heap.size := by have := HK0.out.size; have := HWW.out; intro e; rw [this] at e; simp at e
      have HROW1 := Lib.hid (HROW.out.kept ((Kept.refl (fun k => k = W.heap.size) wr).grown hg1 (fun k hk => .inl (by injection hk with hk; exact hk.symm))) hrb)
      have HKK1 := Lib.hid (HKK.out.grown hg1 (fun k hk => .inr (by injection hk with hk; omega)))
      obtain ⟨r0, rf, _⟩ := HROW1.out.cell hjn
      clear hlx hy hat hrg1 hlt hg1 hs1 hh hv hvs hvm hvo hwx hkx
      go_wp2
      have hrg2 := HRG1.out.of_walks (KeepsWalks.setCell w1 ⟨w.heap.size, j, none⟩ (.slice none 0 0))
      refine ⟨⟨_, cnt1, hrg2, fun z hz => ?_, HROW1.out.set hjn, HKK1.out.setCell (p := ⟨w.heap.size, j, none⟩) (.inl ?_) _⟩, by rw [hrg2.left_eq, HRG.out.left_eq]; exact HLT1.out⟩
      · simp only [Bool.and_eq_true] at hz
        exact HIN.out z hz.1
      · rfl
end Go.Proofs.Ytidhaofojcdbaaa
