/-
  What each call on a fix.Out does: contracts over the program.
-/
import Derived.Test.YtiifkcjngajegaaDoorProg
import Derived.Test.YtiifkcjngajegaaDoorBase
import Derived.WalkKit
import Derived.WalkSpells
import Derived.WalkLawsBesides
import Derived.RegionTactic
import Derived.BigRegion
import Derived.Deep.QuietTactic
import Derived.BigQuiet
import Derived.Deep.RegionHeld3
import Derived.Deep.AppendLies
import Derived.Deep.RegionLaw
import Derived.Deep.DeepMust
import Derived.Lib.Hide
import Derived.Outline
import Derived.KernelRfl
namespace Go.Proofs.YtiifkcjngajegaaDoor
open Go.RowKit

/-- What an Out is: its bytes, how many it may have, its first error. -/
structure OSt where
  bs : List Int
  most : Int
  err : Int

def OutAt (w : World) (F : Nat → Prop) (g : Nat) (s : OSt) : Prop :=
  F g ∧ IsB s.bs ∧ (s.err ≠ 0 → s.bs = []) ∧ 0 ≤ s.most ∧ s.most ≤ 9223372036854775807 ∧ 0 ≤ s.err ∧ s.err < 100 ∧
  ∃ v, w.heap[g]? = some (.cells #[v, .int .i64 s.most, .int .i64 s.err] 91 (0, 0)) ∧ w.ownsRow 0 5 1 v s.bs.length (s.bs.map (Value.int .u8)) ∧ ∀ k, v.ownBlock = some k → F k

theorem OutAt.kept {S F : Nat → Prop} {w w' : World} {g : Nat} {s : OSt} (h : OutAt w F g s) (hk : Kept S w w') (hs : ∀ k, F k → ¬ S k) : OutAt w' F g s := by
  obtain ⟨h1, h2, h3, h4, h5, h6, h7, v, hv, hown, hF⟩ := h
  refine ⟨h1, h2, h3, h4, h5, h6, h7, v, hk.heap (hs g h1) hv, ⟨hown.1, ?_⟩, hF⟩
  rcases hown.2 with hn | ⟨r, cap, cur, rfl, hb, hr, rest⟩
  · exact .inl hn
  · exact .inr ⟨r, cap, cur, rfl, hb, hk.heap (hs r (hF r rfl)) hr, rest⟩
theorem OutAt.mono {F G : Nat → Prop} {w : World} {g : Nat} {s : OSt} (h : OutAt w F g s) (hG : ∀ k, k < w.heap.size → F k → G k) : OutAt w G g s := by
  obtain ⟨h1, h2, h3, h4, h5, h6, h7, v, hv, hown, hF⟩ := h
  exact ⟨hG g (heap_lt hv) h1, h2, h3, h4, h5, h6, h7, v, hv, hown, fun k hk => hG k (hown.lt k hk).2 (hF k hk)⟩

theorem OutAt.new (w : World) (most : Int) (h1 : 0 ≤ most) (h2 : most ≤ 9223372036854775807) :
    OutAt (w.alloc (.cells #[.slice none 0 0, .int .i64 most, .int .i64 0] 91)) (fun k => w.heap.size ≤ k) w.heap.size ⟨[], most, 0⟩ :=
  ⟨Nat.le_refl _, IsB.nil, fun _ => rfl, h1, h2, Int.le_refl _, by show (0 : Int) < 100; omega, _, heap_alloc_new w _, World.ownsRow_nil _ _ _ _, fun _ hk => by simp [Value.ownBlock] at hk⟩

/-- New. -/
theorem New_any (most : Int) (w : World) (h2 : most ≤ 9223372036854775807) :
    Calls Tryd.prog 38 #[.int .i64 most] w fun e w' => e = .returned (.pointer (some ⟨w.heap.size, 0, none⟩)) ∧
      OutAt w' (fun k => w.heap.size ≤ k) w.heap.size ⟨[], max most 0, 0⟩ ∧ Kept NoB w w' := by
  rcases Int.lt_or_le most 0 with h | h
  · go_enter Tryd.func38, Tryd.ntmps38
    go_wp2
    all_goals
      go_ret
      rw [show max most 0 = 0 by omega]
      exact ⟨rfl, OutAt.new w 0 (by omega) (by omega), (Kept.refl _ _).alloc _⟩
  · go_enter Tryd.func38, Tryd.ntmps38
    go_wp2
    all_goals
      go_ret
      rw [show max most 0 = most by omega]
      exact ⟨rfl, OutAt.new w most h h2, (Kept.refl _ _).alloc _⟩

/-- fail. -/
def OSt.fail (s : OSt) (e : Int) : OSt := if s.err = 0 then ⟨[], s.most, e⟩ else s

theorem fail_any (g : Nat) (s : OSt) (e : Int) (F : Nat → Prop) (w : World) (h : OutAt w F g s) (he : 0 < e) (he2 : e < 100) :
    Calls Tryd.prog 60 #[.pointer (some ⟨g, 0, none⟩), .int .i64 e] w fun r w' => r = .returned (.tuple #[]) ∧
      OutAt w' F g (s.fail e) ∧ Kept F w w' := by
  obtain ⟨bs, most, err⟩ := s
  have hO := h
  obtain ⟨h1, h2, h3, h4, h5, h6, h7, v, hv, hown, hF⟩ := h
  simp only at h2 h3 h4 h5 h6 h7 hv hown
  have c0 : w.cell? ⟨g, 0, none⟩ = some v := cell_of_row w g 0 _ _ _ hv
  have c2 : w.cell? ⟨g, 2, none⟩ = some (.int .i64 err) := cell_of_row w g 2 _ _ _ hv
  have f0 : w.frozen? ⟨g, 0, none⟩ = false := by simp [World.frozen?, hv]
  have f2 : w.frozen? ⟨g, 2, none⟩ = false := by simp [World.frozen?, hv]
  have HV := Lib.hid hv
  clear hv
  by_cases h0 : err = 0
  · subst h0
    go_enter Tryd.func60, Tryd.ntmps60
    go_wp2
    go_end0
    refine ⟨rfl, ?_, ((Kept.refl _ _).setCell (p := ⟨g, 2, none⟩) (.inl h1) _).setCell (p := ⟨g, 0, none⟩) (.inl h1) _⟩
    refine ⟨h1, IsB.nil, fun _ => rfl, h4, h5, by show 0 ≤ e; omega, he2, .slice none 0 0, ?_, World.ownsRow_nil _ _ _ _, fun _ hk => by simp [Value.ownBlock] at hk⟩
    have := HV.out
    simp [World.setCell, Array.getElem?_modify, this, OSt.fail]
  · have hb : (err == 0) = false := by simpa using h0
    go_enter Tryd.func60, Tryd.ntmps60
    go_wp2
    go_end0
    refine ⟨rfl, ?_, Kept.refl _ _⟩
    simpa [OSt.fail, h0] using hO

theorem OutAt.cells {w : World} {F : Nat → Prop} {g : Nat} {s : OSt} (h : OutAt w F g s) : ∃ a cap, w.cell? ⟨g, 0, none⟩ = some (.slice a s.bs.length cap) ∧
    w.cell? ⟨g, 1, none⟩ = some (.int .i64 s.most) ∧ w.cell? ⟨g, 2, none⟩ = some (.int .i64 s.err) ∧ (∀ o, w.frozen? ⟨g, o, none⟩ = false) ∧ w.ownsRow 0 5 1 (.slice a s.bs.length cap) s.bs.length (s.bs.map (Value.int .u8)) ∧
    (∀ k, Value.ownBlock (.slice a s.bs.length cap) = some k → F k) ∧ w.heap[g]? = some (.cells #[.slice a s.bs.length cap, .int .i64 s.most, .int .i64 s.err] 91 (0, 0)) ∧ F g := by
  obtain ⟨h1, h2, h3, h4, h5, h6, h7, v, hv, hown, hF⟩ := h
  obtain ⟨a, cap, rfl⟩ : ∃ a cap, v = .slice a s.bs.length cap := by
    rcases hown.2 with ⟨rfl, hz⟩ | ⟨r, cap, cur, rfl, _⟩
    · exact ⟨none, 0, by rw [hz]⟩
    · exact ⟨_, _, rfl⟩
  exact ⟨a, cap, cell_of_row w g 0 _ _ _ hv, cell_of_row w g 1 _ _ _ hv, cell_of_row w g 2 _ _ _ hv, fun o => by simp [World.frozen?, hv], hown, hF, hv, h1⟩
theorem OutAt.drewN {w : World} {F : Nat → Prop} {g : Nat} {s : OSt} (h : OutAt w F g s) (n : Nat) : OutAt (w.drewN n) F g s := h

/-- fits. -/
def OSt.fit (s : OSt) (n : Int) : OSt := if n ≤ s.most - s.bs.length then s else s.fail 6
def OSt.fitB (s : OSt) (n : Int) : Bool := decide (n ≤ s.most - s.bs.length) && decide (s.err = 0)
theorem ret_bool {a b : Bool} (h : a = b) : Ending.returned (.bool a) = .returned (.bool b) := by rw [h]

theorem fits_any (g : Nat) (s : OSt) (n : Int) (F : Nat → Prop) (w : World) (h : OutAt w F g s) (hn : 0 ≤ n) (hn2 : n ≤ 9223372036854775807) (hs : s.bs.length ≤ 140737488355328) :
    Calls Tryd.prog 61 #[.pointer (some ⟨g, 0, none⟩), .int .i64 n] w fun r w' =>
      r = .returned (.bool (s.fitB n)) ∧ OutAt w' F g (s.fit n) ∧ Kept F w w' := by
  have HO := Lib.hid h
  have hm := h.2.2.2.1
  have hm2 := h.2.2.2.2.1
  obtain ⟨a, cap, c0, c1, c2, _⟩ := h.cells
  clear h
  by_cases hfit : n ≤ s.most - s.bs.length
  · have hd : decide (s.most - (s.bs.length : Int) < n) = false := by simp; omega
    go_enter Tryd.func61, Tryd.ntmps61
    go_wp2_with fail
    go_quiet (fail)
    go_wp2
    go_ret
    refine ⟨ret_bool ?_, ?_, (Kept.refl _ _).drewN _⟩
    · rw [OSt.fitB, decide_eq_true hfit, Bool.true_and]
      rw [Bool.eq_iff_iff]
      simp
    · rw [OSt.fit, if_pos hfit]; exact HO.out.drewN _
  · have hd : decide (s.most - (s.bs.length : Int) < n) = true := by simp; omega
    go_enter Tryd.func61, Tryd.ntmps61
    go_wp2_with fail
    go_quiet (fail)
    go_wp2_with fail
    refine (fail_any g s 6 F _ (HO.out.drewN _) (by omega) (by omega)).mono ?_
    rintro e w1 ⟨rfl, hO1, hk1⟩
    have hk2 : Kept F w w1 := ⟨hk1.os, hk1.tape, hk1.output, hk1.size, hk1.block⟩
    have HO1 := Lib.hid hO1
    obtain ⟨a1, cap1, _, _, d2, _⟩ := hO1.cells
    have hne : ((s.fail 6).err == 0) = false := by
      unfold OSt.fail
      split <;> simp [*]
    clear hO1 hk1
    go_wp2
    go_ret
    refine ⟨ret_bool ?_, ?_, hk2⟩
    · rw [OSt.fitB, decide_eq_false (by omega), Bool.false_and]
    · rw [OSt.fit, if_neg (by omega)]; exact HO1.out

theorem Tryd.info5 : (Tryd.prog.info? 5).map (fun i => (i.zero, i.size, i.bytes)) = some (some (.int .u8 0), 1, 1) := by kernel_rfl

theorem OutAt.store {w w1 : World} {F G S : Nat → Prop} {g : Nat} {s : OSt} {v : Value} {cs : List Int} (h : OutAt w F g s) (hk : Kept S w w1) (hs : ¬ S g) (hG : G g) (hB : IsB cs) (he : s.err = 0)
    (hown : w1.ownsRow 0 5 1 v cs.length (cs.map (Value.int .u8))) (hv : ∀ k, v.ownBlock = some k → G k) : OutAt (w1.setCell ⟨g, 0, none⟩ v) G g ⟨cs, s.most, 0⟩ := by
  obtain ⟨h1, h2, h3, h4, h5, h6, h7, u, hu, _, _⟩ := h
  have hu1 := hk.heap hs hu
  have hne := own_ne hown hu1 (by decide)
  refine ⟨hG, hB, fun h => absurd rfl h, h4, h5, Int.le_refl _, by show (0 : Int) < 100; omega, v, ?_, ⟨hown.1, ?_⟩, hv⟩
  · simp [World.setCell, Array.getElem?_modify, hu1, he]
  · rcases hown.2 with hn | ⟨r, cap, cur, rfl, hb, hr, rest⟩
    · exact .inl hn
    · refine .inr ⟨r, cap, cur, rfl, hb, ?_, rest⟩
      rw [Below.heap_setCell _ _ _ _ (fun e => hne (by simp [Value.ownBlock, e]))]
      exact hr

theorem shr_byte (n : Int) (j : Nat) (hn : 0 ≤ n) : IntKind.u8.wrap (n / 2 ^ (8 * (j : Int)).toNat) = ((n.toNat / 256 ^ j % 256 : Nat) : Int) := by
  obtain ⟨m, rfl⟩ := Int.eq_ofNat_of_zero_le hn
  have e : (8 * (j : Int)).toNat = 8 * j := by omega
  have e2 : ((2 : Int) ^ (8 * j)) = ((256 ^ j : Nat) : Int) := by
    rw [show (256 : Nat) = 2 ^ 8 from rfl, ← Nat.pow_mul, Int.natCast_pow]
    rfl
  show (m : Int) / 2 ^ (8 * (j : Int)).toNat % 256 = _
  rw [e, e2, Int.toNat_natCast]
  omega

set_option maxRecDepth 100000 in
/-- number. -/
theorem number_any (g : Nat) (s : OSt) (n : Int) (width : Nat) (F : Nat → Prop) (w : World) (h : OutAt w F g s) (he : s.err = 0) (hn : 0 ≤ n) (hw1 : 1 ≤ width) (hw8 : width ≤ 8) (hs : s.bs.length ≤ 1000000) :
    Calls Tryd.prog 62 #[.pointer (some ⟨g, 0, none⟩), .int .u64 n, .int .i64 width] w fun r w' =>
      r = .returned (.tuple #[]) ∧ OutAt w' (fun k => F k ∨ w.heap.size ≤ k) g ⟨s.bs ++ be n.toNat width, s.most, 0⟩ ∧ Kept F w w' := by
  obtain ⟨i0, hi0, hz0, hz1, hz2⟩ := info_parts Tryd.info5
  obtain ⟨bs, most, err⟩ := s
  simp only at he hs ⊢
  subst he
  have HO := Lib.hid h
  clear h
  go_enter Tryd.func62, Tryd.ntmps62
  go_wp2
  go_loopw [6] (fun i wr => ∃ k : Nat, k ≤ width ∧ i = .int .i64 ((k : Int) - 1) ∧ ∃ cs, OutAt wr (fun k => F k ∨ w.heap.size ≤ k) g ⟨cs, most, 0⟩ ∧ cs ++ be n.toNat k = bs ++ be n.toNat width ∧ Kept F w wr)
    (fun i _ => (intOf i + 1).toNat)
  case atStart => exact ⟨width, Nat.le_refl _, rfl, bs, HO.out.mono (fun k _ h => .inl h), rfl, Kept.refl _ _⟩
  case round =>
    obtain ⟨k, hk, rfl, cs, hO, hcs, hkp⟩ := hrel
    have hl : cs.length ≤ 1000008 := by
      have := congrArg List.length hcs
      simp [be_len] at this
      omega
    have HO1 := Lib.hid hO
    obtain ⟨a, cap, c0, c1, c2, hfz, hown, hF, hhp, hg⟩ := hO.cells
    have f0 := hfz 0
    have HCS := Lib.hid hcs
    have hne : some g ≠ (Value.slice a cs.length cap).ownBlock := own_ne hown hhp (by decide)
    have hgl : g < wr.heap.size := heap_lt hhp
    clear hcs hO hfz hhp
    simp only at c0 hown
    by_cases hk0 : k = 0
    · subst hk0
      go_wp2
      go_end0
      have e := HCS.out
      simp only [be, List.append_nil] at e
      subst e
      exact ⟨rfl, HO1.out, hkp⟩
    · obtain ⟨j, rfl⟩ : ∃ j, k = j + 1 := ⟨k - 1, by omega⟩
      have hwr : IntKind.i64.wrap (8 * (j : Int)) = 8 * (j : Int) := IntWalk.i64_in _ (by omega)
      go_wp2_with fail
      go_region_law
        ((refine step_append_lies _ (by rfl) _ _ _ (by rfl) 0 5 i0 _ 1 1 Tryd.underlying29 hi0 hz0 hz1 hz2 rfl (by omega) (.slice a cs.length cap) cs.length (cs.map (Value.int .u8)) (by rfl) ((hown.alloc _).drew) ⟨wr.heap.size, 0, none⟩ 1 1 [_] (by rfl) (by rfl) (World.news_of_block (cs := #[_]) (t := 5) (fr := (0, 0)) (heap_alloc_new wr _)) (by simp [Value.oneCell']) (by omega) (by unfold maxLen; omega) (by omega) (by simp) (wr.heap.size + 1) (by simp) ?_; intro gg cap1 w1 hown1 hgrow hat hlt; have d0 : w1.cell? ⟨g, 0, none⟩ = some (.slice a cs.length cap) := (hgrow.cell_far ⟨g, 0, none⟩ (by simp; omega) hne).trans (cell_drew (cell_alloc c0 _)); have e0 : w1.frozen? ⟨g, 0, none⟩ = false := (hgrow.frozen_far ⟨g, 0, none⟩ (by simp; omega) hne).trans (frozen_drew (frozen_alloc hgl f0 _))))
      all_goals
        go_wp2
        have hb := shr_byte n j hn
        have hB := HO1.out.2.1
        have hk1 : Kept (fun k => some k = (Value.slice a cs.length cap).ownBlock) wr w1 := ((Kept.refl _ _).alloc _).drew.grown hgrow (fun k hk => .inl hk.symm)
        refine ⟨⟨j, by omega, rfl, cs ++ [((n.toNat / 256 ^ j % 256 : Nat) : Int)], ?_, ?_, ?_⟩, by simp [intOf]⟩
        · refine HO1.out.store hk1 hne hg (hB.append ?_) rfl ?_ ?_
          · intro x hx
            simp only [List.mem_singleton] at hx
            subst hx
            exact ⟨by omega, by omega⟩
          · rw [hb] at hown1
            simpa using hown1
          · intro k hk
            have hkg : gg = k := by simpa [Value.ownBlock] using hk
            subst hkg
            rcases hat with hat | hat
            · exact hF _ hat
            · exact .inr (by have := hkp.size; omega)
        · have e := HCS.out
          simp only [be] at e
          rw [List.append_assoc]
          exact e
        · exact ((hkp.alloc _).drew.grown hgrow hF).setCell (p := ⟨g, 0, none⟩) hg _

/-- What putting something does: an error of its own, or bytes. -/
def OSt.emit (s : OSt) (e : Int) (l : List Int) : OSt :=
  if s.err = 0 then (if e = 0 then (if (l.length : Int) ≤ s.most - s.bs.length then ⟨s.bs ++ l, s.most, 0⟩ else ⟨[], s.most, 6⟩) else ⟨[], s.most, e⟩) else s
def putErr (n width : Int) : Int := if width < 1 ∨ 8 < width then 1 else if n.toNat / 256 ^ width.toNat = 0 then 0 else 4

theorem OSt.emit_err (s : OSt) (e : Int) (l : List Int) (he : e ≠ 0) : s.emit e l = s.fail e := by
  unfold OSt.emit OSt.fail
  simp [he]
theorem OSt.emit_fit (s : OSt) (l : List Int) (h : s.fitB l.length = true) : s.emit 0 l = ⟨s.bs ++ l, s.most, 0⟩ ∧ s.fit l.length = s ∧ s.err = 0 := by
  simp only [OSt.fitB, Bool.and_eq_true, decide_eq_true_eq] at h
  simp [OSt.emit, OSt.fit, h.1, h.2]
theorem OSt.emit_nofit (s : OSt) (l : List Int) (h : s.fitB l.length = false) : s.emit 0 l = s.fit l.length := by
  simp only [OSt.fitB, Bool.and_eq_false_iff, decide_eq_false_iff_not] at h
  simp only [OSt.emit, OSt.fit, OSt.fail, if_true]
  by_cases he : s.err = 0
  · rcases h with h | h
    · rw [if_pos he, if_neg h, if_neg h, if_pos he]
    · exact absurd he h
  · rw [if_neg he]
    split <;> rfl

theorem shr_zero (n : Int) (width : Nat) (hn : 0 ≤ n) : n / 2 ^ (8 * width) = ((n.toNat / 256 ^ width : Nat) : Int) := by
  obtain ⟨m, rfl⟩ := Int.eq_ofNat_of_zero_le hn
  have e2 : ((2 : Int) ^ (8 * width)) = ((256 ^ width : Nat) : Int) := by
    rw [show (256 : Nat) = 2 ^ 8 from rfl, ← Nat.pow_mul, Int.natCast_pow]
    rfl
  rw [e2, Int.toNat_natCast]
  omega

set_option maxRecDepth 100000 in
/-- Put. -/
theorem Put_any (g : Nat) (s : OSt) (n width : Int) (F : Nat → Prop) (w : World) (h : OutAt w F g s) (hn : 0 ≤ n) (hs : s.bs.length ≤ 1000000) :
    Calls Tryd.prog 39 #[.pointer (some ⟨g, 0, none⟩), .int .u64 n, .int .i64 width] w fun r w' =>
      r = .returned (.tuple #[]) ∧ OutAt w' (fun k => F k ∨ w.heap.size ≤ k) g (s.emit (putErr n width) (be n.toNat width.toNat)) ∧ Kept F w w' := by
  have HO := Lib.hid h
  clear h
  by_cases hw : width < 1 ∨ 8 < width
  · have hp : putErr n width = 1 := if_pos hw
    rw [hp, OSt.emit_err _ _ _ (by decide)]
    clear hp
    rcases hw with hw | hw
    all_goals
      have hw2 : 1 ≤ width ∨ width < 1 := by omega
      go_enter Tryd.func39, Tryd.ntmps39
      go_wp2_with fail
      refine (fail_any g s 1 F _ HO.out (by omega) (by omega)).mono ?_
      rintro e w1 ⟨rfl, hO1, hk1⟩
      have HO1 := Lib.hid hO1
      clear hO1
      go_wp2
      go_end0
      exact ⟨rfl, HO1.out.mono (fun _ _ h => .inl h), hk1⟩
  · obtain ⟨k, rfl⟩ := Int.eq_ofNat_of_zero_le (show 0 ≤ width by omega)
    have hk1 : 1 ≤ k := by omega
    have hk8 : k ≤ 8 := by omega
    have hz := shr_zero n k hn
    by_cases hq : n.toNat / 256 ^ k = 0
    · have hq' : (n / 2 ^ (8 * k) != 0) = false := by rw [hz, hq]; rfl
      have hp : putErr n (k : Int) = 0 := by unfold putErr; rw [if_neg hw, Int.toNat_natCast, if_pos hq]
      rw [hp, Int.toNat_natCast]
      clear hp hz hq hw
      by_cases hb : s.fitB (k : Int) = true
      · have HE := Lib.hid (OSt.emit_fit s (be n.toNat k) (by rw [be_len]; exact hb))
        go_enter Tryd.func39, Tryd.ntmps39
        go_wp2_with fail
        refine (fits_any g s k F _ HO.out (by omega) (by omega) (by omega)).mono ?_
        rintro e w1 ⟨rfl, hO1, hq1⟩
        have HO1 := Lib.hid hO1
        clear hO1
        go_wp2_with fail
        have hO2 : OutAt w1 F g s := by
          have := HO1.out
          rw [be_len] at HE
          rw [HE.out.2.1] at this
          exact this
        refine (number_any g s n k F _ hO2 HE.out.2.2 hn hk1 hk8 hs).mono ?_
        rintro e w2 ⟨rfl, hO3, hk2⟩
        have HO3 := Lib.hid hO3
        clear hO3 hO2
        go_wp2
        go_end0
        rw [HE.out.1]
        exact ⟨rfl, HO3.out.mono (fun i _ h => h.imp id (fun h => by have := hq1.size; omega)), hq1.trans hk2 (fun _ _ h => h)⟩
      · have hb' : s.fitB (k : Int) = false := by simpa using hb
        have HE := Lib.hid (OSt.emit_nofit s (be n.toNat k) (by rw [be_len]; exact hb'))
        clear hb
        go_enter Tryd.func39, Tryd.ntmps39
        go_wp2_with fail
        refine (fits_any g s k F _ HO.out (by omega) (by omega) (by omega)).mono ?_
        rintro e w1 ⟨rfl, hO1, hk1⟩
        have HO1 := Lib.hid hO1
        clear hO1
        go_wp2
        go_end0
        rw [HE.out, be_len]
        exact ⟨rfl, HO1.out.mono (fun _ _ h => .inl h), hk1⟩
    · have hq' : (n / 2 ^ (8 * k) != 0) = true := by
        rw [hz, bne_iff_ne]
        exact fun h => hq (by omega)
      have hp : putErr n (k : Int) = 4 := by unfold putErr; rw [if_neg hw, Int.toNat_natCast, if_neg hq]
      rw [hp, OSt.emit_err _ _ _ (by decide)]
      clear hp hz hq hw
      go_enter Tryd.func39, Tryd.ntmps39
      go_wp2_with fail
      refine (fail_any g s 4 F _ HO.out (by omega) (by omega)).mono ?_
      rintro e w1 ⟨rfl, hO1, hk1⟩
      have HO1 := Lib.hid hO1
      clear hO1
      go_wp2
      go_end0
      exact ⟨rfl, HO1.out.mono (fun _ _ h => .inl h), hk1⟩
end Go.Proofs.YtiifkcjngajegaaDoor
