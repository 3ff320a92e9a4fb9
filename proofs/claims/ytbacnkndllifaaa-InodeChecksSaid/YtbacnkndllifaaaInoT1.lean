/-
  What each call on a fix.In does: contracts over the program. What the calls of a fix.In that stand on next do. An inode that came in: opened. InodeBack, of an inode that came in. The chapter's Bytes of an inode. What is got of an inode's bytes, plainly. A block that is a row of extents: made, set, read as a slice. Package inode: Get. Layer 28: InodeChecks.
-/
import Derived.Test.YtbacnkndllifaaaOut
import Derived.Test.YtbacnkndllifaaaBytes
import Derived.Test.YtbacnkndllifaaaOutB
import Derived.Laws.BitsAllLaws
import Derived.Test.YtbacnkndllifaaaFrameP
import Derived.Test.YtbacnkndllifaaaInoQ1
import Derived.Test.YtbacnkndllifaaaBitO
import Derived.Deep.SlicePairs
import Derived.Lib.SmallJoins
import Derived.Test.YtbacnkndllifaaaRef
import Derived.Test.YtbacnkndllifaaaInoM
namespace Go.Proofs.Ytbacnkndllifaaa
open Go.RowKit

/-- Block g alone. -/
def Only (g : Nat) : Nat → Prop := fun k => k = g
theorem Kept.only {g : Nat} {a w : World} (h : Kept (Only g) a w) (o : Nat) (u : Value) : Kept (Only g) a (w.setCell ⟨g, o, none⟩ u) := h.setCell (p := ⟨g, o, none⟩) (.inl (by show g = g; rfl)) u

/-- What an In is: the bytes that are left, the first error. -/
structure ISt where
  l : List Int
  err : Int

def ISt.fail (s : ISt) (e : Int) : ISt := if s.err = 0 then ⟨[], e⟩ else s
def ISt.raw (s : ISt) (n : Int) : ISt × List Int :=
  if s.err = 0 then (if n < 0 then (⟨[], 1⟩, []) else if (s.l.length : Int) < n then (⟨[], 3⟩, []) else (⟨s.l.drop n.toNat, 0⟩, s.l.take n.toNat)) else (s, [])
def ISt.upto (s : ISt) (width most : Int) : ISt × Int :=
  if width < 1 ∨ 8 < width then (s.fail 1, 0) else if (s.raw width).1.err = 0 then (if most < num (s.raw width).2 then (⟨[], 4⟩, 0) else ((s.raw width).1, num (s.raw width).2)) else ((s.raw width).1, 0)
def ISt.get (s : ISt) (width : Int) : ISt × Int :=
  if width < 1 ∨ 8 < width then (s.fail 1, 0) else ((s.raw width).1, num (s.raw width).2)
def ISt.text (s : ISt) (most : Int) : ISt × List Int :=
  if (s.get 2).1.err = 0 then (if most < (s.get 2).2 then (⟨[], 6⟩, []) else (s.get 2).1.raw (s.get 2).2) else ((s.get 2).1, [])
def ISt.done (s : ISt) : Int := if s.err = 0 ∧ 0 < s.l.length then 4 else s.err
/-- Behind an error nothing is left. -/
def ISt.ok (s : ISt) : Prop := (s.err ≠ 0 → s.l = []) ∧ 0 ≤ s.err ∧ s.err < 100

theorem ISt.fail_ok {s : ISt} (h : s.ok) {e : Int} (he : 0 < e) (he2 : e < 100) : (s.fail e).ok := by
  unfold ISt.fail
  split
  · exact ⟨fun _ => rfl, by show 0 ≤ e; omega, he2⟩
  · exact h
theorem ISt.raw_ok {s : ISt} (h : s.ok) (n : Int) : (s.raw n).1.ok := by
  unfold ISt.raw
  split
  · split
    · exact ⟨fun _ => rfl, by decide, by decide⟩
    · split
      · exact ⟨fun _ => rfl, by decide, by decide⟩
      · exact ⟨fun h => absurd rfl h, by show (0 : Int) ≤ 0; omega, by show (0 : Int) < 100; omega⟩
  · exact h

def InAt (w : World) (F : Nat → Prop) (g : Nat) (s : ISt) : Prop :=
  ¬ F g ∧ s.ok ∧ ∃ v, w.heap[g]? = some (.cells #[v, .int .i64 s.err] 108 (0, 0)) ∧ BSl w F v s.l

theorem InAt.kept {S F : Nat → Prop} {w w' : World} {g : Nat} {s : ISt} (h : InAt w F g s) (hk : Kept S w w') (hs : ∀ k, F k → ¬ S k) (hg : ¬ S g) : InAt w' F g s := by
  obtain ⟨h1, h2, v, hv, hb⟩ := h
  exact ⟨h1, h2, v, hk.heap hg hv, hb.kept hk hs⟩
theorem InAt.drewN {w : World} {F : Nat → Prop} {g : Nat} {s : ISt} (h : InAt w F g s) (n : Nat) : InAt (w.drewN n) F g s := h
theorem InAt.cells {w : World} {F : Nat → Prop} {g : Nat} {s : ISt} (h : InAt w F g s) : ∃ a cap, w.cell? ⟨g, 0, none⟩ = some (.slice a s.l.length cap) ∧ w.cell? ⟨g, 1, none⟩ = some (.int .i64 s.err) ∧ (∀ o, w.frozen? ⟨g, o, none⟩ = false) ∧
    s.l.length ≤ cap ∧ cap ≤ maxLen ∧ (a = none → cap = 0) ∧ Rd w F a s.l ∧ w.heap[g]? = some (.cells #[.slice a s.l.length cap, .int .i64 s.err] 108 (0, 0)) := by
  obtain ⟨h1, h2, v, hv, a, cap, rfl, hc, hm, hn, hr⟩ := h
  exact ⟨a, cap, cell_of_row w g 0 _ _ _ hv, cell_of_row w g 1 _ _ _ hv, fun o => by simp [World.frozen?, hv], hc, hm, hn, hr, hv⟩
/-- A store of the rest. -/
theorem InAt.store {w : World} {F : Nat → Prop} {g : Nat} {s : ISt} {v : Value} {l : List Int} (h : InAt w F g s) (hb : BSl w F v l) (he : s.err ≠ 0 → l = []) : InAt (w.setCell ⟨g, 0, none⟩ v) F g ⟨l, s.err⟩ := by
  obtain ⟨h1, h2, u, hu, _⟩ := h
  refine ⟨h1, ⟨he, h2.2⟩, v, ?_, ?_⟩
  · simp [World.setCell, Array.getElem?_modify, hu]
  · have hk : Kept (Only g) w (w.setCell ⟨g, 0, none⟩ v) := (Kept.refl _ _).only 0 v
    exact hb.kept hk (fun k hk e => h1 (by have e : k = g := e; rw [← e]; exact hk))

/-- Of. -/
theorem Of_any (v : Value) (l : List Int) (F : Nat → Prop) (w : World) (h : BSl w F v l) (hl : l.length ≤ 1000000) :
    Calls Try.prog 65 #[v] w fun e w' => ∃ g, e = .returned (.pointer (some ⟨g, 0, none⟩)) ∧ w.heap.size ≤ g ∧ g < w'.heap.size ∧ InAt w' (fun k => w.heap.size ≤ k ∧ k < g) g ⟨l, 0⟩ ∧ Kept NoB w w' := by
  have HB := Lib.hid h
  obtain ⟨a, cap, rfl, hc, hm, hn, hr⟩ := h
  clear hn hr
  go_enter Try.func65, Try.ntmps65
  go_wp2_with fail
  refine (Clone_any _ l F _ HB.out hl).mono ?_
  rintro e w1 ⟨v', rfl, hv', hk1⟩
  have HV := Lib.hid hv'
  have HK := Lib.hid hk1
  obtain ⟨a', cap', rfl, hc', hm', hn', hr'⟩ := hv'
  clear hn' hr' hk1
  go_wp2
  go_ret
  have hsz := HK.out.size
  refine ⟨w1.heap.size, rfl, hsz, by simp, ⟨fun h => by omega, ⟨fun h => absurd rfl h, Int.le_refl _, by show (0 : Int) < 100; omega⟩, _, heap_alloc_new w1 _, ?_⟩, HK.out.alloc _⟩
  have hk : Kept NoB w1 (w1.alloc (.cells #[.slice a' l.length cap', .int .i64 0] 108)) := (Kept.refl _ _).alloc _
  exact (HV.out.mono (fun k h1 h2 => ⟨h2, h1⟩)).kept hk (fun _ _ h => h)

/-- fail. -/
theorem InFail_any (g : Nat) (s : ISt) (e : Int) (F : Nat → Prop) (w : World) (h : InAt w F g s) (he : 0 < e) (he2 : e < 100) :
    Calls Try.prog 79 #[.pointer (some ⟨g, 0, none⟩), .int .i64 e] w fun r w' => r = .returned (.tuple #[]) ∧
      InAt w' F g (s.fail e) ∧ Kept (Only g) w w' := by
  obtain ⟨l, err⟩ := s
  have HO := Lib.hid h
  obtain ⟨a, cap, c0, c1, hfz, _, _, _, _, hv⟩ := h.cells
  have f0 := hfz 0
  have f1 := hfz 1
  have HV := Lib.hid hv
  clear hv hfz h
  simp only at c0 c1
  by_cases h0 : err = 0
  · subst h0
    go_enter Try.func79, Try.ntmps79
    go_wp2
    go_end0
    refine ⟨rfl, ?_, ((Kept.refl _ _).only 1 _).only 0 _⟩
    obtain ⟨h1, h2, _⟩ := HO.out
    refine ⟨h1, ISt.fail_ok (s := ⟨l, 0⟩) h2 he he2, .slice none 0 0, ?_, BSl.nil _ _⟩
    have := HV.out
    simp [World.setCell, Array.getElem?_modify, this, ISt.fail]
  · have hb : (err == 0) = false := by simpa using h0
    go_enter Try.func79, Try.ntmps79
    go_wp2
    go_end0
    refine ⟨rfl, ?_, Kept.refl _ _⟩
    have := HO.out
    simpa [ISt.fail, h0] using this

/-- next. -/
def ISt.next (s : ISt) (n : Nat) : ISt × List Int := if n ≤ s.l.length then (⟨s.l.drop n, s.err⟩, s.l.take n) else (s.fail 3, [])
theorem ISt.next_raw (s : ISt) (h : s.ok) (n : Nat) : s.next n = s.raw n := by
  obtain ⟨l, err⟩ := s
  unfold ISt.next ISt.raw ISt.fail
  simp only
  by_cases he : err = 0
  · subst he
    by_cases hn : n ≤ l.length
    · rw [if_pos hn, if_pos rfl, if_neg (by omega), if_neg (by omega), Int.toNat_natCast]
    · rw [if_neg hn, if_pos rfl, if_pos rfl, if_neg (by omega), if_pos (by omega)]
  · have hl : l = [] := h.1 he
    subst hl
    by_cases hn : n ≤ ([] : List Int).length
    · have : n = 0 := by simpa using hn
      subst this
      rw [if_pos hn, if_neg he]
      rfl
    · rw [if_neg hn, if_neg he, if_neg he]

theorem next_any (g : Nat) (s : ISt) (n : Nat) (F : Nat → Prop) (w : World) (h : InAt w F g s) (hn : n ≤ 9223372036854775807) :
    Calls Try.prog 80 #[.pointer (some ⟨g, 0, none⟩), .int .i64 n] w fun r w' => ∃ v, r = .returned v ∧
      InAt w' F g (s.raw n).1 ∧ BSl w' F v (s.raw n).2 ∧ Kept (Only g) w w' := by
  rw [← ISt.next_raw s h.2.1]
  have HO := Lib.hid h
  obtain ⟨a, cap, c0, c1, hfz, hc, hm, hnn, hr, _⟩ := h.cells
  have f0 := hfz 0
  have HR := Lib.hid hr
  have HNN := Lib.hid hnn
  clear hfz h hr hnn
  by_cases hle : n ≤ s.l.length
  · have HN := Lib.hid (show s.next n = (⟨s.l.drop n, s.err⟩, s.l.take n) from if_pos hle)
    go_enter Try.func80, Try.ntmps80
    go_wp2
    all_goals
      go_ret
      have hcut := bsl_drop (n := n) hc hm HNN.out HR.out
      have htake := bsl_take3 hc hm HNN.out HR.out hle
      first
        | (have hcap : ¬ cap = n := by assumption
           rw [if_neg hcap] at hcut)
        | (have hcap : cap = n := by assumption
           rw [if_pos hcap, show cap - n = 0 by omega] at hcut)
      have hs := HO.out.store hcut (fun he => by rw [HO.out.2.1.1 he]; simp)
      have hk := fun v => (Kept.refl (Only g) w).only 0 v
      rw [HN.out]
      exact ⟨.slice a n n, rfl, hs, htake.kept (hk _) (fun k hk e => HO.out.1 (by have e : k = g := e; rw [← e]; exact hk)), hk _⟩
  · have HN := Lib.hid (show s.next n = (s.fail 3, []) from if_neg hle)
    go_enter Try.func80, Try.ntmps80
    go_wp2_with fail
    refine (InFail_any g s 3 F _ HO.out (by omega) (by omega)).mono ?_
    rintro e w1 ⟨rfl, hO1, hk1⟩
    have HO1 := Lib.hid hO1
    clear hO1
    go_wp2
    go_ret
    refine ⟨_, rfl, ?_, ?_, hk1⟩
    · rw [HN.out]; exact HO1.out
    · rw [HN.out]; exact BSl.nil _ _
end Go.Proofs.Ytbacnkndllifaaa
namespace Go.Proofs.Ytbacnkndllifaaa
open Go.RowKit

theorem ISt.raw_len (s : ISt) (n : Int) : (s.raw n).2.length ≤ n.toNat := by
  unfold ISt.raw
  split
  · split
    · simp
    · split
      · simp
      · simp [List.length_take]; omega
  · simp

theorem or_byte (N : Nat) (x : Int) (hN : N < 72057594037927936) (h0 : 0 ≤ x) (h1 : x < 256) : bits BinOp.or IntKind.u64 (IntKind.u64.wrap ((N : Int) * 256)) (IntKind.u64.wrap x) = ((N * 256 + x.toNat : Nat) : Int) := by
  obtain ⟨y, rfl⟩ := Int.eq_ofNat_of_zero_le h0
  have e1 : IntKind.u64.wrap ((N : Int) * 256) = ((N * 256 : Nat) : Int) := by rw [IntWalk.u64_in _ (by omega)]; omega
  have e2 : IntKind.u64.wrap (y : Int) = (y : Int) := IntWalk.u64_in _ (by omega)
  rw [e1, e2, u64_or_nat _ _ (by omega) (by omega), Int.toNat_natCast]
  have := Nat.two_pow_add_eq_or_of_lt (i := 8) (b := y) (by omega) N
  rw [show (2 : Nat) ^ 8 = 256 from rfl, Nat.mul_comm] at this
  rw [this]

theorem num_step (l : List Int) (hl : IsB l) (h8 : l.length ≤ 8) (j : Nat) (hj : j < l.length) :
    bits BinOp.or IntKind.u64 (IntKind.u64.wrap ((num (l.take j) : Int) * 256)) (IntKind.u64.wrap (l.getD j 0)) = (num (l.take (j + 1)) : Int) := by
  have h1 := num_lt (l.take j) (hl.take j)
  have h2 : (l.take j).length ≤ 7 := by rw [List.length_take]; omega
  have h3 : 256 ^ (l.take j).length ≤ 256 ^ 7 := Nat.pow_le_pow_right (by decide) h2
  have hx := hl.getD j
  rw [or_byte _ _ (by omega) hx.1 hx.2, List.take_succ_eq_append_getElem hj, num_snoc, List.getD_eq_getElem?_getD, List.getElem?_eq_getElem hj]
  rfl

set_option maxRecDepth 100000 in
/-- Get. -/
theorem Get_any (g : Nat) (s : ISt) (width : Int) (F : Nat → Prop) (w : World) (h : InAt w F g s) :
    Calls Try.prog 67 #[.pointer (some ⟨g, 0, none⟩), .int .i64 width] w fun r w' => r = .returned (.int .u64 (s.get width).2) ∧
      InAt w' F g (s.get width).1 ∧ Kept (Only g) w w' := by
  have HO := Lib.hid h
  clear h
  by_cases hw : width < 1 ∨ 8 < width
  · have HG := Lib.hid (show s.get width = (s.fail 1, 0) from if_pos hw)
    rcases hw with hw | hw
    all_goals
      have hw2 : 1 ≤ width ∨ width < 1 := by omega
      go_enter Try.func67, Try.ntmps67
      go_wp2_with fail
      refine (InFail_any g s 1 F _ HO.out (by omega) (by omega)).mono ?_
      rintro e w1 ⟨rfl, hO1, hk1⟩
      have HO1 := Lib.hid hO1
      clear hO1
      go_wp2
      go_ret
      rw [HG.out]
      exact ⟨rfl, HO1.out, hk1⟩
  · have HG := Lib.hid (show s.get width = ((s.raw width).1, (num (s.raw width).2 : Int)) from if_neg hw)
    obtain ⟨k, rfl⟩ := Int.eq_ofNat_of_zero_le (show 0 ≤ width by omega)
    have hk1 : 1 ≤ k := by omega
    have hk8 : k ≤ 8 := by omega
    clear hw
    go_enter Try.func67, Try.ntmps67
    go_wp2_with fail
    refine (next_any g s k F _ HO.out (by omega)).mono ?_
    rintro e w1 ⟨v, rfl, hO1, hv, hq1⟩
    have HO1 := Lib.hid hO1
    have HQ1 := Lib.hid hq1
    have hlen := ISt.raw_len s k
    rw [Int.toNat_natCast] at hlen
    obtain ⟨l, hl⟩ : ∃ l, l = (s.raw k).2 := ⟨_, rfl⟩
    rw [← hl] at hv hlen
    have HL := Lib.hid hl
    clear hO1 hq1 hl
    obtain ⟨a, cap, rfl, hc, hm, _, hr⟩ := hv
    have hB := Lib.hid hr.1
    go_wp2
    go_loop [5, 22] (fun n i => ∃ j : Nat, j ≤ l.length ∧ i = .int .i64 j ∧ n = .int .u64 (num (l.take j))) (fun _ i => l.length - (intOf i).toNat)
    case atStart => exact ⟨0, Nat.zero_le _, rfl, rfl⟩
    case round =>
      obtain ⟨j, hj, rfl, rfl⟩ := hrel
      by_cases hlt : j < l.length
      · obtain ⟨b, o, rfl, _, _, hcell⟩ := hr.at_ hlt
        obtain ⟨x, hx⟩ : ∃ x, x = l.getD j 0 := ⟨_, rfl⟩
        rw [← hx] at hcell
        have HX := Lib.hid hx
        clear hx
        go_wp2
        refine ⟨⟨j + 1, by omega, by go_num, ?_⟩, by simp [intOf]; omega⟩
        rw [HX.out, num_step l hB.out (by omega) j hlt]
      · go_wp2
        go_ret
        have e : l.take j = l := List.take_of_length_le (by omega)
        rw [HG.out, ← HL.out, e]
        exact ⟨rfl, HO1.out, HQ1.out⟩

theorem ISt.get_lt {w : World} {F : Nat → Prop} {g : Nat} {s : ISt} (h : InAt w F g s) (width : Int) : 0 ≤ (s.get width).2 ∧ (s.get width).2 ≤ 18446744073709551615 := by
  have hb : IsB s.l := by obtain ⟨_, _, _, _, hb⟩ := h; exact hb.isB
  unfold ISt.get
  split
  · exact ⟨Int.le_refl _, by show (0 : Int) ≤ 18446744073709551615; omega⟩
  · rename_i hw
    have hl := s.raw_len width
    have hB : IsB (s.raw width).2 := by
      unfold ISt.raw
      split
      · split
        · exact IsB.nil
        · split
          · exact IsB.nil
          · exact hb.take _
      · exact IsB.nil
    have h1 := num_lt _ hB
    have h3 : 256 ^ (s.raw width).2.length ≤ 256 ^ 8 := Nat.pow_le_pow_right (by decide) (by omega)
    show (0 : Int) ≤ (num (s.raw width).2 : Int) ∧ (num (s.raw width).2 : Int) ≤ 18446744073709551615
    omega
theorem ISt.get_err (s : ISt) (width : Int) (he : (s.get width).1.err ≠ 0) : (s.get width).2 = 0 := by
  unfold ISt.get at he ⊢
  split
  · rfl
  · rename_i hw
    rw [if_neg hw] at he
    simp only at he ⊢
    unfold ISt.raw at he ⊢
    split at he
    · rename_i h0
      rw [if_pos h0]
      split
      · rfl
      · split
        · rfl
        · rename_i h1 h2
          rw [if_neg h1, if_neg h2] at he
          exact absurd rfl he
    · rename_i h0
      rw [if_neg h0]
      rfl
theorem ISt.get_ok {s : ISt} (h : s.ok) (width : Int) : (s.get width).1.ok := by
  unfold ISt.get
  split
  · exact ISt.fail_ok h (by decide) (by decide)
  · exact ISt.raw_ok h _
theorem ISt.upto_get (s : ISt) (width most : Int) (hm : 0 ≤ most) : s.upto width most = if most < (s.get width).2 then ((s.get width).1.fail 4, 0) else ((s.get width).1, (s.get width).2) := by
  have hge := s.get_err width
  unfold ISt.upto
  unfold ISt.get at hge ⊢
  by_cases hw : width < 1 ∨ 8 < width
  · rw [if_pos hw, if_pos hw]
    simp only
    rw [if_neg (by omega)]
  · rw [if_neg hw] at hge ⊢
    rw [if_neg hw]
    simp only at hge ⊢
    by_cases he : (s.raw width).1.err = 0
    · rw [if_pos he]
      by_cases hn : most < num (s.raw width).2
      · rw [if_pos hn, if_pos hn]
        simp only [ISt.fail, he, if_true]
      · rw [if_neg hn, if_neg hn]
    · rw [if_neg he]
      have := hge he
      rw [if_neg (by omega), this]

set_option maxRecDepth 100000 in
/-- Upto. -/
theorem Upto_any (g : Nat) (s : ISt) (width most : Int) (F : Nat → Prop) (w : World) (h : InAt w F g s) (hm : 0 ≤ most) :
    Calls Try.prog 66 #[.pointer (some ⟨g, 0, none⟩), .int .i64 width, .int .u64 most] w fun r w' => r = .returned (.int .u64 (s.upto width most).2) ∧
      InAt w' F g (s.upto width most).1 ∧ Kept (Only g) w w' := by
  have HO := Lib.hid h
  have HU := Lib.hid (s.upto_get width most hm)
  clear h
  by_cases hlt : most < (s.get width).2
  · go_enter Try.func66, Try.ntmps66
    go_wp2_with fail
    refine (Get_any g s width F _ HO.out).mono ?_
    rintro e w1 ⟨rfl, hO1, hk1⟩
    have HO1 := Lib.hid hO1
    clear hO1
    go_wp2_with fail
    refine (InFail_any g _ 4 F _ HO1.out (by omega) (by omega)).mono ?_
    rintro e w2 ⟨rfl, hO2, hk2⟩
    have HO2 := Lib.hid hO2
    clear hO2
    go_wp2
    go_ret
    rw [HU.out, if_pos hlt]
    exact ⟨rfl, HO2.out, hk1.trans hk2 (fun _ _ h => h)⟩
  · go_enter Try.func66, Try.ntmps66
    go_wp2_with fail
    refine (Get_any g s width F _ HO.out).mono ?_
    rintro e w1 ⟨rfl, hO1, hk1⟩
    have HO1 := Lib.hid hO1
    clear hO1
    go_wp2
    go_ret
    rw [HU.out, if_neg (by omega)]
    exact ⟨rfl, HO1.out, hk1⟩

/-- Err. -/
theorem Err_any (g : Nat) (s : ISt) (F : Nat → Prop) (w : World) (h : InAt w F g s) :
    Calls Try.prog 81 #[.pointer (some ⟨g, 0, none⟩)] w fun r w' => r = .returned (.int .i64 s.err) ∧ w = w' := by
  obtain ⟨a, cap, c0, c1, _⟩ := h.cells
  go_enter Try.func81, Try.ntmps81
  go_wp2
  go_ret
  exact ⟨rfl, rfl⟩

/-- Left. -/
theorem Left_any (g : Nat) (s : ISt) (F : Nat → Prop) (w : World) (h : InAt w F g s) :
    Calls Try.prog 82 #[.pointer (some ⟨g, 0, none⟩)] w fun r w' => r = .returned (.int .i64 s.l.length) ∧ w = w' := by
  obtain ⟨a, cap, c0, c1, _⟩ := h.cells
  go_enter Try.func82, Try.ntmps82
  go_wp2
  go_ret
  exact ⟨rfl, rfl⟩

/-- Done. -/
theorem InDone_any (g : Nat) (s : ISt) (F : Nat → Prop) (w : World) (h : InAt w F g s) :
    Calls Try.prog 68 #[.pointer (some ⟨g, 0, none⟩)] w fun r w' => r = .returned (.int .i64 s.done) ∧ w = w' := by
  have HO := Lib.hid h
  by_cases he : s.err = 0
  · have heb : (s.err != 0) = false := by rw [he]; rfl
    by_cases hl : 0 < s.l.length
    · have HD := Lib.hid (show s.done = 4 from if_pos ⟨he, hl⟩)
      have HE := Lib.hid he
      clear he h
      go_enter Try.func68, Try.ntmps68
      go_wp2_with fail
      refine (Err_any g s F _ HO.out).mono ?_
      rintro e w1 ⟨rfl, rfl⟩
      go_wp2_with fail
      refine (Left_any g s F _ HO.out).mono ?_
      rintro e w1 ⟨rfl, rfl⟩
      go_wp2
      go_ret
      rw [HD.out]
      exact ⟨rfl, rfl⟩
    · have HD := Lib.hid (show s.done = 0 by unfold ISt.done; rw [if_neg (fun h => hl h.2), he])
      have HE := Lib.hid he
      have hl0 : ((s.l.length : Int) > 0) = False := by simp; simpa using hl
      clear he h
      go_enter Try.func68, Try.ntmps68
      go_wp2_with fail
      refine (Err_any g s F _ HO.out).mono ?_
      rintro e w1 ⟨rfl, rfl⟩
      go_wp2_with fail
      refine (Left_any g s F _ HO.out).mono ?_
      rintro e w1 ⟨rfl, rfl⟩
      go_wp2
      go_ret
      rw [HD.out]
      exact ⟨rfl, rfl⟩
  · have heb : (s.err != 0) = true := by rw [bne_iff_ne]; exact he
    have HD := Lib.hid (show s.done = s.err from if_neg (fun h => he h.1))
    clear he h
    go_enter Try.func68, Try.ntmps68
    go_wp2_with fail
    refine (Err_any g s F _ HO.out).mono ?_
    rintro e w1 ⟨rfl, rfl⟩
    go_wp2
    go_ret
    rw [HD.out]
    exact ⟨rfl, rfl⟩

theorem ISt.get2_lt (s : ISt) (hb : IsB s.l) : 0 ≤ (s.get 2).2 ∧ (s.get 2).2 < 65536 := by
  have e : (s.get 2).2 = (num (s.raw 2).2 : Int) := by unfold ISt.get; rw [if_neg (by omega)]
  have hl := s.raw_len 2
  have hB : IsB (s.raw 2).2 := by
    unfold ISt.raw
    split
    · split
      · exact IsB.nil
      · split
        · exact IsB.nil
        · exact hb.take _
    · exact IsB.nil
  have h1 := num_lt _ hB
  have h3 : 256 ^ (s.raw 2).2.length ≤ 256 ^ 2 := Nat.pow_le_pow_right (by decide) hl
  rw [e]
  omega

end Go.Proofs.Ytbacnkndllifaaa
namespace Go.Proofs.Ytbacnkndllifaaa
open Go.ChangeShapes Go.WideShapes Go.ChangeAt Go.RowKit Go.Deep
set_option linter.unusedVariables false

theorem pick28 {α : Type} {m : Nat} {Q : Nat → α → Prop} (z : α) (h : ∀ j, j < m → ∃ x, Q j x) : ∃ f : Nat → α, ∀ j, j < m → Q j (f j) :=
  ⟨fun j => if hj : j < m then Classical.choose (h j hj) else z, fun j hj => by
    simp only [dif_pos hj]
    exact Classical.choose_spec (h j hj)⟩
theorem list3v28 {α : Type} {cs : List α} (h : cs.length = 3) : ∃ c0 c1 c2, cs = [c0, c1, c2] := by
  match cs, h with
  | [c0, c1, c2], _ => exact ⟨c0, c1, c2, rfl⟩
section
variable {H : Type} {enc : TypeId × Value → H} {W : World} {base b0 : Nat}
set_option maxRecDepth 100000 in
/-- One cell that reads as a slice of extents. -/
theorem xsl_cell28 {fuel : Nat} {c : Value} {x : DataW H × List MemPlace} (hf : DataW.trod enc Try.prog W base (fun _ => true) true fuel 41 [c] = some x) :
    ∃ l : List Xt, XSl W (fun k => k < W.heap.size) c l := by
  rcases open_slice_pairs Try.underlying41 Try.underlying80 (by kernel_rfl) rfl rfl (by kernel_rfl) (by kernel_rfl) hf with ⟨hcs, _⟩ | ⟨x, len, cap, m, n, V0, V1, D0, D1, P0, P1, hcs, _, hl, hm, hmm, _, hcell⟩
  · simp only [List.cons.injEq, and_true] at hcs
    subst hcs
    exact ⟨[], XSl.nil _ _⟩
  · simp only [List.cons.injEq, and_true] at hcs
    subst hcs
    simp only [if_true] at hmm
    subst hmm
    obtain ⟨f, hf2⟩ := pick28 (α := Xt) (m := m) (Q := fun j p => V0 j = .int .i64 p.1 ∧ V1 j = .int .i64 p.2) (0, 0) (fun j hj => by
      obtain ⟨_, _, g0, g1⟩ := hcell j hj
      obtain ⟨k0, e0, _, _⟩ := DataW.trod_int Try.underlying3 g0
      obtain ⟨k1, e1, _, _⟩ := DataW.trod_int Try.underlying3 g1
      simp only [List.cons.injEq, and_true] at e0 e1
      exact ⟨(k0, k1), e0, e1⟩)
    have hll : ((List.range len).map f).length = len := by simp
    refine ⟨(List.range len).map f, some x, m, by rw [hll], by rw [hll]; exact hl, hm, (fun h => by cases h), fun hp => ?_⟩
    rw [hll] at hp
    obtain ⟨b, o, spot⟩ := x
    have h0 := (hcell 0 (by omega)).1
    have hspot : spot = none := by simpa [Addr.add] using World.cell?_spot h0
    subst hspot
    have hadd : ∀ j, (⟨b, o, none⟩ : Addr).add j = ⟨b, o + j, none⟩ := fun j => by unfold Addr.add; split <;> simp_all
    have hbl := World.block_lt_of_cell? W _ h0
    refine ⟨b, o, rfl, by simpa [hadd] using hbl, by simpa [hadd] using hbl, fun j hj => ?_⟩
    rw [hll] at hj
    obtain ⟨e0, e1, _, _⟩ := hcell j (by omega)
    obtain ⟨q0, q1⟩ := hf2 j (by omega)
    rw [hadd, q0] at e0
    rw [hadd, q1] at e1
    rw [xth_eq (by rw [hll]; exact hj)]
    simp only [List.getElem_map, List.getElem_range]
    exact ⟨e0, e1⟩
/-- The value is an inode. -/
def InoV (w : World) (v : Value) (o : Int × Int × List Xt) : Prop := ∃ u, v = iv28 o.1 o.2.1 u ∧ XSl w (fun k => k < w.heap.size) u o.2.2 ∧ (-9223372036854775808 ≤ o.1 ∧ o.1 ≤ 9223372036854775807) ∧ -9223372036854775808 ≤ o.2.1 ∧ o.2.1 ≤ 9223372036854775807
set_option maxRecDepth 100000 in
/-- An inode by value. -/
theorem ino_open {r : Reach} {v : Value} {d : DataW H} {p : List MemPlace} (hv : Value.okWide Try.prog W r b0 43 v)
    (h : DataW.Trod enc Try.prog W base (fun _ => true) true 43 v d p) : ∃ o : Int × Int × List Xt, InoV W v o := by
  obtain ⟨cs, rfl, hsz⟩ := okWide_struct Try.underlying43 hv
  have hC : Try.prog.cellsOf 43 = 3 := by kernel_rfl
  obtain ⟨l⟩ := cs
  obtain ⟨c0, c1, c2, rfl⟩ := list3v28 (cs := l) (hsz.trans hC)
  obtain ⟨fuel, hf⟩ := h
  obtain ⟨xs, n', _, _, _, hxl, hg⟩ := DataW.trod_struct Try.underlying43 (by simpa [Value.cells] using hf)
  have hxl3 : xs.length = 3 := hxl
  match xs, hxl3 with
  | [y0, y1, y2], _ =>
    have g0 : DataW.trod enc Try.prog W base (fun _ => true) true n' 3 [c0] = some y0 := hg 0 _ rfl
    have g1 : DataW.trod enc Try.prog W base (fun _ => true) true n' 3 [c1] = some y1 := hg 1 _ rfl
    have g2 : DataW.trod enc Try.prog W base (fun _ => true) true n' 41 [c2] = some y2 := hg 2 _ rfl
    obtain ⟨k0, e0, _, w0⟩ := DataW.trod_int Try.underlying3 g0
    obtain ⟨k1, e1, _, w1⟩ := DataW.trod_int Try.underlying3 g1
    obtain ⟨l, hl⟩ := xsl_cell28 g2
    simp only [List.cons.injEq, and_true] at e0 e1
    subst e0 e1
    exact ⟨(k0, k1, l), c2, rfl, hl, bounds_i64 w0, bounds_i64 w1⟩
end
theorem InodeTurns_v (W : World) (x v : Value) (o : Int × Int × List Xt) (z : Int) (bs : List Int) (h : InoV W x o) (z0 : -9223372036854775808 ≤ z) (z1 : z ≤ 9223372036854775807) (hv : NSl W (fun k => k < W.heap.size) v bs) (hb : ∀ x ∈ bs, -9223372036854775808 ≤ x ∧ x ≤ 9223372036854775807) :
    Calls Try.prog 10 #[x, .int .i64 z, v] W fun e W' => e = .returned (.bool true) ∧ Kept NoB W W' := by
  obtain ⟨u, rfl, hx, _, s0, s1⟩ := h
  exact InodeTurns_any _ _ z u v _ bs W hx hv s0 s1 z0 z1 hb
end Go.Proofs.Ytbacnkndllifaaa
namespace Go.Proofs.Ytbacnkndllifaaa
open Go.RowKit
theorem InodeBack_v (W : World) (x v : Value) (o : Int × Int × List Xt) (z : Int) (bs : List Int) (h : InoV W x o) (z0 : -9223372036854775808 ≤ z) (z1 : z ≤ 9223372036854775807) (hv : NSl W (fun k => k < W.heap.size) v bs) (hb : ∀ x ∈ bs, -9223372036854775808 ≤ x ∧ x ≤ 9223372036854775807) :
    Calls Try.prog 11 #[x, .int .i64 z, v] W fun e W' => e = .returned (.bool true) ∧ Kept NoB W W' := by
  obtain ⟨u, rfl, hx, _, s0, s1⟩ := h
  exact InodeBack_any _ _ z u v _ bs W hx hv s0 s1 z0 z1 hb
end Go.Proofs.Ytbacnkndllifaaa
namespace Go.Proofs.Ytbacnkndllifaaa
open Go.RowKit
set_option linter.unusedVariables false
set_option linter.unusedSimpArgs false

section
variable {P : Program} (t e : TypeId) (i0 : TypeInfo) (ht : P.underlying t = some (.slice e)) (hi : P.info? e = some i0) (hz0 : i0.zero = some (.int .u8 0)) (hz1 : i0.size = 1) (hz2 : i0.bytes = 1) (he : e = 5)
include ht hi hz0 hz1 hz2 he
theorem wp_append_Own28 (w : World) {o : Oper} {a : Act} {K : Act → World → Prop} {Q : Exit → Act → World → Prop} (s x : Operand)
    (ho : o.op = .call { callee := .builtin .append, args := #[s, x], argTypes := #[t, t] })
    (B : Nat) (v : Value) (l : List Int) (hs : a.eval s = v) (hown : Own w (fun k => B ≤ k) v l) (G : Nat → Prop) (y : Value) (m : List Int) (hx : a.eval x = y) (hy : BSl w G y m) (hl : l.length + m.length ≤ 100000) (hB : B ≤ w.heap.size) (N : Nat) (hN : l.length + m.length = N)
    (h : ∀ a' c' w', Own w' (fun k => B ≤ k) (.slice a' N c') (l ++ m) → Kept (fun k => B ≤ k) w w' → K (a.put o.dst (.slice a' N c')) w') : o.wp P a w K Q := by
  subst hN he
  obtain ⟨v', w', hrun, h2, h3, h4⟩ := run_append_bsl (P := P) w 0 t o.type 5 i0 _ ht hi hz0 hz1 hz2 rfl v l.length l hown.2.1 G y m hy (by omega) (Nat.zero_le _)
  obtain ⟨a', c', rfl⟩ := own_form h2
  obtain ⟨k1, k2⟩ := hown.grow (G := fun k => B ≤ k) hy.isB (fun _ _ h => h) (fun k hk => by omega) h2 h3 h4
  unfold Oper.wp execOp
  simp only [ho, resolve, invoke, builtin, Sem.run_bind, Sem.run_pure, Result.andThen_ok, List.map_toArray, List.map_cons, List.map_nil, hs, hx, hrun]
  exact h a' c' w' k1 k2
/-- append of bytes that are read to a row of bytes of the call's own. -/
theorem wpList_append_Own28 (w : World) {ops : Array Oper} {rest : List Oper} {o : Oper} {a : Act} {Q : Exit → Act → World → Prop} (hgd : o.guard = none) (s x : Operand)
    (ho : o.op = .call { callee := .builtin .append, args := #[s, x], argTypes := #[t, t] })
    (B : Nat) (v : Value) (l : List Int) (hs : a.eval s = v) (hown : Own w (fun k => B ≤ k) v l) (G : Nat → Prop) (y : Value) (m : List Int) (hx : a.eval x = y) (hy : BSl w G y m) (hl : l.length + m.length ≤ 100000) (hB : B ≤ w.heap.size) (N : Nat) (hN : l.length + m.length = N)
    (h : ∀ a' c' w', Own w' (fun k => B ≤ k) (.slice a' N c') (l ++ m) → Kept (fun k => B ≤ k) w w' → wpList P ops Q rest (a.put o.dst (.slice a' N c')) w') : wpList P ops Q (o :: rest) a w :=
  wpList_plain hgd fun K hK => wp_append_Own28 t e i0 ht hi hz0 hz1 hz2 he w s x ho B v l hs hown G y m hx hy hl hB N hN fun a' c' w' h2 h3 => hK _ _ (h a' c' w' h2 h3)
theorem step_append_Own28 (w : World) {ops : Array Oper} {o : Oper} {a : Act} {K : Act → World → Prop} {Q : Exit → Act → World → Prop} {E : Prop} (hgd : o.guard = none) (s x : Operand)
    (ho : o.op = .call { callee := .builtin .append, args := #[s, x], argTypes := #[t, t] })
    (B : Nat) (v : Value) (l : List Int) (hs : a.eval s = v) (hown : Own w (fun k => B ≤ k) v l) (G : Nat → Prop) (y : Value) (m : List Int) (hx : a.eval x = y) (hy : BSl w G y m) (hl : l.length + m.length ≤ 100000) (hB : B ≤ w.heap.size) (N : Nat) (hN : l.length + m.length = N)
    (h : ∀ a' c' w', Own w' (fun k => B ≤ k) (.slice a' N c') (l ++ m) → Kept (fun k => B ≤ k) w w' → K (a.put o.dst (.slice a' N c')) w') :
    if Region.wanted o (yielded ops a.tmps) = true then Oper.wp P o a w K Q else E := by
  have hw : Region.wanted o (yielded ops a.tmps) = true := by simp [Region.wanted, hgd]
  rw [if_pos hw]
  exact wp_append_Own28 t e i0 ht hi hz0 hz1 hz2 he w s x ho B v l hs hown G y m hx hy hl hB N hN h
end
theorem own_one28 (w : World) (x : Int) (h0 : 0 ≤ x) (h1 : x < 256) (B : Nat) (hB : B ≤ w.heap.size) : Own (w.alloc (.cells #[.int .u8 x] 5)) (fun k => B ≤ k) (.slice (some ⟨w.heap.size, 0, none⟩) 1 1) [x] :=
  ⟨fun z hz => by rw [List.mem_singleton] at hz; rw [hz]; exact ⟨h0, h1⟩, ⟨rfl, .inr ⟨w.heap.size, 1, _, rfl, Nat.zero_le _, heap_alloc_new w _, Nat.le_refl _, by decide, rfl, rfl⟩⟩, fun k hk => by
    injection hk with hk
    replace hk : w.heap.size = k := hk
    omega⟩
theorem own_two28 (w : World) (x y : Int) (h0 : 0 ≤ x) (h1 : x < 256) (h2 : 0 ≤ y) (h3 : y < 256) (B : Nat) (hB : B ≤ w.heap.size) : Own (w.alloc (.cells #[.int .u8 x, .int .u8 y] 5)) (fun k => B ≤ k) (.slice (some ⟨w.heap.size, 0, none⟩) 2 2) [x, y] :=
  ⟨fun z hz => by
    rcases List.mem_cons.1 hz with rfl | hz
    · exact ⟨h0, h1⟩
    · rw [List.mem_singleton] at hz; rw [hz]; exact ⟨h2, h3⟩, ⟨rfl, .inr ⟨w.heap.size, 2, _, rfl, Nat.zero_le _, heap_alloc_new w _, Nat.le_refl _, by decide, rfl, rfl⟩⟩, fun k hk => by
    injection hk with hk
    replace hk : w.heap.size = k := hk
    omega⟩
theorem one28 (n : Nat) (h : n < 256) : be n 1 = [(n : Int)] := by simp [be, Nat.mod_eq_of_lt h]
def RbRel (W : World) (hd : List Int) (l : List Xt) (n : Nat) (ov iv : Value) (wr : World) : Prop :=
  ∃ (k : Nat) (a : Option Addr) (c : Nat), k ≤ n ∧ iv = .int .i64 k ∧ ov = .slice a (6 + 4 * k) c ∧ Own wr (fun i => W.heap.size ≤ i) ov (hd ++ bytX (l.take k)) ∧ Kept (fun i => W.heap.size ≤ i) W wr
set_option maxRecDepth 100000 in
set_option maxHeartbeats 20000000 in
theorem RBytes28_any (m s : Nat) (u : Value) (l : List Xt) (F : Nat → Prop) (w : World) (h : XSl w F u l) (hc : chk28 (m : Int) (s : Int) l = 0) :
    Calls Try.prog 40 #[iv28 (m : Int) (s : Int) u] w fun e w' => ∃ v, e = .returned v ∧ BSl w' (fun k => w.heap.size ≤ k) v (bytI m s l) ∧ Kept NoB w w' := by
  obtain ⟨i0, hi0, hz0, hz1, hz2⟩ := info_parts Try.info5
  obtain ⟨hm0, hm2, hs0, hs5, ⟨hve, _⟩, hl8⟩ := chk_zero hc
  obtain ⟨a, cap, rfl, hca, hcm, _⟩ := id h
  have HX0 := Lib.hid (h.any.no ((Kept.refl NoB w).alloc (.cells #[.int .i64 m, .int .i64 s, .slice a l.length cap] 43)))
  have HK0 := Lib.hid ((Kept.refl NoB w).alloc (.cells #[.int .i64 m, .int .i64 s, .slice a l.length cap] 43))
  have HB0 := Lib.hid (IAt.new 43 w (m : Int) (s : Int) (.slice a l.length cap))
  have HVE := Lib.hid hve
  obtain ⟨n, hn⟩ : ∃ n, n = l.length := ⟨_, rfl⟩
  rw [← hn] at HX0 HK0 HB0 hl8 ⊢
  have HN := Lib.hid hn
  obtain ⟨W, hW⟩ : ∃ W, W = w.alloc (.cells #[.int .i64 m, .int .i64 s, .slice a n cap] 43) := ⟨_, rfl⟩
  rw [← hW] at HX0 HK0 HB0
  have HWW := Lib.hid hW
  have HSZ : Hid (w.heap.size < W.heap.size) := Lib.hid (heap_lt HB0.out)
  have hwm : IntKind.u8.wrap (m : Int) = (m : Int) := IntWalk.u8_in _ (by omega)
  have hwn : IntKind.u8.wrap (n : Int) = (n : Int) := IntWalk.u8_in _ (by omega)
  have hws : IntKind.u64.wrap (s : Int) = (s : Int) := IntWalk.u64_in _ (by omega)
  have HEP : Hid (s < 256 ^ 4) := Lib.hid (by omega)
  have hm256 : (m : Int) < 256 := by omega
  have hn256 : (n : Int) < 256 := by omega
  have HTEN : Hid (∀ w', Kept (fun i => W.heap.size ≤ i) W w' → (w'.cell? ⟨w.heap.size, 0, none⟩ = some (.int .i64 m) ∧ w'.cell? ⟨w.heap.size, 1, none⟩ = some (.int .i64 s) ∧ w'.cell? ⟨w.heap.size, 2, none⟩ = some (.slice a n cap))) := Lib.hid (fun w' hk => cells3 (hk.heap (Nat.not_le.2 HSZ.out) HB0.out))
  have HBIG : Hid (∀ w', Calls Try.prog 69 #[.int .u64 (s : Int), .int .i64 4] w' fun e w'' => ∃ ba bc, e = .returned (.slice ba 4 bc) ∧ BSl w'' (fun _ => True) (.slice ba 4 bc) (be s 4) ∧ Kept NoB w' w'') := Lib.hid (fun w' => (Big_any s 4 w' (by omega) (by omega) (Lib.hid (by omega))).mono fun e w'' ⟨bv, h1, h2, h3⟩ => by
    obtain ⟨ba, bc, rfl⟩ := own_form h2.2.1
    rw [be_len] at h1 h2
    exact ⟨ba, bc, h1, h2.bsl.mono (fun _ _ _ => trivial), h3⟩)
  have HBI2 : Hid (∀ (x : Nat) w', x < 65536 → Calls Try.prog 69 #[.int .u64 (x : Int), .int .i64 2] w' fun e w'' => ∃ ba bc, e = .returned (.slice ba 2 bc) ∧ BSl w'' (fun _ => True) (.slice ba 2 bc) (be x 2) ∧ Kept NoB w' w'') := Lib.hid (fun x w' hx => (Big_any x 2 w' (by omega) (by omega) (Lib.hid (by omega))).mono fun e w'' ⟨bv, h1, h2, h3⟩ => by
    obtain ⟨ba, bc, rfl⟩ := own_form h2.2.1
    rw [be_len] at h1 h2
    exact ⟨ba, bc, h1, h2.bsl.mono (fun _ _ _ => trivial), h3⟩)
  have HKD : Hid (Kept NoB W W.drew) := Lib.hid (Kept.refl NoB W).drew
  have HKA : Hid (Kept NoB W (W.alloc (.cells #[.int .u8 m, .int .u8 n] 5)).drew) := Lib.hid ((Kept.refl NoB W).alloc _).drew
  have HOA : Hid (Own (W.alloc (.cells #[.int .u8 m, .int .u8 n] 5)).drew (fun k => W.heap.size ≤ k) (.slice (some ⟨W.heap.size, 0, none⟩) 2 2) [(m : Int), (n : Int)]) := Lib.hid ((own_two28 W m n (by omega) (by omega) (by omega) (by omega) _ (Nat.le_refl _)).kept (Kept.refl NoB _).drew (fun _ _ h => h))
  obtain ⟨f0, f1, f2⟩ := HTEN.out _ (HKA.out.mono (fun _ _ h => absurd h (fun h => h)))
  obtain ⟨e0, e1, e2⟩ := HTEN.out _ (HKD.out.mono (fun _ _ h => absurd h (fun h => h)))
  have HLB : Hid ([(m : Int), (n : Int)].length + (be s 4).length = 6) := Lib.hid (by simp only [be_len]; rfl)
  have HLA : Hid ([(m : Int), (n : Int)].length + (be s 4).length ≤ 100000) := Lib.hid (by rw [HLB.out]; omega)
  clear hn hc h hve hW
  go_enter Try.func40, Try.ntmps40
  go_wp2_with fail
  rw [← HWW.out]
  go_region_held3 (fun w' => w'.cell? ⟨w.heap.size, 0, none⟩ = some (.int .i64 m) ∧ w'.cell? ⟨w.heap.size, 1, none⟩ = some (.int .i64 s) ∧ w'.cell? ⟨w.heap.size, 2, none⟩ = some (.slice a n cap))
    (first
      | (with_reducible exact ⟨e0, e1, e2⟩)
      | (with_reducible exact ⟨f0, f1, f2⟩)
      | (with_reducible exact ⟨cell_alloc e0 _, cell_alloc e1 _, cell_alloc e2 _⟩)
      | go_keep)
    (first
      | (go_at_call 69; (with_reducible refine (HBIG.out (W.alloc (.cells #[.int .u8 m, .int .u8 n] 5)).drew).mono ?_); rintro e wB ⟨ba, bc, rfl, hbv, hkb⟩; have HBV := Lib.hid hbv; have HKB := Lib.hid (HKA.out.trans hkb (fun _ _ h => h)); have HOB := Lib.hid (HOA.out.kept hkb (fun _ _ h => h)); clear hbv hkb e0 e1 e2; obtain ⟨e0, e1, e2⟩ := HTEN.out _ (HKB.out.mono (fun _ _ h => absurd h (fun h => h))))
      | (go_at_call 69; (with_reducible refine (HBIG.out W.drew).mono ?_); rintro e wB ⟨ba, bc, rfl, hbv, hkb⟩; have HKC := Lib.hid (HKD.out.trans hkb (fun _ _ h => h)); have HKB := Lib.hid (HKC.out.alloc (.cells #[.int .u8 m, .int .u8 n] 5)); have HOB : Hid (Own (wB.alloc (.cells #[.int .u8 m, .int .u8 n] 5)) (fun k => W.heap.size ≤ k) (.slice (some ⟨wB.heap.size, 0, none⟩) 2 2) [(m : Int), (n : Int)]) := Lib.hid (own_two28 wB m n (by omega) (by omega) (by omega) (by omega) _ HKC.out.size); have HBV := Lib.hid (hbv.kept ((Kept.refl NoB wB).alloc (.cells #[.int .u8 m, .int .u8 n] 5)) (fun _ _ h => h)); clear hbv hkb e0 e1 e2; obtain ⟨e0, e1, e2⟩ := HTEN.out _ (HKC.out.mono (fun _ _ h => absurd h (fun h => h))))
      | (refine step_append_Own28 22 5 i0 Try.underlying22 hi0 hz0 hz1 hz2 rfl _ (by rfl) _ _ (by rfl) W.heap.size _ [(m : Int), (n : Int)] (by rfl) HOB.out (fun _ => True) (.slice ba 4 bc) (be s 4) (by rfl) HBV.out HLA.out HKB.out.size 6 HLB.out ?_; intro a1 c1 w1 ho1 hk1; have HO1 := Lib.hid ho1; have HK1 := Lib.hid ((HKB.out.mono (T := fun k => W.heap.size ≤ k) (fun _ _ h => absurd h (fun h => h))).trans hk1 (fun _ _ h => h)); clear ho1 hk1 e0 e1 e2; obtain ⟨e0, e1, e2⟩ := HTEN.out _ HK1.out)
      | fail)
  all_goals
    have HLH : Hid (([(m : Int), (n : Int)] ++ be s 4).length = 6) := Lib.hid (by rw [List.length_append, be_len]; rfl)
    obtain ⟨hd, hhd⟩ : ∃ q, q = [(m : Int), (n : Int)] ++ be s 4 := ⟨_, rfl⟩
    rw [← hhd] at HO1 HLH
    have HHD := Lib.hid hhd
    clear hhd e0 e1 e2 f0 f1 f2
    go_wp2_with fail
    go_loopw [3, 4] (fun u i wr => RbRel W hd l n u i wr) (fun _ i _ => n - (intOf i).toNat)
    case atStart => exact ⟨0, _, _, Nat.zero_le _, rfl, rfl, by rw [List.take_zero, show bytX [] = [] from rfl, List.append_nil]; exact HO1.out, HK1.out⟩
    case round =>
      obtain ⟨k, oa, oc, hk, rfl, rfl, hown, hK⟩ := hrel
      have hk0 : (0 : Int) ≤ (k : Int) := by omega
      have HK := Lib.hid hK
      have HO := Lib.hid hown
      have HKR := Lib.hid hk
      clear hown hK
      obtain ⟨e0, e1, e2⟩ := HTEN.out _ HK.out
      by_cases hlt : k < n
      · have hk1 : (k : Int) < (n : Int) := by omega
        have hlt' : k < l.length := by have := HN.out; omega
        obtain ⟨b, o, rfl, _, hb, hc0, hc1⟩ := HX0.out.at_ hlt'
        have hv := HVE.out _ (xth_mem hlt')
        obtain ⟨p, hp⟩ : ∃ p, p = xth l k := ⟨_, rfl⟩
        rw [← hp] at hc0 hc1 hv
        have htk : bytX (l.take (k + 1)) = bytX (l.take k) ++ be p.1.toNat 2 ++ be p.2.toNat 2 := by rw [xtake_snoc hlt', ← hp, bytX_snoc]
        obtain ⟨x, y⟩ := p
        obtain ⟨v1, v2, v3, v4, v5⟩ := hv
        simp only at v1 v2 v3 v4 v5 hc0 hc1 htk
        obtain ⟨xn, rfl⟩ := Int.eq_ofNat_of_zero_le (show 0 ≤ x by omega)
        obtain ⟨yn, rfl⟩ := Int.eq_ofNat_of_zero_le (show 0 ≤ y by omega)
        rw [Int.toNat_natCast, Int.toNat_natCast] at htk
        have HTK := Lib.hid htk
        have hwx : IntKind.u64.wrap (xn : Int) = (xn : Int) := IntWalk.u64_in _ (by omega)
        have hwy : IntKind.u64.wrap (yn : Int) = (yn : Int) := IntWalk.u64_in _ (by omega)
        have hx6 : xn < 65536 := by omega
        have hy6 : yn < 65536 := by omega
        have HCE : Hid (∀ w', Kept (fun i => W.heap.size ≤ i) W w' → w'.cell? ⟨b, o + k * 2, none⟩ = some (.int .i64 xn) ∧ w'.cell? ⟨b, o + k * 2 + 1, none⟩ = some (.int .i64 yn)) := Lib.hid (fun w' hk => ⟨hk.cell (p := ⟨b, o + k * 2, none⟩) (show ¬ W.heap.size ≤ b by omega) hc0, hk.cell (p := ⟨b, o + k * 2 + 1, none⟩) (show ¬ W.heap.size ≤ b by omega) hc1⟩)
        obtain ⟨M, hM⟩ : ∃ M, M = hd ++ bytX (l.take k) := ⟨_, rfl⟩
        have HLM : Hid (M.length = 6 + 4 * k) := Lib.hid (by rw [hM, List.length_append, HLH.out, bytX_len, List.length_take, Nat.min_eq_left (by omega)])
        rw [← hM] at HO
        have HME := Lib.hid hM
        have HL2 : Hid (M.length + (be xn 2).length = 6 + 4 * k + 2) := Lib.hid (by rw [HLM.out, be_len])
        have HL4 : Hid ((M ++ be xn 2).length + (be yn 2).length = 6 + 4 * (k + 1)) := Lib.hid (by rw [List.length_append, HLM.out, be_len, be_len]; omega)
        have hk9 : k ≤ 8 := by omega
        obtain ⟨g0, g1⟩ := HCE.out _ HK.out
        clear hM htk hc0 hc1 hp hlt' hb v1 v2 v3 v4 v5 hk
        go_wp2_with (first
          | (at_builtin; refine wpList_append_Own28 22 5 i0 Try.underlying22 hi0 hz0 hz1 hz2 rfl _ rfl (.tmp 25) (.tmp 33) rfl W.heap.size (.slice oa (6 + 4 * k) oc) M rfl HO3.out (fun _ => True) (.slice ba3 2 bc3) (be xn 2) rfl HBV3.out (by have := HL2.out; omega) HK3.out.size (6 + 4 * k + 2) HL2.out ?_; intro a5 c5 w5 ho5 hk5; have HO5 := Lib.hid ho5; have HK5 := Lib.hid (HK3.out.trans hk5 (fun _ _ h => h)); clear ho5 hk5 e0 e1 e2 g0 g1; obtain ⟨e0, e1, e2⟩ := HTEN.out _ HK5.out; obtain ⟨g0, g1⟩ := HCE.out _ HK5.out)
          | (at_builtin; refine wpList_append_Own28 22 5 i0 Try.underlying22 hi0 hz0 hz1 hz2 rfl _ rfl (.tmp 35) (.tmp 43) rfl W.heap.size (.slice a5 (6 + 4 * k + 2) c5) (M ++ be xn 2) rfl HO6.out (fun _ => True) (.slice ba6 2 bc6) (be yn 2) rfl HBV6.out (by have := HL4.out; omega) HK6.out.size (6 + 4 * (k + 1)) HL4.out ?_; intro a8 c8 w8 ho8 hk8; have HO8 := Lib.hid ho8; have HK8 := Lib.hid (HK6.out.trans hk8 (fun _ _ h => h)); clear ho8 hk8 e0 e1 e2 g0 g1; obtain ⟨e0, e1, e2⟩ := HTEN.out _ HK8.out)
          | (have hm := HO5; clear hm; go_at_call 69; (with_reducible refine (HBI2.out yn w5 hy6).mono ?_); rintro e w6 ⟨ba6, bc6, rfl, hbv, hkb⟩; have HBV6 := Lib.hid hbv; have HO6 := Lib.hid (HO5.out.kept hkb (fun _ _ h => h)); have HK6 := Lib.hid (HK5.out.trans hkb (fun _ _ h => absurd h (fun h => h))); clear hbv hkb e0 e1 e2 g0 g1; obtain ⟨e0, e1, e2⟩ := HTEN.out _ HK6.out; obtain ⟨g0, g1⟩ := HCE.out _ HK6.out)
          | (go_at_call 69; (with_reducible refine (HBI2.out xn wr hx6).mono ?_); rintro e w3 ⟨ba3, bc3, rfl, hbv, hkb⟩; have HBV3 := Lib.hid hbv; have HO3 := Lib.hid (HO.out.kept hkb (fun _ _ h => h)); have HK3 := Lib.hid (HK.out.trans hkb (fun _ _ h => absurd h (fun h => h))); clear hbv hkb e0 e1 e2 g0 g1; obtain ⟨e0, e1, e2⟩ := HTEN.out _ HK3.out; obtain ⟨g0, g1⟩ := HCE.out _ HK3.out))
        have hkr := HKR.out
        exact ⟨⟨k + 1, _, _, by omega, by go_num, rfl, by rw [HTK.out, ← List.append_assoc, ← List.append_assoc, ← HME.out]; exact HO8.out, HK8.out⟩, by simp [RowKit.intOf]; omega⟩
      · obtain rfl : k = n := by omega
        have hfin : hd ++ bytX (l.take k) = bytI (m : Int) (s : Int) l := by
          rw [HN.out, List.take_length, HHD.out]
          unfold bytI headI
          rw [Int.toNat_natCast, Int.toNat_natCast, ← HN.out, one28 m (by omega), one28 k (by omega)]
          simp only [List.append_assoc, List.cons_append, List.nil_append]
        go_wp2_with fail
        go_ret
        exact ⟨_, rfl, by rw [← hfin]; exact HO.out.bsl.mono (fun i _ h => Nat.le_trans (Nat.le_of_lt HSZ.out) h), HK0.out.trans HK.out (fun i hi h => absurd h (by have := HSZ.out; omega))⟩
end Go.Proofs.Ytbacnkndllifaaa
namespace Go.Proofs.Ytbacnkndllifaaa
open Go.RowKit
set_option linter.unusedVariables false

theorem get_be28 {w n : Nat} {t : List Int} (h1 : 1 ≤ w) (h8 : w ≤ 8) (hn : n < 256 ^ w) : (⟨be n w ++ t, 0⟩ : ISt).get (w : Int) = (⟨t, 0⟩, (n : Int)) := by
  have hr : (⟨be n w ++ t, 0⟩ : ISt).raw (w : Int) = (⟨t, 0⟩, be n w) := by
    unfold ISt.raw
    rw [if_pos rfl, if_neg (by omega), if_neg (by rw [List.length_append, be_len]; omega)]
    simp only [Int.toNat_natCast]
    rw [List.drop_left' (be_len n w), List.take_left' (be_len n w)]
  unfold ISt.get
  rw [if_neg (by omega), hr, num_be, Nat.mod_eq_of_lt hn]
theorem upto_be28 {w n : Nat} {most : Int} {t : List Int} (h1 : 1 ≤ w) (h8 : w ≤ 8) (hn : n < 256 ^ w) (hm : (n : Int) ≤ most) : (⟨be n w ++ t, 0⟩ : ISt).upto (w : Int) most = (⟨t, 0⟩, (n : Int)) := by
  have hr : (⟨be n w ++ t, 0⟩ : ISt).raw (w : Int) = (⟨t, 0⟩, be n w) := by
    unfold ISt.raw
    rw [if_pos rfl, if_neg (by omega), if_neg (by rw [List.length_append, be_len]; omega)]
    simp only [Int.toNat_natCast]
    rw [List.drop_left' (be_len n w), List.take_left' (be_len n w)]
  unfold ISt.upto
  rw [if_neg (by omega), hr, if_pos rfl, num_be, Nat.mod_eq_of_lt hn, if_neg (by omega)]
theorem raw_ok28 {s : ISt} {w : Nat} (h : (s.raw (w : Int)).1.err = 0) : s.err = 0 ∧ s.l = (s.raw (w : Int)).2 ++ (s.raw (w : Int)).1.l ∧ (s.raw (w : Int)).2.length = w := by
  by_cases he : s.err = 0
  · by_cases hl : (s.l.length : Int) < (w : Int)
    · have hr : s.raw (w : Int) = (⟨[], 3⟩, []) := by unfold ISt.raw; rw [if_pos he, if_neg (by omega), if_pos hl]
      rw [hr] at h; cases h
    · have hr : s.raw (w : Int) = (⟨s.l.drop w, 0⟩, s.l.take w) := by unfold ISt.raw; rw [if_pos he, if_neg (by omega), if_neg hl, Int.toNat_natCast]
      rw [hr]
      exact ⟨he, (List.take_append_drop w s.l).symm, by rw [List.length_take]; omega⟩
  · have hr : s.raw (w : Int) = (s, []) := by unfold ISt.raw; rw [if_neg he]
    rw [hr] at h; exact absurd h he
theorem get_ok28 {s : ISt} {w : Nat} (hB : IsB s.l) (h1 : 1 ≤ w) (h8 : w ≤ 8) (h : (s.get (w : Int)).1.err = 0) :
    ∃ n : Nat, s.err = 0 ∧ (s.get (w : Int)).2 = (n : Int) ∧ n < 256 ^ w ∧ s.l = be n w ++ (s.get (w : Int)).1.l := by
  have hg : s.get (w : Int) = ((s.raw (w : Int)).1, (num (s.raw (w : Int)).2 : Int)) := by unfold ISt.get; rw [if_neg (by omega)]
  rw [hg] at h ⊢
  obtain ⟨h0, h2, h3⟩ := raw_ok28 h
  have hb : IsB (s.raw (w : Int)).2 := fun z hz => hB z (by rw [h2]; exact List.mem_append_left _ hz)
  refine ⟨num (s.raw (w : Int)).2, h0, rfl, by have := num_lt _ hb; rwa [h3] at this, ?_⟩
  have := be_num _ hb
  rw [h3] at this
  rw [this]
  exact h2
theorem upto_ok28 {s : ISt} {w : Nat} {most : Int} (hB : IsB s.l) (h1 : 1 ≤ w) (h8 : w ≤ 8) (h : (s.upto (w : Int) most).1.err = 0) :
    ∃ n : Nat, s.err = 0 ∧ (s.upto (w : Int) most).2 = (n : Int) ∧ (n : Int) ≤ most ∧ n < 256 ^ w ∧ s.l = be n w ++ (s.upto (w : Int) most).1.l := by
  by_cases hr : (s.raw (w : Int)).1.err = 0
  · by_cases hm : most < (num (s.raw (w : Int)).2 : Int)
    · have hu : s.upto (w : Int) most = (⟨[], 4⟩, 0) := by unfold ISt.upto; rw [if_neg (by omega), if_pos hr, if_pos hm]
      rw [hu] at h; cases h
    · have hu : s.upto (w : Int) most = ((s.raw (w : Int)).1, (num (s.raw (w : Int)).2 : Int)) := by unfold ISt.upto; rw [if_neg (by omega), if_pos hr, if_neg hm]
      rw [hu]
      obtain ⟨h0, h2, h3⟩ := raw_ok28 hr
      have hb : IsB (s.raw (w : Int)).2 := fun z hz => hB z (by rw [h2]; exact List.mem_append_left _ hz)
      refine ⟨num (s.raw (w : Int)).2, h0, rfl, by omega, by have := num_lt _ hb; rwa [h3] at this, ?_⟩
      have := be_num _ hb
      rw [h3] at this
      rw [this]
      exact h2
  · have hu : s.upto (w : Int) most = ((s.raw (w : Int)).1, 0) := by unfold ISt.upto; rw [if_neg (by omega), if_neg hr]
    rw [hu] at h; exact absurd h hr
/-- One extent, so many extents, got. -/
def gx28 (s : ISt) : ISt × Xt := (((s.get 2).1.get 2).1, ((s.get 2).2, ((s.get 2).1.get 2).2))
def gxs28 : Nat → ISt → ISt × List Xt
  | 0, s => (s, [])
  | n + 1, s => ((gx28 (gxs28 n s).1).1, (gxs28 n s).2 ++ [(gx28 (gxs28 n s).1).2])
theorem gxs_len28 (n : Nat) (s : ISt) : (gxs28 n s).2.length = n := by
  induction n with
  | zero => rfl
  | succ n ih => show ((gxs28 n s).2 ++ [_]).length = n + 1; simp [ih]
/-- The reader behind the head. -/
def hm28 (b : List Int) : ISt × Int := (⟨b, 0⟩ : ISt).upto 1 2
def hn28 (b : List Int) : ISt × Int := (hm28 b).1.upto 1 8
def hs28 (b : List Int) : ISt × Int := (hn28 b).1.get 4
def rest28 (b : List Int) : ISt × List Xt := gxs28 (hn28 b).2.toNat (hs28 b).1
/-- What is got of bytes: an error and an inode. -/
def got28 (b : List Int) : Int × Int × Int × List Xt :=
  if b = [] then (0, 0, 0, []) else if (rest28 b).1.done ≠ 0 then ((rest28 b).1.done, 0, 0, [])
  else if chk28 (hm28 b).2 (hs28 b).2 (rest28 b).2 ≠ 0 then (4, 0, 0, []) else (0, (hm28 b).2, (hs28 b).2, (rest28 b).2)
theorem gxs_be28 {l : List Xt} {t : List Int} (h : ∀ e ∈ l, vE e) {k : Nat} (hk : k ≤ l.length) : gxs28 k ⟨bytX l ++ t, 0⟩ = (⟨bytX (l.drop k) ++ t, 0⟩, l.take k) := by
  induction k with
  | zero => rfl
  | succ k ih =>
    have hlt : k < l.length := by omega
    obtain ⟨v1, v2, v3, v4, v5⟩ := h _ (xth_mem hlt)
    have hd : bytX (l.drop k) = be (xth l k).1.toNat 2 ++ (be (xth l k).2.toNat 2 ++ bytX (l.drop (k + 1))) := by
      rw [List.drop_eq_getElem_cons hlt, ← xth_eq hlt]
      unfold bytX
      rw [List.flatMap_cons, List.append_assoc]
    have e1 : (⟨bytX (l.drop k) ++ t, 0⟩ : ISt).get 2 = (⟨be (xth l k).2.toNat 2 ++ (bytX (l.drop (k + 1)) ++ t), 0⟩, (xth l k).1) := by
      rw [hd, List.append_assoc, List.append_assoc]
      have := get_be28 (w := 2) (n := (xth l k).1.toNat) (t := be (xth l k).2.toNat 2 ++ (bytX (l.drop (k + 1)) ++ t)) (by omega) (by omega) (by omega)
      rw [Int.toNat_of_nonneg (by omega)] at this
      exact this
    have e2 : (⟨be (xth l k).2.toNat 2 ++ (bytX (l.drop (k + 1)) ++ t), 0⟩ : ISt).get 2 = (⟨bytX (l.drop (k + 1)) ++ t, 0⟩, (xth l k).2) := by
      have := get_be28 (w := 2) (n := (xth l k).2.toNat) (t := bytX (l.drop (k + 1)) ++ t) (by omega) (by omega) (by omega)
      rw [Int.toNat_of_nonneg (by omega)] at this
      exact this
    show ((gx28 (gxs28 k _).1).1, (gxs28 k _).2 ++ [(gx28 (gxs28 k _).1).2]) = _
    rw [ih (by omega)]
    unfold gx28
    simp only [e1, e2]
    rw [xtake_snoc hlt]
/-- What is put is got. -/
theorem got_put28 {m s : Int} {l : List Xt} (h : chk28 m s l = 0) : got28 (bytI m s l) = (0, m, s, l) := by
  obtain ⟨hm0, hm2, hs0, hs5, ⟨hve, _⟩, hl8⟩ := chk_zero h
  have hb : bytI m s l = be m.toNat 1 ++ (be l.length 1 ++ (be s.toNat 4 ++ (bytX l ++ []))) := by unfold bytI headI; simp only [List.append_assoc, List.append_nil]
  have e1 : hm28 (bytI m s l) = (⟨be l.length 1 ++ (be s.toNat 4 ++ (bytX l ++ [])), 0⟩, m) := by
    have := upto_be28 (w := 1) (n := m.toNat) (most := 2) (t := be l.length 1 ++ (be s.toNat 4 ++ (bytX l ++ []))) (by omega) (by omega) (by omega) (by omega)
    rw [Int.toNat_of_nonneg hm0] at this
    unfold hm28
    rw [hb]
    exact this
  have e2 : hn28 (bytI m s l) = (⟨be s.toNat 4 ++ (bytX l ++ []), 0⟩, (l.length : Int)) := by
    unfold hn28
    rw [e1]
    exact upto_be28 (w := 1) (n := l.length) (most := 8) (t := be s.toNat 4 ++ (bytX l ++ [])) (by omega) (by omega) (by omega) (by omega)
  have e3 : hs28 (bytI m s l) = (⟨bytX l ++ [], 0⟩, s) := by
    have := get_be28 (w := 4) (n := s.toNat) (t := bytX l ++ []) (by omega) (by omega) (by omega)
    rw [Int.toNat_of_nonneg hs0] at this
    unfold hs28
    rw [e2]
    exact this
  have e4 : rest28 (bytI m s l) = (⟨[], 0⟩, l) := by
    unfold rest28
    rw [e2, e3, Int.toNat_natCast, gxs_be28 hve (Nat.le_refl _), List.drop_length, List.take_length]
    rfl
  unfold got28
  rw [if_neg (fun hh => by have := congrArg List.length hh; unfold bytI at this; rw [List.length_append, headI_len] at this; simp at this), e4, e1, e3, if_neg (fun hh => hh rfl), h, if_neg (fun hh => hh rfl)]
theorem gxs_ok28 {n : Nat} {s : ISt} (hB : IsB s.l) (h : (gxs28 n s).1.err = 0) : s.err = 0 ∧ s.l = bytX (gxs28 n s).2 ++ (gxs28 n s).1.l := by
  induction n with
  | zero => exact ⟨h, rfl⟩
  | succ n ih =>
    have h : (((gxs28 n s).1.get 2).1.get 2).1.err = 0 := h
    have hB2 : IsB (gxs28 n s).1.l → IsB ((gxs28 n s).1.get 2).1.l := fun hb z hz => by
      unfold ISt.get at hz
      rw [if_neg (by decide)] at hz
      unfold ISt.raw at hz
      split at hz
      · split at hz
        · cases hz
        · split at hz
          · cases hz
          · exact hb z (List.mem_of_mem_drop hz)
      · exact hb z hz
    have hg : ∀ k, IsB (gxs28 k s).1.l := fun k => by
      induction k with
      | zero => exact hB
      | succ k ihk =>
        have hq : ∀ (r : ISt), IsB r.l → IsB (r.get 2).1.l := fun r hb z hz => by
          unfold ISt.get at hz
          rw [if_neg (by decide)] at hz
          unfold ISt.raw at hz
          split at hz
          · split at hz
            · cases hz
            · split at hz
              · cases hz
              · exact hb z (List.mem_of_mem_drop hz)
          · exact hb z hz
        exact hq _ (hq _ ihk)
    obtain ⟨y, h1, h2, h3, h4⟩ := get_ok28 (w := 2) (hB2 (hg n)) (by omega) (by omega) h
    obtain ⟨x, g1, g2, g3, g4⟩ := get_ok28 (w := 2) (hg n) (by omega) (by omega) h1
    obtain ⟨i1, i2⟩ := ih g1
    refine ⟨i1, ?_⟩
    show s.l = bytX ((gxs28 n s).2 ++ [(((gxs28 n s).1.get 2).2, (((gxs28 n s).1.get 2).1.get 2).2)]) ++ (((gxs28 n s).1.get 2).1.get 2).1.l
    rw [bytX_snoc]
    simp only [show ((gxs28 n s).1.get 2).2 = (x : Int) from g2, show (((gxs28 n s).1.get 2).1.get 2).2 = (y : Int) from h2, Int.toNat_natCast]
    rw [i2]
    have g4 : (gxs28 n s).1.l = be x 2 ++ ((gxs28 n s).1.get 2).1.l := g4
    have h4 : ((gxs28 n s).1.get 2).1.l = be y 2 ++ (((gxs28 n s).1.get 2).1.get 2).1.l := h4
    conv => lhs; rw [g4, h4]
    simp only [List.append_assoc]
theorem isB_get28 {s : ISt} (h : IsB s.l) {w : Nat} (hw : 1 ≤ w ∧ w ≤ 8) : IsB (s.get (w : Int)).1.l := fun z hz => by
  unfold ISt.get at hz
  rw [if_neg (by omega)] at hz
  unfold ISt.raw at hz
  split at hz
  · split at hz
    · cases hz
    · split at hz
      · cases hz
      · exact h z (List.mem_of_mem_drop hz)
  · exact h z hz
theorem isB_upto28 {s : ISt} (h : IsB s.l) {w : Nat} {most : Int} (hw : 1 ≤ w ∧ w ≤ 8) : IsB (s.upto (w : Int) most).1.l := fun z hz => by
  have hraw : IsB (s.raw (w : Int)).1.l := fun z hz => by
    unfold ISt.raw at hz
    split at hz
    · split at hz
      · cases hz
      · split at hz
        · cases hz
        · exact h z (List.mem_of_mem_drop hz)
    · exact h z hz
  unfold ISt.upto at hz
  rw [if_neg (by omega)] at hz
  split at hz
  · split at hz
    · cases hz
    · exact hraw z hz
  · exact hraw z hz
theorem upto_le28 (s : ISt) (w : Int) {most : Int} (hm : 0 ≤ most) : 0 ≤ (s.upto w most).2 ∧ (s.upto w most).2 ≤ most := by
  unfold ISt.upto
  split
  · exact ⟨Int.le_refl _, hm⟩
  · split
    · split
      · exact ⟨Int.le_refl _, hm⟩
      · rename_i h; exact ⟨by show (0 : Int) ≤ (num _ : Int); omega, by show (num _ : Int) ≤ most; omega⟩
    · exact ⟨Int.le_refl _, hm⟩
theorem get_le28 {s : ISt} (hB : IsB s.l) {w : Nat} (h1 : 1 ≤ w) (h8 : w ≤ 8) : 0 ≤ (s.get (w : Int)).2 ∧ (s.get (w : Int)).2 < ((256 ^ w : Nat) : Int) := by
  unfold ISt.get
  rw [if_neg (by omega)]
  by_cases he : s.err = 0
  · by_cases hl : (s.l.length : Int) < (w : Int)
    · have hr : s.raw (w : Int) = (⟨[], 3⟩, []) := by unfold ISt.raw; rw [if_pos he, if_neg (by omega), if_pos hl]
      rw [hr]
      have := Nat.pow_pos (n := w) (show 0 < 256 by decide)
      exact ⟨Int.le_refl _, by show (0 : Int) < _; omega⟩
    · have hr : s.raw (w : Int) = (⟨s.l.drop w, 0⟩, s.l.take w) := by unfold ISt.raw; rw [if_pos he, if_neg (by omega), if_neg hl, Int.toNat_natCast]
      rw [hr]
      have := num_lt _ (hB.take w)
      rw [List.length_take, Nat.min_eq_left (by omega)] at this
      exact ⟨by show (0 : Int) ≤ (num _ : Int); omega, Int.ofNat_lt.2 this⟩
  · have hr : s.raw (w : Int) = (s, []) := by unfold ISt.raw; rw [if_neg he]
    rw [hr]
    have := Nat.pow_pos (n := w) (show 0 < 256 by decide)
    exact ⟨Int.le_refl _, by show (0 : Int) < _; omega⟩
/-- What is got has these bytes. -/
theorem got_bytes28 {b : List Int} {m s : Int} {l : List Xt} (hB : IsB b) (hb : b ≠ []) (h : got28 b = (0, m, s, l)) : chk28 m s l = 0 ∧ bytI m s l = b := by
  unfold got28 at h
  rw [if_neg hb] at h
  by_cases hd : (rest28 b).1.done ≠ 0
  · rw [if_pos hd] at h
    exact absurd (congrArg (·.1) h) hd
  · rw [if_neg hd] at h
    by_cases hc : chk28 (hm28 b).2 (hs28 b).2 (rest28 b).2 ≠ 0
    · rw [if_pos hc] at h
      exact absurd (congrArg (·.1) h) (by show ¬ (4 : Int) = 0; decide)
    · rw [if_neg hc] at h
      simp only [Prod.mk.injEq, true_and] at h
      obtain ⟨h1, h2, h3⟩ := h
      have hc0 : chk28 (hm28 b).2 (hs28 b).2 (rest28 b).2 = 0 := Classical.not_not.1 hc
      have hd0 : (rest28 b).1.err = 0 ∧ (rest28 b).1.l = [] := by
        have hd : (rest28 b).1.done = 0 := Classical.not_not.1 hd
        unfold ISt.done at hd
        by_cases hh : (rest28 b).1.err = 0 ∧ 0 < (rest28 b).1.l.length
        · rw [if_pos hh] at hd; cases hd
        · rw [if_neg hh] at hd
          exact ⟨hd, List.eq_nil_of_length_eq_zero (by have := fun hl => hh ⟨hd, hl⟩; omega)⟩
      have B1 : IsB (hm28 b).1.l := isB_upto28 (s := ⟨b, 0⟩) (w := 1) hB (by omega)
      have B2 : IsB (hn28 b).1.l := isB_upto28 (s := (hm28 b).1) (w := 1) B1 (by omega)
      have B3 : IsB (hs28 b).1.l := isB_get28 (s := (hn28 b).1) (w := 4) B2 (by omega)
      obtain ⟨g0, g1⟩ := gxs_ok28 (n := (hn28 b).2.toNat) B3 hd0.1
      obtain ⟨sn, s0, s1, s2, s3⟩ := get_ok28 (s := (hn28 b).1) (w := 4) B2 (by omega) (by omega) g0
      obtain ⟨nn, n0, n1, n2, n3, n4⟩ := upto_ok28 (s := (hm28 b).1) (w := 1) (most := 8) B1 (by omega) (by omega) s0
      obtain ⟨mn, _, m1, m2, m3, m4⟩ := upto_ok28 (s := ⟨b, 0⟩) (w := 1) (most := 2) hB (by omega) (by omega) n0
      have g1 : (hs28 b).1.l = bytX (rest28 b).2 ++ (rest28 b).1.l := g1
      have s3 : (hn28 b).1.l = be sn 4 ++ (hs28 b).1.l := s3
      have n4 : (hm28 b).1.l = be nn 1 ++ (hn28 b).1.l := n4
      have m4 : b = be mn 1 ++ (hm28 b).1.l := m4
      have m1 : (hm28 b).2 = (mn : Int) := m1
      have n1 : (hn28 b).2 = (nn : Int) := n1
      have s1 : (hs28 b).2 = (sn : Int) := s1
      have hln : (rest28 b).2.length = nn := by
        have := gxs_len28 (hn28 b).2.toNat (hs28 b).1
        rw [n1, Int.toNat_natCast] at this
        unfold rest28
        rw [n1, Int.toNat_natCast]
        exact this
      rw [← h1, ← h2, ← h3]
      refine ⟨hc0, ?_⟩
      unfold bytI headI
      rw [m1, s1, hln, Int.toNat_natCast, Int.toNat_natCast]
      conv => rhs; rw [m4, n4, s3, g1, hd0.2]
      simp only [List.append_assoc, List.append_nil]
end Go.Proofs.Ytbacnkndllifaaa
namespace Go.Proofs.Ytbacnkndllifaaa
open Go.RowKit
set_option linter.unusedVariables false
set_option linter.unusedSimpArgs false

theorem celX_set28 (ps : List Xt) (k : Nat) (hk : k < ps.length) (x : Xt) : celX (ps.set k x) = ((celX ps).set (k * 2) (.int .i64 x.1)).set (k * 2 + 1) (.int .i64 x.2) := by
  induction ps generalizing k with
  | nil => exact absurd hk (by simp)
  | cons p ps ih =>
    have e : ∀ (p : Xt) ps, celX (p :: ps) = [.int .i64 p.1, .int .i64 p.2] ++ celX ps := fun p ps => by unfold celX; rw [List.flatMap_cons]
    cases k with
    | zero => rw [List.set_cons_zero, e, e]; rfl
    | succ k =>
      rw [List.set_cons_succ, e, e, ih k (by simpa using hk)]
      rw [show (k + 1) * 2 = k * 2 + 1 + 1 by omega]
      rfl
/-- Block r is a row of these extents, and no more. -/
def RowX (t : TypeId) (w : World) (r : Nat) (ps : List Xt) : Prop := w.heap[r]? = some (.cells (celX ps).toArray t (0, 0))
theorem RowX.set {t : TypeId} {w : World} {r : Nat} {ps : List Xt} (h : RowX t w r ps) (k : Nat) (hk : k < ps.length) (x : Xt) : RowX t ((w.setCell ⟨r, k * 2, none⟩ (.int .i64 x.1)).setCell ⟨r, k * 2 + 1, none⟩ (.int .i64 x.2)) r (ps.set k x) := by
  have := heap_setCell_same _ r (k * 2 + 1) _ _ (.int .i64 x.2) (heap_setCell_same w r (k * 2) _ _ (.int .i64 x.1) h)
  unfold RowX
  rw [this, celX_set28 ps k hk]
  simp
theorem RowX.at_ {t : TypeId} {w : World} {r : Nat} {ps : List Xt} (h : RowX t w r ps) {j : Nat} (hj : j < ps.length) : w.cell? ⟨r, j * 2, none⟩ = some (.int .i64 (xth ps j).1) ∧ w.cell? ⟨r, j * 2 + 1, none⟩ = some (.int .i64 (xth ps j).2) := by
  obtain ⟨h1, h2⟩ := celX_at hj
  exact ⟨by rw [cell_of_row _ _ _ _ _ _ h, List.getElem?_toArray, h1], by rw [cell_of_row _ _ _ _ _ _ h, List.getElem?_toArray, h2]⟩
theorem RowX.sl {t : TypeId} {w : World} {r c : Nat} {ps : List Xt} {F : Nat → Prop} (h : RowX t w r ps) (hF : F r) (hc : ps.length ≤ c) (hm : c ≤ maxLen) : XSl w F (.slice (some ⟨r, 0, none⟩) ps.length c) ps :=
  ⟨_, c, rfl, hc, hm, (fun h => by cases h), fun _ => ⟨r, 0, rfl, hF, heap_lt h, fun j hj => by
    have := h.at_ hj
    rw [Nat.zero_add]
    exact this⟩⟩
theorem made_celX (n : Nat) : (madeCells (#[.int .i64 0, .int .i64 0] : Array Value) (n * 2)).toList = celX (List.replicate n (0, 0)) := by
  refine List.ext_getElem? (fun m => ?_)
  have hl : (celX (List.replicate n ((0, 0) : Xt))).length = n * 2 := by rw [celX_len, List.length_replicate]
  by_cases hm : m < n * 2
  · have h1 : (madeCells (#[.int .i64 0, .int .i64 0] : Array Value) (n * 2)).toList[m]? = some ((#[.int .i64 0, .int .i64 0] : Array Value)[m % 2]!) := by
      unfold madeCells
      simp [hm]
    rw [h1]
    obtain ⟨h2, h3⟩ := celX_at (l := List.replicate n ((0, 0) : Xt)) (i := m / 2) (by rw [List.length_replicate]; omega)
    have hx : xth (List.replicate n ((0, 0) : Xt)) (m / 2) = (0, 0) := by rw [xth_eq (by rw [List.length_replicate]; omega)]; simp
    rw [hx] at h2 h3
    by_cases hp : m % 2 = 0
    · rw [show m / 2 * 2 = m by omega] at h2
      rw [h2, hp]; rfl
    · rw [show m / 2 * 2 + 1 = m by omega] at h3
      rw [h3, show m % 2 = 1 by omega]; rfl
  · rw [List.getElem?_eq_none (by rw [Array.length_toList, size_madeCells]; omega), List.getElem?_eq_none (by rw [hl]; omega)]
/-- What make gives. -/
theorem RowX.made {t : TypeId} {w : World} {B n g : Nat} (h : w.ownsRow B t 2 (.slice (some ⟨g, 0, none⟩) n n) n (madeCells (#[.int .i64 0, .int .i64 0] : Array Value) (n * 2)).toList) : RowX t w g (List.replicate n (0, 0)) := by
  rcases h.2 with ⟨hv, _⟩ | ⟨g', cap, cur, hv, hb, hr, hc, hm, hs, ht⟩
  · cases hv
  · injection hv with hv hn hcap
    injection hv with hv
    injection hv with hv _ _
    subst hv hcap
    unfold RowX
    rw [hr]
    have e : cur.toList = celX (List.replicate n (0, 0)) := by
      have h1 := List.take_of_length_le (l := cur.toList) (i := n * 2) (by simp [hs])
      exact (h1.symm.trans ht).trans (made_celX n)
    rw [← e]
end Go.Proofs.Ytbacnkndllifaaa
namespace Go.Proofs.Ytbacnkndllifaaa
open Go.RowKit
set_option linter.unusedVariables false

def GetRel (B : World) (F : Nat → Prop) (g r n : Nat) (s : ISt) (xg : Nat) (m sv : Int) (iv : Value) (wr : World) : Prop :=
  ∃ (k : Nat) (ps : List Xt), k ≤ n ∧ iv = .int .i64 k ∧ ps.length = n ∧ ps.take k = (gxs28 k s).2 ∧ RowX 81 wr r ps ∧ InAt wr F g (gxs28 k s).1 ∧ IAt 47 wr xg m sv (.slice (some ⟨r, 0, none⟩) n n) ∧ Kept (fun i => B.heap.size ≤ i) B wr
set_option maxRecDepth 100000 in
set_option maxHeartbeats 20000000 in
theorem iGet_some (v : Value) (b : List Int) (F : Nat → Prop) (w : World) (h : BSl w F v b) (hl : b.length ≤ 1000000) (hb : b.length ≠ 0) :
    Calls Try.prog 39 #[v] w (IRes (got28 b).1 (got28 b).2.1 (got28 b).2.2.1 (got28 b).2.2.2 w) := by
  obtain ⟨i0, hi0, hz0, hz1, hz2⟩ := info_parts info_xt
  obtain ⟨a, cap, rfl, _⟩ := id h
  have hbz2 : ((b.length : Int) == 0) = false := by simpa using hb
  have hIB := h.isB
  have hB := Lib.hid h
  obtain ⟨p1, hp1⟩ : ∃ p, p = hm28 b := ⟨_, rfl⟩
  obtain ⟨p2, hp2⟩ : ∃ p, p = hn28 b := ⟨_, rfl⟩
  obtain ⟨p3, hp3⟩ : ∃ p, p = hs28 b := ⟨_, rfl⟩
  have q2 : p2 = p1.1.upto 1 8 := by rw [hp2, hp1]; rfl
  have q3 : p3 = p2.1.get 4 := by rw [hp3, hp2]; rfl
  have Q1 : Hid (p1 = (⟨b, 0⟩ : ISt).upto 1 2) := Lib.hid (by rw [hp1]; rfl)
  have Q2 := Lib.hid q2
  have Q3 := Lib.hid q3
  have HG : Hid (got28 b = (if (gxs28 p2.2.toNat p3.1).1.done ≠ 0 then ((gxs28 p2.2.toNat p3.1).1.done, 0, 0, []) else if chk28 p1.2 p3.2 (gxs28 p2.2.toNat p3.1).2 ≠ 0 then (4, 0, 0, []) else (0, p1.2, p3.2, (gxs28 p2.2.toNat p3.1).2))) := Lib.hid (by
    unfold got28
    rw [if_neg (fun h => hb (by rw [h]; rfl)), hp1, hp2, hp3]; rfl)
  clear hp1 hp2 hp3 q2 q3
  obtain ⟨S1, mv⟩ := p1
  obtain ⟨S2, nv⟩ := p2
  obtain ⟨S3, sv⟩ := p3
  simp only at Q2 Q3 HG
  have HU1 := Lib.hid (fun g F w (h : InAt w F g ⟨b, 0⟩) => Upto_any g ⟨b, 0⟩ 1 2 F w h (by decide))
  have HU2 := Lib.hid (fun g F w (h : InAt w F g S1) => Upto_any g S1 1 8 F w h (by decide))
  have HU3 := Lib.hid (fun g F w (h : InAt w F g S2) => Get_any g S2 4 F w h)
  rw [← Q1.out] at HU1
  rw [← Q2.out] at HU2
  rw [← Q3.out] at HU3
  simp only at HU1 HU2 HU3
  have hmr : 0 ≤ mv ∧ mv ≤ 2 := by have := upto_le28 ⟨b, 0⟩ 1 (most := 2) (by decide); rw [← Q1.out] at this; exact this
  have hnr : 0 ≤ nv ∧ nv ≤ 8 := by have := upto_le28 S1 1 (most := 8) (by decide); rw [← Q2.out] at this; exact this
  have hB1 : IsB S1.l := by have := isB_upto28 (s := ⟨b, 0⟩) (w := 1) (most := 2) hIB (by omega); rw [show (((1 : Nat) : Int)) = 1 from rfl, ← Q1.out] at this; exact this
  have hB2 : IsB S2.l := by have := isB_upto28 (s := S1) (w := 1) (most := 8) hB1 (by omega); rw [show (((1 : Nat) : Int)) = 1 from rfl, ← Q2.out] at this; exact this
  have hsr : 0 ≤ sv ∧ sv < 4294967296 := by have := get_le28 (s := S2) (w := 4) hB2 (by omega) (by omega); rw [show (((4 : Nat) : Int)) = 4 from rfl, ← Q3.out] at this; exact this
  obtain ⟨nn, rfl⟩ := Int.eq_ofNat_of_zero_le hnr.1
  rw [Int.toNat_natCast] at HG
  have hn8 : nn ≤ 8 := by omega
  have hwm : IntKind.i64.wrap mv = mv := IntWalk.i64_in _ (by omega)
  have hws : IntKind.i64.wrap sv = sv := IntWalk.i64_in _ (by omega)
  have hwn : IntKind.i64.wrap (nn : Int) = (nn : Int) := IntWalk.i64_in _ (by omega)
  clear h hb hIB
  go_enter Try.func39, Try.ntmps39
  go_wp2_with (first
    | (go_at_call 65; refine (Of_any _ b F _ (hB.out.kept ((Kept.refl NoB w).alloc _) (fun _ _ h => h)) hl).mono ?_; rintro e w1 ⟨g, rfl, hg1, hg2, hin, hk⟩; have HI := Lib.hid hin; have HK1 := Lib.hid hk; clear hin hk)
    | (have hm := HM2; clear hm; go_at_call 66; refine (HU2.out _ _ _ HI.out).mono ?_; rintro e w3 ⟨rfl, hin, hk⟩; replace HI := Lib.hid hin; clear hin; have HK3 := Lib.hid hk; clear hk HM2)
    | (go_at_call 66; refine (HU1.out _ _ _ HI.out).mono ?_; rintro e w2 ⟨rfl, hin, hk⟩; replace HI := Lib.hid hin; clear hin; have HK2 := Lib.hid hk; clear hk; have HM2 := Lib.hid trivial)
    | (at_make; refine wpList_make_full _ rfl (.tmp 20) (.tmp 20) 45 rfl w3.heap.size 81 i0 _ 2 Try.underlying45 hi0 hz0 hz1 .u64 .u64 _ _ nn rfl rfl rfl rfl (by rw [hz2]; omega) (by unfold maxLen; omega) (Nat.le_refl _) ?_; intro w4 hown hgrow; have HOW := Lib.hid hown; have hkm : Kept NoB w3 w4 := (Kept.refl NoB w3).grown hgrow (fun k hk => by cases hk); have HKM := Lib.hid hkm; replace HI := Lib.hid (HI.out.kept hkm (fun _ _ h => h) (fun h => h)); clear hown hgrow hkm)
    | (go_at_call 67; refine (HU3.out _ _ _ HI.out).mono ?_; rintro e w5 ⟨rfl, hin, hk⟩; replace HI := Lib.hid hin; clear hin; have HK5 := Lib.hid hk; clear hk))
  have hz1s := HK1.out.size
  have hz2s := HK2.out.size
  have hz3s := HK3.out.size
  have hz4s := HKM.out.size
  have hz5s := HK5.out.size
  rw [show (w.alloc (.cells #[.int .i64 0, .int .i64 0, .slice none 0 0] 47)).heap.size = w.heap.size + 1 by simp] at hz1s hg1
  obtain ⟨W0, hW0⟩ : ∃ W0, W0 = w.alloc (.cells #[.int .i64 0, .int .i64 0, .slice none 0 0] 47) := ⟨_, rfl⟩
  have hW0s : W0.heap.size = w.heap.size + 1 := by rw [hW0]; simp
  rw [← hW0] at HK1 HI
  have hk06 : Kept (fun i => W0.heap.size ≤ i) W0 (w5.alloc (.cells #[.int .i64 mv, .int .i64 sv, .slice (some ⟨w3.heap.size, 0, none⟩) nn nn] 47)) := by
    have k2 := (HK1.out.mono (T := fun i => W0.heap.size ≤ i) (fun _ _ h => h.elim)).trans HK2.out (fun i hi h => by have h : i = g := h; omega)
    have k3 := k2.trans HK3.out (fun i hi h => by have h : i = g := h; omega)
    have k4 := k3.trans HKM.out (fun i hi h => h.elim)
    exact (k4.trans HK5.out (fun i hi h => by have h : i = g := h; omega)).alloc _
  have hrow : RowX 81 (w5.alloc (.cells #[.int .i64 mv, .int .i64 sv, .slice (some ⟨w3.heap.size, 0, none⟩) nn nn] 47)) w3.heap.size (List.replicate nn (0, 0)) := by
    have h0 := RowX.made HOW.out
    unfold RowX at h0 ⊢
    exact ((Kept.refl NoB w5).alloc _).heap (fun h => h) (HK5.out.heap (fun h => by have h : w3.heap.size = g := h; omega) h0)
  have hin6 := HI.out.kept ((Kept.refl NoB w5).alloc (.cells #[.int .i64 mv, .int .i64 sv, .slice (some ⟨w3.heap.size, 0, none⟩) nn nn] 47)) (fun _ _ h => h) (fun h => h)
  have hat6 := IAt.new 47 w5 mv sv (.slice (some ⟨w3.heap.size, 0, none⟩) nn nn)
  obtain ⟨FI, hFI⟩ : ∃ FI : Nat → Prop, FI = (fun k => W0.heap.size ≤ k ∧ k < g) := ⟨_, rfl⟩
  rw [← hFI] at hin6
  have HFI : Hid (∀ k, FI k → W0.heap.size ≤ k ∧ k < g) := Lib.hid (fun k h => by rw [hFI] at h; exact h)
  obtain ⟨r, hr⟩ : ∃ r, r = w3.heap.size := ⟨_, rfl⟩
  obtain ⟨xg, hxg⟩ : ∃ xg, xg = w5.heap.size := ⟨_, rfl⟩
  have hrg : g < r := by omega
  have hxr : r < xg := by have := heap_lt (show w4.heap[w3.heap.size]? = _ from RowX.made HOW.out); omega
  rw [← hr] at hk06 hrow hin6 hat6 ⊢
  rw [← hxg] at hat6 ⊢
  have H0 : Hid (GetRel W0 FI g r nn S3 xg mv sv (.int .i64 0) (w5.alloc (.cells #[.int .i64 mv, .int .i64 sv, .slice (some ⟨r, 0, none⟩) nn nn] 47))) := Lib.hid ⟨0, _, Nat.zero_le _, rfl, List.length_replicate, rfl, hrow, hin6, hat6, hk06⟩
  have hgW : W0.heap.size ≤ g := by omega
  have HRC := Lib.hid (show W0.heap.size ≤ r by omega)
  have HW0 := Lib.hid hW0
  clear hk06 hrow hin6 hat6 hFI HI HOW HKM HK1 HK2 HK3 HK5 hr hxg hW0
  go_loopw [8, 30] (fun _ i wr => GetRel W0 FI g r nn S3 xg mv sv i wr) (fun _ i _ => nn - (RowKit.intOf i).toNat)
  case atStart => exact H0.out
  case round =>
    obtain ⟨k, ps, hk, rfl, hpl, htk, hrow, hi, hat, hK⟩ := hrel
    have hk0 : (0 : Int) ≤ (k : Int) := by omega
    have HPL := Lib.hid hpl
    have HTK := Lib.hid htk
    have HRW := Lib.hid hrow
    have HI0 := Lib.hid hi
    have HAT := Lib.hid hat
    have HK := Lib.hid hK
    by_cases hlt : k < nn
    · have hk1 : (k : Int) < (nn : Int) := by omega
      have HG1 : Hid (gxs28 (k + 1) S3 = ((gx28 (gxs28 k S3).1).1, (gxs28 k S3).2 ++ [(gx28 (gxs28 k S3).1).2])) := Lib.hid rfl
      obtain ⟨t0, ht0⟩ : ∃ t, t = (gxs28 k S3).1 := ⟨_, rfl⟩
      rw [← ht0] at HG1 HI0
      have hB0 : IsB t0.l := by obtain ⟨_, _, _, _, hb⟩ := HI0.out; exact hb.isB
      obtain ⟨t1, ht1⟩ : ∃ t, t = (t0.get 2).1 := ⟨_, rfl⟩
      obtain ⟨v1, hv1⟩ : ∃ v, v = (t0.get 2).2 := ⟨_, rfl⟩
      obtain ⟨t2, ht2⟩ : ∃ t, t = (t1.get 2).1 := ⟨_, rfl⟩
      obtain ⟨v2, hv2⟩ : ∃ v, v = (t1.get 2).2 := ⟨_, rfl⟩
      have HGX : Hid (gx28 t0 = (t2, (v1, v2))) := Lib.hid (by unfold gx28; rw [← ht1, ← ht2, ← hv1, ← hv2])
      have hB1 : IsB t1.l := by have := isB_get28 (w := 2) hB0 (by omega); rw [show (((2 : Nat) : Int)) = 2 from rfl, ← ht1] at this; exact this
      have hb1 : 0 ≤ v1 ∧ v1 < 65536 := by have := get_le28 (w := 2) hB0 (by omega) (by omega); rw [show (((2 : Nat) : Int)) = 2 from rfl, ← hv1] at this; exact this
      have hb2 : 0 ≤ v2 ∧ v2 < 65536 := by have := get_le28 (w := 2) hB1 (by omega) (by omega); rw [show (((2 : Nat) : Int)) = 2 from rfl, ← hv2] at this; exact this
      have hw1 : IntKind.i64.wrap v1 = v1 := IntWalk.i64_in _ (by omega)
      have hw2 : IntKind.i64.wrap v2 = v2 := IntWalk.i64_in _ (by omega)
      have HC0 : Hid (∀ w', InAt w' FI g t0 → Calls Try.prog 67 #[.pointer (some ⟨g, 0, none⟩), .int .i64 2] w' fun r w'' => r = .returned (.int .u64 v1) ∧ InAt w'' FI g t1 ∧ Kept (Only g) w' w'') := Lib.hid (fun w' h => by rw [hv1, ht1]; exact Get_any g t0 2 FI w' h)
      have HC1 : Hid (∀ w', InAt w' FI g t1 → Calls Try.prog 67 #[.pointer (some ⟨g, 0, none⟩), .int .i64 2] w' fun r w'' => r = .returned (.int .u64 v2) ∧ InAt w'' FI g t2 ∧ Kept (Only g) w' w'') := Lib.hid (fun w' h => by rw [hv2, ht2]; exact Get_any g t1 2 FI w' h)
      clear hpl htk hrow hi hat hK ht0 hB0 hB1 ht1 ht2 hv1 hv2
      go_wp2_with fail
      refine (HC0.out wr HI0.out).mono ?_
      rintro e g1 ⟨rfl, hi1, hk1'⟩
      have HIx1 := Lib.hid hi1
      have HKx1 := Lib.hid hk1'
      clear hi1 hk1'
      go_wp2_with fail
      refine (HC1.out g1 HIx1.out).mono ?_
      rintro e g2 ⟨rfl, hi2, hk2'⟩
      have HIx2 := Lib.hid hi2
      have HKx2 := Lib.hid (HKx1.out.trans hk2' (fun _ _ h => h))
      have HR2 : Hid (RowX 81 g2 r ps) := Lib.hid (HKx2.out.heap (fun h => by have h : r = g := h; omega) HRW.out)
      obtain ⟨z0, z1⟩ := HR2.out.at_ (j := k) (by rw [HPL.out]; exact hlt)
      have fz0 := frz3 HR2.out (k * 2)
      have fz1 := frz3 HR2.out (k * 2 + 1)
      have HSET := Lib.hid (HR2.out.set k (by rw [HPL.out]; exact hlt) (v1, v2))
      clear hi2 hk2'
      go_wp2_with fail
      have hS : Kept (fun i => i = r) g2 ((g2.setCell ⟨r, k * 2, none⟩ (.int .i64 v1)).setCell ⟨r, k * 2 + 1, none⟩ (.int .i64 v2)) :=
        ((Kept.refl (fun i => i = r) g2).setCell (p := ⟨r, k * 2, none⟩) (.inl (by show r = r; rfl)) _).setCell (p := ⟨r, k * 2 + 1, none⟩) (.inl (by show r = r; rfl)) _
      refine ⟨⟨k + 1, ps.set k (v1, v2), by omega, by go_num, by rw [List.length_set, HPL.out], ?_, HSET.out, ?_, (HAT.out.kept HKx2.out (fun h => by have h : xg = g := h; omega)).kept hS (fun h => by have h : xg = r := h; omega), (HK.out.trans HKx2.out (fun i _ h => by have h : i = g := h; omega)).trans hS (fun i hi h => by have h : i = r := h; have := HRC.out; omega)⟩, by simp [RowKit.intOf]; omega⟩
      · rw [HG1.out, HGX.out]
        show List.take (k + 1) (ps.set k (v1, v2)) = (gxs28 k S3).2 ++ [(v1, v2)]
        rw [← HTK.out, List.take_succ_eq_append_getElem (by rw [List.length_set, HPL.out]; exact hlt), List.take_set_of_le (Nat.le_refl _)]
        simp
      · rw [HG1.out, HGX.out]
        exact HIx2.out.kept hS (fun i hi h => by have h : i = r := h; have := HFI.out i hi; omega) (fun h => by have h : g = r := h; omega)
    · obtain rfl : k = nn := by omega
      replace htk : ps = (gxs28 k S3).2 := by rw [← htk, List.take_of_length_le (by omega)]
      obtain ⟨s2, hs2⟩ : ∃ s2, s2 = (gxs28 k S3).1 := ⟨_, rfl⟩
      rw [← htk, ← hs2] at HG
      rw [← hs2] at HI0
      have hxs : XSl wr (fun i => i = r) (.slice (some ⟨r, 0, none⟩) k k) ps := by
        have := HRW.out.sl (F := fun i => i = r) (c := k) rfl (by omega) (by unfold maxLen; omega)
        rwa [hpl] at this
      have HXS := Lib.hid hxs
      have hbx : IAt 47 wr w.heap.size 0 0 (.slice none 0 0) := (show IAt _ W0 w.heap.size 0 0 _ by rw [HW0.out]; exact IAt.new _ w 0 0 _).kept HK.out (fun h => by have h : W0.heap.size ≤ w.heap.size := h; omega)
      have HBX := Lib.hid hbx
      have hkw : Kept NoB w wr := ((Kept.refl NoB w).alloc (.cells #[.int .i64 0, .int .i64 0, .slice none 0 0] 47)).trans (show Kept (fun i => W0.heap.size ≤ i) _ wr by rw [← HW0.out]; exact HK.out) (fun i hi h => absurd h (by omega))
      have HKW := Lib.hid hkw
      have HDN := Lib.hid (InDone_any g s2 FI wr HI0.out)
      obtain ⟨q0, q1, q2⟩ := hbx.cells
      have f0 := frz3 hbx 0
      have f1 := frz3 hbx 1
      have f2 := frz3 hbx 2
      obtain ⟨c0, c1, c2⟩ := HAT.out.cells
      obtain ⟨dn, hdn⟩ : ∃ d, d = s2.done := ⟨_, rfl⟩
      rw [← hdn] at HG HDN
      have hrr := HRC.out
      clear hxs hbx hkw hpl htk hrow hi hat hK hs2 hdn
      by_cases hd : dn = 0
      · rw [if_neg (fun h => h hd)] at HG
        rw [hd] at HDN
        have HCH := Lib.hid (iCheck_any mv sv _ ps _ wr HXS.out (by omega) (by omega))
        by_cases hc : chk28 mv sv ps = 0
        · rw [if_neg (fun h => h hc)] at HG
          rw [hc] at HCH
          clear hd hc
          go_wp2_with (first
            | (go_at_call 68; refine HDN.out.mono ?_; rintro e w9 ⟨rfl, rfl⟩)
            | (go_at_call 31; refine HCH.out.mono ?_; rintro e w9 ⟨rfl, hk⟩; have HB9 := Lib.hid (HBX.out.no hk); have HX9 := Lib.hid (HXS.out.no hk); have HK9 := Lib.hid (HKW.out.trans hk (fun _ _ h => h)); clear q0 q1 q2 f0 f1 f2 c0 c1 c2; obtain ⟨q0, q1, q2⟩ := HB9.out.cells; have f0 := frz3 HB9.out 0; have f1 := frz3 HB9.out 1; have f2 := frz3 HB9.out 2; obtain ⟨c0, c1, c2⟩ := (HAT.out.no hk).cells; clear hk))
          obtain ⟨r0, r1, r2⟩ := cells3 (set3_heap HB9.out (.int .i64 mv) (.int .i64 sv) (.slice (some ⟨r, 0, none⟩) k k))
          exact bodyPost_ret (v := .tuple #[iv28 mv sv (.slice (some ⟨r, 0, none⟩) k k), .int .i64 0]) (by simp [results, Try.results39, go_sem, r0, r1, r2]) rfl (by rw [HG.out]; exact IRes.mk rfl ((HX9.out.kept (set3_kept _ w.heap.size _ _ _) (fun i _ hi he => by omega)).mono (fun i _ hi => by omega)) (HK9.out.trans (set3_kept _ w.heap.size _ _ _) (fun i hi he => absurd hi (by omega))))
        · rw [if_pos hc] at HG
          have hne : (chk28 mv sv ps != 0) = true := bne_iff_ne.2 hc
          obtain ⟨er, her⟩ : ∃ er, er = chk28 mv sv ps := ⟨_, rfl⟩
          rw [← her] at HCH hne
          clear hd hc her
          go_wp2_with (first
            | (go_at_call 68; refine HDN.out.mono ?_; rintro e w9 ⟨rfl, rfl⟩)
            | (go_at_call 31; refine HCH.out.mono ?_; rintro e w9 ⟨rfl, hk⟩; have HB9 := Lib.hid (HBX.out.no hk); have HK9 := Lib.hid (HKW.out.trans hk (fun _ _ h => h)); clear q0 q1 q2 f0 f1 f2 c0 c1 c2; obtain ⟨q0, q1, q2⟩ := HB9.out.cells; have f0 := frz3 HB9.out 0; have f1 := frz3 HB9.out 1; have f2 := frz3 HB9.out 2; clear hk))
          obtain ⟨r0, r1, r2⟩ := cells3 (set3_heap HB9.out (.int .i64 0) (.int .i64 0) (.slice none 0 0))
          exact bodyPost_ret (v := .tuple #[iv28 0 0 (.slice none 0 0), .int .i64 4]) (by simp [results, Try.results39, go_sem, r0, r1, r2]) rfl (by rw [HG.out]; exact IRes.zero rfl (HK9.out.trans (set3_kept _ w.heap.size _ _ _) (fun i hi he => absurd hi (by omega))))
      · rw [if_pos hd] at HG
        have hne : (dn != 0) = true := bne_iff_ne.2 hd
        clear hd
        go_wp2_with (go_at_call 68; refine HDN.out.mono ?_; rintro e w9 ⟨rfl, rfl⟩)
        obtain ⟨r0, r1, r2⟩ := cells3 (set3_heap HBX.out (.int .i64 0) (.int .i64 0) (.slice none 0 0))
        exact bodyPost_ret (v := .tuple #[iv28 0 0 (.slice none 0 0), .int .i64 dn]) (by simp [results, Try.results39, go_sem, r0, r1, r2]) rfl (by rw [HG.out]; exact IRes.zero rfl (HKW.out.trans (set3_kept _ w.heap.size _ _ _) (fun i hi he => absurd hi (by omega))))
set_option maxRecDepth 100000 in
theorem iGet_any (v : Value) (b : List Int) (F : Nat → Prop) (w : World) (h : BSl w F v b) (hl : b.length ≤ 1000000) :
    Calls Try.prog 39 #[v] w (IRes (got28 b).1 (got28 b).2.1 (got28 b).2.2.1 (got28 b).2.2.2 w) := by
  by_cases hb : b.length = 0
  · obtain ⟨a, cap, rfl, _⟩ := h
    obtain rfl : b = [] := List.eq_nil_of_length_eq_zero hb
    have hg : got28 [] = (0, 0, 0, []) := by unfold got28; rw [if_pos rfl]
    rw [hg]
    have HK0 := Lib.hid ((Kept.refl NoB w).alloc (.cells #[.int .i64 0, .int .i64 0, .slice none 0 0] 47))
    have HB := Lib.hid (IAt.new 47 w 0 0 (.slice none 0 0))
    obtain ⟨c0, c1, c2⟩ := HB.out.cells
    have f0 := frz3 HB.out 0
    have f1 := frz3 HB.out 1
    have f2 := frz3 HB.out 2
    clear hb hg hl
    go_enter Try.func39, Try.ntmps39
    go_wp2_with fail
    first
      | exact bodyPost_ret (v := .tuple #[iv28 0 0 (.slice none 0 0), .int .i64 0]) (by simp [results, Try.results39, go_sem, c0, c1, c2]) rfl (IRes.zero rfl HK0.out)
      | (obtain ⟨r0, r1, r2⟩ := cells3 (set3_heap HB.out (.int .i64 0) (.int .i64 0) (.slice none 0 0))
         exact bodyPost_ret (v := .tuple #[iv28 0 0 (.slice none 0 0), .int .i64 0]) (by simp [results, Try.results39, go_sem, r0, r1, r2]) rfl (IRes.zero rfl (HK0.out.trans (set3_kept _ w.heap.size _ _ _) (fun i hi he => absurd hi (by omega)))))
  · exact iGet_some v b F w h hl hb
end Go.Proofs.Ytbacnkndllifaaa
namespace Go.Proofs.Ytbacnkndllifaaa
open Go.RowKit
set_option linter.unusedVariables false

set_option maxRecDepth 100000 in
set_option maxHeartbeats 20000000 in
theorem InodeChecks_any (m s m2 s2 : Int) (u u2 : Value) (l l2 : List Xt) (W : World) (h : XSl W (fun k => k < W.heap.size) u l) (h2 : XSl W (fun k => k < W.heap.size) u2 l2) (h0 : -9223372036854775808 ≤ s) (h1 : s ≤ 9223372036854775807) :
    Calls Try.prog 7 #[iv28 m s u, iv28 m2 s2 u2] W fun e W' => e = .returned (.bool true) ∧ Kept NoB W W' := by
  obtain ⟨a, cap, rfl, _, hcm, _⟩ := id h
  obtain ⟨b, cb, rfl, _, hbm, _⟩ := id h2
  have hk0 := two28 W m s m2 s2 (.slice a l.length cap) (.slice b l2.length cb) 43 43
  have HK0 := Lib.hid hk0
  have HX0 := Lib.hid (h.any.no hk0)
  have HY0 := Lib.hid (h2.any.no hk0)
  have hA := ((Kept.refl NoB _).alloc (.cells #[.int .i64 m2, .int .i64 s2, .slice b l2.length cb] 43)).heap (fun h => h) (heap_alloc_new W (.cells #[.int .i64 m, .int .i64 s, .slice a l.length cap] 43))
  have hB := heap_alloc_new (W.alloc (.cells #[.int .i64 m, .int .i64 s, .slice a l.length cap] 43)) (.cells #[.int .i64 m2, .int .i64 s2, .slice b l2.length cb] 43)
  rw [show (W.alloc (.cells #[.int .i64 m, .int .i64 s, .slice a l.length cap] 43)).heap.size = W.heap.size + 1 by simp] at hB
  obtain ⟨c0, c1, c2⟩ := cells3 hA
  obtain ⟨d0, d1, d2⟩ := cells3 hB
  have HA := Lib.hid hA
  have HB := Lib.hid hB
  have HAW := Lib.hid awake28_any
  clear h h2 hk0 hA hB
  by_cases hx : 40 < l.length
  · have e1 : decide ((40 : Int) < (l.length : Int)) = true := decide_eq_true (by omega)
    have e2 : decide (40 < l.length) = true := decide_eq_true hx
    clear hx
    go_enter Try.func7, Try.ntmps7
    go_wp2_with (go_at_call 30; refine (HAW.out _).mono ?_; rintro e w' ⟨rfl, hk⟩; have HK := Lib.hid (HK0.out.trans hk (fun _ _ h => h)); clear hk)
    go_ret
    exact ⟨rfl, HK.out⟩
  · by_cases hy : 40 < l2.length
    · have e1 : decide ((40 : Int) < (l.length : Int)) = false := decide_eq_false (by omega)
      have e2 : decide (40 < l.length) = false := decide_eq_false hx
      have e3 : decide ((40 : Int) < (l2.length : Int)) = true := decide_eq_true (by omega)
      have e4 : decide (40 < l2.length) = true := decide_eq_true hy
      clear hx hy
      go_enter Try.func7, Try.ntmps7
      go_wp2_with (go_at_call 30; refine (HAW.out _).mono ?_; rintro e w' ⟨rfl, hk⟩; have HK := Lib.hid (HK0.out.trans hk (fun _ _ h => h)); clear hk)
      go_ret
      exact ⟨rfl, HK.out⟩
    · have e1 : decide ((40 : Int) < (l.length : Int)) = false := decide_eq_false (by omega)
      have e2 : decide (40 < l.length) = false := decide_eq_false hx
      have e3 : decide ((40 : Int) < (l2.length : Int)) = false := decide_eq_false (by omega)
      have e4 : decide (40 < l2.length) = false := decide_eq_false hy
      have hl1 : l.length ≤ 1000 := by omega
      have hl2 : l2.length ≤ 1000 := by omega
      clear hx hy
      have HCK := Lib.hid (fun x W' (hx : XSl W' (fun _ => True) x l) => iCheck_any m s x l _ W' hx h0 h1)
      have HCK2 := Lib.hid (fun x W' (hx : XSl W' (fun _ => True) x l) => rCheck_any m s x l _ W' hx hl1)
      have HPUT := Lib.hid (fun x W' (hx : XSl W' (fun _ => True) x l) => iPut_any m s x l _ W' hx h0 h1)
      have HSM := Lib.hid (fun x y W' (hx : XSl W' (fun _ => True) x l) (hy : XSl W' (fun _ => True) y l2) => iSame_any m s m2 s2 x y l l2 _ _ W' hx hy)
      have HSM2 := Lib.hid (fun x y W' (hx : XSl W' (fun _ => True) x l) (hy : XSl W' (fun _ => True) y l2) => rSame28_any m s m2 s2 x y l l2 _ _ W' hx hy)
      have HBL := Lib.hid (fun x W' (hx : XSl W' (fun _ => True) x l) => iBlocks_any m s x l _ W' hx hl1)
      have HBL2 := Lib.hid (fun x W' (hx : XSl W' (fun _ => True) x l) => rBlocks_any m s x l _ W' hx hl1)
      obtain ⟨BS, hBS⟩ : ∃ BS, BS = blk l := ⟨_, rfl⟩
      rw [← hBS] at HBL HBL2
      obtain ⟨sm, hsm⟩ : ∃ q, q = decide (m = m2 ∧ s = s2 ∧ l = l2) := ⟨_, rfl⟩
      rw [← hsm] at HSM HSM2
      obtain ⟨er, her⟩ : ∃ er, er = chk28 m s l := ⟨_, rfl⟩
      obtain ⟨PL, hPL⟩ : ∃ q, q = putL m s l := ⟨_, rfl⟩
      rw [← her] at HCK HCK2 HPUT
      rw [← hPL] at HPUT
      have HER := Lib.hid her
      have HPL := Lib.hid hPL
      have HK := Lib.hid (Kept.refl NoB ((W.alloc (.cells #[.int .i64 m, .int .i64 s, .slice a l.length cap] 43)).alloc (.cells #[.int .i64 m2, .int .i64 s2, .slice b l2.length cb] 43)))
      clear hBS hsm her hPL
      go_enter Try.func7, Try.ntmps7
      go_wp2_with (first
        | (go_at_call 32; refine (ours_any m s _ l _ _ (HX0.out.no HK.out) hl1).mono ?_; rintro e w3 ⟨a3, c3, rfl, hx3, hk⟩; replace HK := Lib.hid (HK.out.trans hk (fun _ _ h => h)); have HU := Lib.hid hx3.any; clear hx3; clear c0 c1 c2 d0 d1 d2; obtain ⟨c0, c1, c2⟩ := cells3 (HK.out.heap (fun h => h) HA.out); obtain ⟨d0, d1, d2⟩ := cells3 (HK.out.heap (fun h => h) HB.out); clear hk)
        | (go_at_call 31; refine (HCK.out _ _ HU.out).mono ?_; rintro e w4 ⟨rfl, hk⟩; replace HK := Lib.hid (HK.out.trans hk (fun _ _ h => h)); clear HU; clear c0 c1 c2 d0 d1 d2; obtain ⟨c0, c1, c2⟩ := cells3 (HK.out.heap (fun h => h) HA.out); obtain ⟨d0, d1, d2⟩ := cells3 (HK.out.heap (fun h => h) HB.out); clear hk)
        | (go_at_call 33; refine (HPUT.out _ _ HU.out).mono ?_; rintro e w5 ⟨a5, c5, rfl, hb5, hk⟩; replace HK := Lib.hid (HK.out.trans hk (fun _ _ h => h)); clear HU; have HBY := Lib.hid (hb5.mono (G := fun _ => True) (fun _ _ _ => trivial)); clear hb5; clear c0 c1 c2 d0 d1 d2; obtain ⟨c0, c1, c2⟩ := cells3 (HK.out.heap (fun h => h) HA.out); obtain ⟨d0, d1, d2⟩ := cells3 (HK.out.heap (fun h => h) HB.out); clear hk))
      have HKc := Lib.hid (Kept.refl NoB w5)
      go_region_held3 (fun w' => w'.cell? ⟨W.heap.size, 0, none⟩ = some (.int .i64 m) ∧ w'.cell? ⟨W.heap.size, 1, none⟩ = some (.int .i64 s) ∧ w'.cell? ⟨W.heap.size, 2, none⟩ = some (.slice a l.length cap) ∧ w'.cell? ⟨W.heap.size + 1, 0, none⟩ = some (.int .i64 m2) ∧ w'.cell? ⟨W.heap.size + 1, 1, none⟩ = some (.int .i64 s2) ∧ w'.cell? ⟨W.heap.size + 1, 2, none⟩ = some (.slice b l2.length cb))
        (first
          | exact ⟨cell_drew c0, cell_drew c1, cell_drew c2, cell_drew d0, cell_drew d1, cell_drew d2⟩
          | exact ⟨HKc.out.cell (p := ⟨W.heap.size, 0, none⟩) (fun h => h) c0, HKc.out.cell (p := ⟨W.heap.size, 1, none⟩) (fun h => h) c1, HKc.out.cell (p := ⟨W.heap.size, 2, none⟩) (fun h => h) c2, HKc.out.cell (p := ⟨W.heap.size + 1, 0, none⟩) (fun h => h) d0, HKc.out.cell (p := ⟨W.heap.size + 1, 1, none⟩) (fun h => h) d1, HKc.out.cell (p := ⟨W.heap.size + 1, 2, none⟩) (fun h => h) d2⟩
          | go_keep)
        (first
          | (have hm := MK2; clear hm; go_at_call 32; refine (ours_any m s _ l _ _ ((HX0.out.no HK.out).no (by first | exact HKc.out | exact HKc.out.drew)) hl1).mono ?_; rintro e w8 ⟨a8, c8, rfl, hx8, hk⟩; replace HKc := Lib.hid (by first | exact HKc.out.trans hk (fun _ _ h => h) | exact HKc.out.drew.trans hk (fun _ _ h => h)); (first | (replace HU1 := Lib.hid (HU1.out.no hk)) | (replace HU1 := Lib.hid (HU1.out.no ((Kept.refl NoB _).drew.trans hk (fun _ _ h => h)))) | skip); (first | (replace HU2 := Lib.hid (HU2.out.no hk)) | (replace HU2 := Lib.hid (HU2.out.no ((Kept.refl NoB _).drew.trans hk (fun _ _ h => h)))) | skip); (first | (replace HU3 := Lib.hid (HU3.out.no hk)) | (replace HU3 := Lib.hid (HU3.out.no ((Kept.refl NoB _).drew.trans hk (fun _ _ h => h)))) | skip); (first | (replace HN1 := Lib.hid (HN1.out.kept hk (fun _ _ _ h => h))) | (replace HN1 := Lib.hid (HN1.out.kept ((Kept.refl NoB _).drew.trans hk (fun _ _ h => h)) (fun _ _ _ h => h))) | skip); (first | (replace HN2 := Lib.hid (HN2.out.kept hk (fun _ _ _ h => h))) | (replace HN2 := Lib.hid (HN2.out.kept ((Kept.refl NoB _).drew.trans hk (fun _ _ h => h)) (fun _ _ _ h => h))) | skip); have HU3 := Lib.hid hx8.any; clear hx8; clear hk)
          | (have hm := MK1; clear hm; go_at_call 32; refine (ours_any m2 s2 _ l2 _ _ ((HY0.out.no HK.out).no (by first | exact HKc.out | exact HKc.out.drew)) hl2).mono ?_; rintro e w8 ⟨a8, c8, rfl, hx8, hk⟩; replace HKc := Lib.hid (by first | exact HKc.out.trans hk (fun _ _ h => h) | exact HKc.out.drew.trans hk (fun _ _ h => h)); (first | (replace HU1 := Lib.hid (HU1.out.no hk)) | (replace HU1 := Lib.hid (HU1.out.no ((Kept.refl NoB _).drew.trans hk (fun _ _ h => h)))) | skip); (first | (replace HU2 := Lib.hid (HU2.out.no hk)) | (replace HU2 := Lib.hid (HU2.out.no ((Kept.refl NoB _).drew.trans hk (fun _ _ h => h)))) | skip); (first | (replace HU3 := Lib.hid (HU3.out.no hk)) | (replace HU3 := Lib.hid (HU3.out.no ((Kept.refl NoB _).drew.trans hk (fun _ _ h => h)))) | skip); (first | (replace HN1 := Lib.hid (HN1.out.kept hk (fun _ _ _ h => h))) | (replace HN1 := Lib.hid (HN1.out.kept ((Kept.refl NoB _).drew.trans hk (fun _ _ h => h)) (fun _ _ _ h => h))) | skip); (first | (replace HN2 := Lib.hid (HN2.out.kept hk (fun _ _ _ h => h))) | (replace HN2 := Lib.hid (HN2.out.kept ((Kept.refl NoB _).drew.trans hk (fun _ _ h => h)) (fun _ _ _ h => h))) | skip); have HU2 := Lib.hid hx8.any; clear hx8; have MK2 := Lib.hid trivial; clear hk)
          | (go_at_call 32; refine (ours_any m s _ l _ _ ((HX0.out.no HK.out).no (by first | exact HKc.out | exact HKc.out.drew)) hl1).mono ?_; rintro e w8 ⟨a8, c8, rfl, hx8, hk⟩; replace HKc := Lib.hid (by first | exact HKc.out.trans hk (fun _ _ h => h) | exact HKc.out.drew.trans hk (fun _ _ h => h)); (first | (replace HU1 := Lib.hid (HU1.out.no hk)) | (replace HU1 := Lib.hid (HU1.out.no ((Kept.refl NoB _).drew.trans hk (fun _ _ h => h)))) | skip); (first | (replace HU2 := Lib.hid (HU2.out.no hk)) | (replace HU2 := Lib.hid (HU2.out.no ((Kept.refl NoB _).drew.trans hk (fun _ _ h => h)))) | skip); (first | (replace HU3 := Lib.hid (HU3.out.no hk)) | (replace HU3 := Lib.hid (HU3.out.no ((Kept.refl NoB _).drew.trans hk (fun _ _ h => h)))) | skip); (first | (replace HN1 := Lib.hid (HN1.out.kept hk (fun _ _ _ h => h))) | (replace HN1 := Lib.hid (HN1.out.kept ((Kept.refl NoB _).drew.trans hk (fun _ _ h => h)) (fun _ _ _ h => h))) | skip); (first | (replace HN2 := Lib.hid (HN2.out.kept hk (fun _ _ _ h => h))) | (replace HN2 := Lib.hid (HN2.out.kept ((Kept.refl NoB _).drew.trans hk (fun _ _ h => h)) (fun _ _ _ h => h))) | skip); have HU1 := Lib.hid hx8.any; clear hx8; have MK1 := Lib.hid trivial; clear hk)
          | (go_at_call 34; refine (HCK2.out _ _ ((HX0.out.no HK.out).no (by first | exact HKc.out | exact HKc.out.drew))).mono ?_; rintro e w8 ⟨rfl, hk⟩; replace HKc := Lib.hid (by first | exact HKc.out.trans hk (fun _ _ h => h) | exact HKc.out.drew.trans hk (fun _ _ h => h)); (first | (replace HU1 := Lib.hid (HU1.out.no hk)) | (replace HU1 := Lib.hid (HU1.out.no ((Kept.refl NoB _).drew.trans hk (fun _ _ h => h)))) | skip); (first | (replace HU2 := Lib.hid (HU2.out.no hk)) | (replace HU2 := Lib.hid (HU2.out.no ((Kept.refl NoB _).drew.trans hk (fun _ _ h => h)))) | skip); (first | (replace HU3 := Lib.hid (HU3.out.no hk)) | (replace HU3 := Lib.hid (HU3.out.no ((Kept.refl NoB _).drew.trans hk (fun _ _ h => h)))) | skip); (first | (replace HN1 := Lib.hid (HN1.out.kept hk (fun _ _ _ h => h))) | (replace HN1 := Lib.hid (HN1.out.kept ((Kept.refl NoB _).drew.trans hk (fun _ _ h => h)) (fun _ _ _ h => h))) | skip); (first | (replace HN2 := Lib.hid (HN2.out.kept hk (fun _ _ _ h => h))) | (replace HN2 := Lib.hid (HN2.out.kept ((Kept.refl NoB _).drew.trans hk (fun _ _ h => h)) (fun _ _ _ h => h))) | skip); clear hk)
          | (go_at_call 35; refine (HSM.out _ _ _ (by first | exact HU1.out | exact HU1.out.no (Kept.refl NoB _).drew) (by first | exact HU2.out | exact HU2.out.no (Kept.refl NoB _).drew)).mono ?_; rintro e w8 ⟨rfl, hk⟩; replace HKc := Lib.hid (by first | exact HKc.out.trans hk (fun _ _ h => h) | exact HKc.out.drew.trans hk (fun _ _ h => h)); (first | (replace HU1 := Lib.hid (HU1.out.no hk)) | (replace HU1 := Lib.hid (HU1.out.no ((Kept.refl NoB _).drew.trans hk (fun _ _ h => h)))) | skip); (first | (replace HU2 := Lib.hid (HU2.out.no hk)) | (replace HU2 := Lib.hid (HU2.out.no ((Kept.refl NoB _).drew.trans hk (fun _ _ h => h)))) | skip); (first | (replace HU3 := Lib.hid (HU3.out.no hk)) | (replace HU3 := Lib.hid (HU3.out.no ((Kept.refl NoB _).drew.trans hk (fun _ _ h => h)))) | skip); (first | (replace HN1 := Lib.hid (HN1.out.kept hk (fun _ _ _ h => h))) | (replace HN1 := Lib.hid (HN1.out.kept ((Kept.refl NoB _).drew.trans hk (fun _ _ h => h)) (fun _ _ _ h => h))) | skip); (first | (replace HN2 := Lib.hid (HN2.out.kept hk (fun _ _ _ h => h))) | (replace HN2 := Lib.hid (HN2.out.kept ((Kept.refl NoB _).drew.trans hk (fun _ _ h => h)) (fun _ _ _ h => h))) | skip); clear hk)
          | (go_at_call 36; refine (HSM2.out _ _ _ ((HX0.out.no HK.out).no (by first | exact HKc.out | exact HKc.out.drew)) ((HY0.out.no HK.out).no (by first | exact HKc.out | exact HKc.out.drew))).mono ?_; rintro e w8 ⟨rfl, hk⟩; replace HKc := Lib.hid (by first | exact HKc.out.trans hk (fun _ _ h => h) | exact HKc.out.drew.trans hk (fun _ _ h => h)); (first | (replace HU1 := Lib.hid (HU1.out.no hk)) | (replace HU1 := Lib.hid (HU1.out.no ((Kept.refl NoB _).drew.trans hk (fun _ _ h => h)))) | skip); (first | (replace HU2 := Lib.hid (HU2.out.no hk)) | (replace HU2 := Lib.hid (HU2.out.no ((Kept.refl NoB _).drew.trans hk (fun _ _ h => h)))) | skip); (first | (replace HU3 := Lib.hid (HU3.out.no hk)) | (replace HU3 := Lib.hid (HU3.out.no ((Kept.refl NoB _).drew.trans hk (fun _ _ h => h)))) | skip); (first | (replace HN1 := Lib.hid (HN1.out.kept hk (fun _ _ _ h => h))) | (replace HN1 := Lib.hid (HN1.out.kept ((Kept.refl NoB _).drew.trans hk (fun _ _ h => h)) (fun _ _ _ h => h))) | skip); (first | (replace HN2 := Lib.hid (HN2.out.kept hk (fun _ _ _ h => h))) | (replace HN2 := Lib.hid (HN2.out.kept ((Kept.refl NoB _).drew.trans hk (fun _ _ h => h)) (fun _ _ _ h => h))) | skip); clear hk)
          | (go_at_call 37; refine (HBL.out _ _ (by first | exact HU3.out | exact HU3.out.no (Kept.refl NoB _).drew)).mono ?_; rintro e w8 ⟨a8, c8, rfl, ho, hk⟩; replace HKc := Lib.hid (by first | exact HKc.out.trans hk (fun _ _ h => h) | exact HKc.out.drew.trans hk (fun _ _ h => h)); (first | (replace HU1 := Lib.hid (HU1.out.no hk)) | (replace HU1 := Lib.hid (HU1.out.no ((Kept.refl NoB _).drew.trans hk (fun _ _ h => h)))) | skip); (first | (replace HU2 := Lib.hid (HU2.out.no hk)) | (replace HU2 := Lib.hid (HU2.out.no ((Kept.refl NoB _).drew.trans hk (fun _ _ h => h)))) | skip); (first | (replace HU3 := Lib.hid (HU3.out.no hk)) | (replace HU3 := Lib.hid (HU3.out.no ((Kept.refl NoB _).drew.trans hk (fun _ _ h => h)))) | skip); (first | (replace HN1 := Lib.hid (HN1.out.kept hk (fun _ _ _ h => h))) | (replace HN1 := Lib.hid (HN1.out.kept ((Kept.refl NoB _).drew.trans hk (fun _ _ h => h)) (fun _ _ _ h => h))) | skip); (first | (replace HN2 := Lib.hid (HN2.out.kept hk (fun _ _ _ h => h))) | (replace HN2 := Lib.hid (HN2.out.kept ((Kept.refl NoB _).drew.trans hk (fun _ _ h => h)) (fun _ _ _ h => h))) | skip); have HN1 := Lib.hid (ho.nslB.mono (G := fun _ => True) (fun _ _ _ => trivial)); clear ho; clear hk)
          | (go_at_call 38; refine (HBL2.out _ _ ((HX0.out.no HK.out).no (by first | exact HKc.out | exact HKc.out.drew))).mono ?_; rintro e w8 ⟨a8, c8, rfl, ho, hk⟩; replace HKc := Lib.hid (by first | exact HKc.out.trans hk (fun _ _ h => h) | exact HKc.out.drew.trans hk (fun _ _ h => h)); (first | (replace HU1 := Lib.hid (HU1.out.no hk)) | (replace HU1 := Lib.hid (HU1.out.no ((Kept.refl NoB _).drew.trans hk (fun _ _ h => h)))) | skip); (first | (replace HU2 := Lib.hid (HU2.out.no hk)) | (replace HU2 := Lib.hid (HU2.out.no ((Kept.refl NoB _).drew.trans hk (fun _ _ h => h)))) | skip); (first | (replace HU3 := Lib.hid (HU3.out.no hk)) | (replace HU3 := Lib.hid (HU3.out.no ((Kept.refl NoB _).drew.trans hk (fun _ _ h => h)))) | skip); (first | (replace HN1 := Lib.hid (HN1.out.kept hk (fun _ _ _ h => h))) | (replace HN1 := Lib.hid (HN1.out.kept ((Kept.refl NoB _).drew.trans hk (fun _ _ h => h)) (fun _ _ _ h => h))) | skip); (first | (replace HN2 := Lib.hid (HN2.out.kept hk (fun _ _ _ h => h))) | (replace HN2 := Lib.hid (HN2.out.kept ((Kept.refl NoB _).drew.trans hk (fun _ _ h => h)) (fun _ _ _ h => h))) | skip); have HN2 := Lib.hid (ho.nslB.mono (G := fun _ => True) (fun _ _ _ => trivial)); clear ho; clear hk)
          | (go_at_call 24; refine (SameN_any _ _ BS BS _ _ _ (by first | exact HN1.out | exact HN1.out.kept (S := NoB) (Kept.refl NoB _).drew (fun _ _ _ h => h)) (by first | exact HN2.out | exact HN2.out.kept (S := NoB) (Kept.refl NoB _).drew (fun _ _ _ h => h))).mono ?_; rw [decide_eq_true rfl]; rintro e w8 ⟨rfl, hk⟩; replace HKc := Lib.hid (by first | exact HKc.out.trans hk (fun _ _ h => h) | exact HKc.out.drew.trans hk (fun _ _ h => h)); (first | (replace HU1 := Lib.hid (HU1.out.no hk)) | (replace HU1 := Lib.hid (HU1.out.no ((Kept.refl NoB _).drew.trans hk (fun _ _ h => h)))) | skip); (first | (replace HU2 := Lib.hid (HU2.out.no hk)) | (replace HU2 := Lib.hid (HU2.out.no ((Kept.refl NoB _).drew.trans hk (fun _ _ h => h)))) | skip); (first | (replace HU3 := Lib.hid (HU3.out.no hk)) | (replace HU3 := Lib.hid (HU3.out.no ((Kept.refl NoB _).drew.trans hk (fun _ _ h => h)))) | skip); (first | (replace HN1 := Lib.hid (HN1.out.kept hk (fun _ _ _ h => h))) | (replace HN1 := Lib.hid (HN1.out.kept ((Kept.refl NoB _).drew.trans hk (fun _ _ h => h)) (fun _ _ _ h => h))) | skip); (first | (replace HN2 := Lib.hid (HN2.out.kept hk (fun _ _ _ h => h))) | (replace HN2 := Lib.hid (HN2.out.kept ((Kept.refl NoB _).drew.trans hk (fun _ _ h => h)) (fun _ _ _ h => h))) | skip); clear hk))
      all_goals
        have HK := Lib.hid (HK.out.trans HKc.out (fun _ _ h => h))
        have HBZ := Lib.hid (HBY.out.kept HKc.out (fun _ _ h => h))
        clear c0 c1 c2 d0 d1 d2
        obtain ⟨c0, c1, c2⟩ := cells3 (HK.out.heap (fun h => h) HA.out)
        by_cases he : er = 0
        · have hch : chk28 m s l = 0 := HER.out.symm.trans he
          have hpl : PL = bytI m s l := by rw [HPL.out]; unfold putL; rw [if_pos hch]
          obtain ⟨hm0, hm2, hs0, hs5, _, hl8⟩ := chk_zero hch
          have HRB := Lib.hid (fun x W' (hx : XSl W' (fun _ => True) x l) => show Calls Try.prog 40 #[iv28 m s x] W' (fun e w' => ∃ v, e = .returned v ∧ BSl w' (fun k => W'.heap.size ≤ k) v PL ∧ Kept NoB W' w') by
            have h := RBytes28_any m.toNat s.toNat x l _ W' hx (by rw [Int.toNat_of_nonneg hm0, Int.toNat_of_nonneg hs0]; exact hch)
            rw [Int.toNat_of_nonneg hm0, Int.toNat_of_nonneg hs0, ← hpl] at h
            exact h)
          have hbl : PL.length ≤ 1000000 := by rw [hpl]; unfold bytI; rw [List.length_append, headI_len, bytX_len]; omega
          have HGT := Lib.hid (fun x W' (hx : BSl W' (fun _ => True) x PL) => iGet_any x PL _ W' hx hbl)
          rw [show got28 PL = (0, m, s, l) by rw [hpl]; exact got_put28 hch] at HGT
          simp only at HGT
          subst he
          clear hch hpl hbl hm0 hm2 hs0 hs5 hl8
          go_wp2_with (first
            | (go_at_call 39; refine (HGT.out _ _ HBZ.out).mono ?_; rintro e w6 ⟨a6, c6, rfl, hx, hk⟩; (try simp only at hx); (have hk2 := (Kept.refl NoB w6).alloc (.cells #[.int .i64 m, .int .i64 s, .slice a6 l.length c6] 47)); (have hk3 := hk.trans hk2 (fun _ _ h => h)); replace HK := Lib.hid (HK.out.trans hk3 (fun _ _ h => h)); (try replace HZB := Lib.hid (HZB.out.no hk3)); (try replace HZX := Lib.hid (HZX.out.no hk3)); replace HBZ := Lib.hid (HBZ.out.kept hk3 (fun _ _ h => h)); (try replace HRY := Lib.hid (HRY.out.kept hk3 (fun _ _ h => h))); have HZB := Lib.hid (IAt.new 47 w6 m s (.slice a6 l.length c6)); have HZX := Lib.hid (hx.any.no hk2); clear hx; clear c0 c1 c2; obtain ⟨c0, c1, c2⟩ := cells3 (HK.out.heap (fun h => h) HA.out); (try clear p0 p1 p2); (try (obtain ⟨p0, p1, p2⟩ := HZB.out.cells)); clear hk hk2 hk3)
            | (go_at_call 40; refine (HRB.out _ _ (HX0.out.no HK.out)).mono ?_; rintro e w7 ⟨v7, rfl, hb7, hk⟩; (try simp only at hx); replace HK := Lib.hid (HK.out.trans hk (fun _ _ h => h)); (try replace HZB := Lib.hid (HZB.out.no hk)); (try replace HZX := Lib.hid (HZX.out.no hk)); replace HBZ := Lib.hid (HBZ.out.kept hk (fun _ _ h => h)); (try replace HRY := Lib.hid (HRY.out.kept hk (fun _ _ h => h))); have HRY := Lib.hid (hb7.mono (G := fun _ => True) (fun _ _ _ => trivial)); clear hb7; clear c0 c1 c2; obtain ⟨c0, c1, c2⟩ := cells3 (HK.out.heap (fun h => h) HA.out); (try clear p0 p1 p2); (try (obtain ⟨p0, p1, p2⟩ := HZB.out.cells)); clear hk)
            | (go_at_call 22; refine (Same_any _ _ PL PL _ _ _ HBZ.out HRY.out).mono ?_; rw [decide_eq_true rfl]; rintro e w8 ⟨rfl, hk⟩; (try simp only at hx); replace HK := Lib.hid (HK.out.trans hk (fun _ _ h => h)); (try replace HZB := Lib.hid (HZB.out.no hk)); (try replace HZX := Lib.hid (HZX.out.no hk)); replace HBZ := Lib.hid (HBZ.out.kept hk (fun _ _ h => h)); (try replace HRY := Lib.hid (HRY.out.kept hk (fun _ _ h => h))); skip; clear c0 c1 c2; obtain ⟨c0, c1, c2⟩ := cells3 (HK.out.heap (fun h => h) HA.out); (try clear p0 p1 p2); (try (obtain ⟨p0, p1, p2⟩ := HZB.out.cells)); clear hk)
            | (go_at_call 41; refine (like_true m s _ _ l _ _ _ HZX.out (HX0.out.no HK.out) hl1).mono ?_; rintro e w9 ⟨rfl, hk⟩; (try simp only at hx); replace HK := Lib.hid (HK.out.trans hk (fun _ _ h => h)); (try replace HZB := Lib.hid (HZB.out.no hk)); (try replace HZX := Lib.hid (HZX.out.no hk)); replace HBZ := Lib.hid (HBZ.out.kept hk (fun _ _ h => h)); (try replace HRY := Lib.hid (HRY.out.kept hk (fun _ _ h => h))); skip; clear c0 c1 c2; obtain ⟨c0, c1, c2⟩ := cells3 (HK.out.heap (fun h => h) HA.out); (try clear p0 p1 p2); (try (obtain ⟨p0, p1, p2⟩ := HZB.out.cells)); clear hk)
            | (go_at_call 30; refine (HAW.out _).mono ?_; rintro e w10 ⟨rfl, hk⟩; (try simp only at hx); replace HK := Lib.hid (HK.out.trans hk (fun _ _ h => h)); (try replace HZB := Lib.hid (HZB.out.no hk)); (try replace HZX := Lib.hid (HZX.out.no hk)); replace HBZ := Lib.hid (HBZ.out.kept hk (fun _ _ h => h)); (try replace HRY := Lib.hid (HRY.out.kept hk (fun _ _ h => h))); skip; clear c0 c1 c2; obtain ⟨c0, c1, c2⟩ := cells3 (HK.out.heap (fun h => h) HA.out); (try clear p0 p1 p2); (try (obtain ⟨p0, p1, p2⟩ := HZB.out.cells)); clear hk))
          go_ret
          exact ⟨rfl, HK0.out.trans HK.out (fun _ _ h => h)⟩
        · have hpl : PL = [] := by rw [HPL.out]; unfold putL; rw [if_neg (fun h => he (HER.out.trans h))]
          have hne : (er != 0) = true := bne_iff_ne.2 he
          have hln : PL.length = 0 := by rw [hpl]; rfl
          clear he hpl
          go_wp2_with (go_at_call 30; refine (HAW.out _).mono ?_; rintro e w' ⟨rfl, hk⟩; replace HK := Lib.hid (HK.out.trans hk (fun _ _ h => h)); clear hk)
          go_ret
          exact ⟨rfl, HK0.out.trans HK.out (fun _ _ h => h)⟩
theorem InodeChecks_v (W : World) (x y : Value) (o o2 : Int × Int × List Xt) (h : InoV W x o) (h2 : InoV W y o2) :
    Calls Try.prog 7 #[x, y] W fun e W' => e = .returned (.bool true) ∧ Kept NoB W W' := by
  obtain ⟨u, rfl, hx, _, s0, s1⟩ := h
  obtain ⟨u2, rfl, hx2, _, _, _⟩ := h2
  exact InodeChecks_any _ _ _ _ u u2 _ _ W hx hx2 s0 s1
end Go.Proofs.Ytbacnkndllifaaa
