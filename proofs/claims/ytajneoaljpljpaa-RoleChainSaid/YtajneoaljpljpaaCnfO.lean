/-
  Copies: of numbers, of configurations.
-/
import Derived.Test.YtajneoaljpljpaaCnfN
namespace Go.Proofs.Ytajneoaljpljpaa
open Go.RowKit
set_option linter.unusedVariables false

theorem CloneN_any (v : Value) (l : List Int) (F : Nat → Prop) (w : World) (h : NSl w F v l) (hl : l.length ≤ 1000) :
    Calls Try.prog 37 #[v] w fun e w' => ∃ v', e = .returned v' ∧ IOwn w.heap.size w' v' l ∧ Kept NoB w w' := by
  obtain ⟨a, cap, rfl, _, _, hn0, _⟩ := id h
  cases a with
  | none =>
    have h0 := hn0 rfl
    have h1 := h.len.2.1
    subst h0
    obtain rfl : l = [] := List.eq_nil_of_length_eq_zero (by omega)
    have hn := fun (w : World) => Lib.run_eql_slice_nil (P := Try.prog) w 23 3 none 0 0 0 0 Try.underlying23
    clear h hn0
    go_enter Try.func37, Try.ntmps37
    go_wp2
    go_ret
    exact ⟨_, rfl, IOwn.nil _ _, Kept.refl _ _⟩
  | some ad =>
    have hn := fun (w : World) => Lib.run_eql_slice_nil (P := Try.prog) w 23 3 (some ad) l.length cap 0 0 Try.underlying23
    have HM : Hid (IOwn w.heap.size (w.alloc (.cells #[] 3)) (.slice (some ⟨w.heap.size, 0, none⟩) 0 0) []) := Lib.hid (World.ownsRow_made (base := w.heap.size) (size := 1) w #[] (e := 3) 0 (Nat.le_refl _) (by decide) rfl)
    have HN := Lib.hid (h.kept ((Kept.refl NoB w).alloc (.cells #[] 3)) (fun _ _ _ h => h))
    clear h hn0
    go_enter Try.func37, Try.ntmps37
    go_wp2_with (at_builtin; refine wpList_append_nsl _ rfl (.tmp 5) (.tmp 6) rfl w.heap.size (.slice (some ⟨w.heap.size, 0, none⟩) 0 0) [] rfl HM.out F (.slice (some ad) l.length cap) l rfl HN.out (by simp; omega) (by simp) ?_; intro a1 c1 w1 hown1 hg1 hat1; clear hat1)
    go_ret
    exact ⟨_, rfl, by simpa using hown1, ((Kept.refl _ _).alloc _).grown hg1 (fun k hk => .inr (by have : w.heap.size = k := (by simpa [Value.ownBlock] using hk); omega))⟩
/-- The cells of a list of configurations; us: their nodes' slices. -/
def cellC (l : List Cf) (us : Nat → Value) (m : Nat) : Value :=
  if m % 5 = 0 then .int .i64 (nthC l (m / 5)).ch else if m % 5 = 1 then .int .u64 (nthC l (m / 5)).ep else if m % 5 = 2 then us (m / 5) else if m % 5 = 3 then .bool (nthC l (m / 5)).fr else .int .i64 (nthC l (m / 5)).jn
theorem cellC0 (l : List Cf) (us : Nat → Value) (j : Nat) : cellC l us (j * 5) = .int .i64 (nthC l j).ch := by
  unfold cellC
  rw [if_pos (by omega), show j * 5 / 5 = j by omega]
theorem cellC1 (l : List Cf) (us : Nat → Value) (j : Nat) : cellC l us (j * 5 + 1) = .int .u64 (nthC l j).ep := by
  unfold cellC
  rw [if_neg (by omega), if_pos (by omega), show (j * 5 + 1) / 5 = j by omega]
theorem cellC2 (l : List Cf) (us : Nat → Value) (j : Nat) : cellC l us (j * 5 + 2) = us j := by
  unfold cellC
  rw [if_neg (by omega), if_neg (by omega), if_pos (by omega), show (j * 5 + 2) / 5 = j by omega]
theorem cellC3 (l : List Cf) (us : Nat → Value) (j : Nat) : cellC l us (j * 5 + 3) = .bool (nthC l j).fr := by
  unfold cellC
  rw [if_neg (by omega), if_neg (by omega), if_neg (by omega), if_pos (by omega), show (j * 5 + 3) / 5 = j by omega]
theorem cellC4 (l : List Cf) (us : Nat → Value) (j : Nat) : cellC l us (j * 5 + 4) = .int .i64 (nthC l j).jn := by
  unfold cellC
  rw [if_neg (by omega), if_neg (by omega), if_neg (by omega), if_neg (by omega), show (j * 5 + 4) / 5 = j by omega]
def cellsC (l : List Cf) (us : Nat → Value) : List Value := (List.range (l.length * 5)).map (cellC l us)
theorem cellsC_at {l : List Cf} {us : Nat → Value} {m : Nat} (h : m < l.length * 5) : (cellsC l us)[m]? = some (cellC l us m) := by
  unfold cellsC
  rw [List.getElem?_map, List.getElem?_range h]
  rfl
/-- Block r is a row of these configurations. -/
def RowC (w : World) (r cap : Nat) (l : List Cf) (us : Nat → Value) : Prop :=
  ∃ cs : Array Value, w.heap[r]? = some (.cells cs 25 (0, 0)) ∧ cs.size = cap * 5 ∧ l.length ≤ cap ∧ cap ≤ maxLen ∧ ∀ m, m < l.length * 5 → cs[m]? = some (cellC l us m)
theorem RowC.kept {S : Nat → Prop} {w w' : World} {r cap : Nat} {l : List Cf} {us : Nat → Value} (h : RowC w r cap l us) (hk : Kept S w w') (hs : ¬ S r) : RowC w' r cap l us := by
  obtain ⟨cs, h1, h2⟩ := h
  exact ⟨cs, hk.heap hs h1, h2⟩
theorem RowC.cell {w : World} {r cap : Nat} {l : List Cf} {us : Nat → Value} (h : RowC w r cap l us) {m : Nat} (hm : m < l.length * 5) : w.cell? ⟨r, m, none⟩ = some (cellC l us m) ∧ w.frozen? ⟨r, m, none⟩ = false := by
  obtain ⟨cs, h1, h2, _, _, h3⟩ := h
  exact ⟨(cell_of_row _ _ _ _ _ _ h1).trans (h3 m hm), by simp [World.frozen?, h1]⟩
theorem RowC.lt {w : World} {r cap : Nat} {l : List Cf} {us : Nat → Value} (h : RowC w r cap l us) : r < w.heap.size := by
  obtain ⟨cs, h1, _⟩ := h
  exact heap_lt h1
/-- Each one's nodes lie where they are read. -/
def NodesC (w : World) (F : Nat → Prop) (l : List Cf) (us : Nat → Value) : Prop := ∀ j, j < l.length → NSl w F (us j) (nthC l j).ns ∧ 0 ≤ (nthC l j).ep ∧ (nthC l j).ep ≤ topE ∧ (nthC l j).ns.length ≤ 1000
theorem NodesC.kept {S F : Nat → Prop} {w w' : World} {l : List Cf} {us : Nat → Value} (h : NodesC w F l us) (hk : Kept S w w') (hs : ∀ k, k < w.heap.size → F k → ¬ S k) : NodesC w' F l us :=
  fun j hj => ⟨(h j hj).1.kept hk hs, (h j hj).2⟩
theorem RowC.cfs {w : World} {r cap : Nat} {l : List Cf} {us : Nat → Value} {F : Nat → Prop} (h : RowC w r cap l us) (hn : NodesC w F l us) (hF : F r) : CfsAt w F (.slice (some ⟨r, 0, none⟩) l.length cap) l := by
  have hlt := h.lt
  obtain ⟨_, _, _, h3, h4, _⟩ := id h
  refine ⟨_, cap, rfl, h3, h4, (fun h => by cases h), fun _ => ⟨r, 0, rfl, hF, hlt, fun j hj => ?_⟩⟩
  obtain ⟨hu, hb⟩ := hn j hj
  have c0 := (h.cell (m := j * 5) (by omega)).1
  have c1 := (h.cell (m := j * 5 + 1) (by omega)).1
  have c2 := (h.cell (m := j * 5 + 2) (by omega)).1
  have c3 := (h.cell (m := j * 5 + 3) (by omega)).1
  have c4 := (h.cell (m := j * 5 + 4) (by omega)).1
  rw [cellC0] at c0
  rw [cellC1] at c1
  rw [cellC2] at c2
  rw [cellC3] at c3
  rw [cellC4] at c4
  refine ⟨us j, ?_, ?_, ?_, ?_, ?_, hu, hb⟩
  · simpa using c0
  · simpa using c1
  · simpa using c2
  · simpa using c3
  · simpa using c4
/-- The slices of the nodes of configurations that are read. -/
theorem cfs_us {F : Nat → Prop} {w : World} {a : Option Addr} {n cap : Nat} {l : List Cf} (h : CfsAt w F (.slice a n cap) l) :
    ∃ us : Nat → Value, NodesC w F l us ∧ ∀ ad, a = some ad → ∀ m u, (cellsC l us)[m]? = some u → w.cell? (ad.add m) = some u := by
  have key : ∀ j, ∃ u, j < l.length → (NSl w F u (nthC l j).ns ∧ 0 ≤ (nthC l j).ep ∧ (nthC l j).ep ≤ topE ∧ (nthC l j).ns.length ≤ 1000) ∧ ∀ ad, a = some ad → ∀ i, i < 5 → w.cell? (ad.add (j * 5 + i)) = some (cellC l (fun _ => u) (j * 5 + i)) := by
    intro j
    by_cases hj : j < l.length
    · obtain ⟨b, o, ha, _, _, u, e0, e1, e2, e3, e4, hn, hb⟩ := h.at_ hj
      refine ⟨u, fun _ => ⟨⟨hn, hb⟩, fun ad had i hi => ?_⟩⟩
      rw [ha] at had
      injection had with had
      subst had
      have hadd : ∀ m, (⟨b, o, none⟩ : Addr).add m = ⟨b, o + m, none⟩ := fun m => by unfold Addr.add; split <;> simp_all
      rw [hadd]
      rcases (by omega : i = 0 ∨ i = 1 ∨ i = 2 ∨ i = 3 ∨ i = 4) with rfl | rfl | rfl | rfl | rfl
      · rw [Nat.add_zero, cellC0]; exact e0
      · rw [cellC1, ← Nat.add_assoc]; exact e1
      · rw [cellC2, ← Nat.add_assoc]; exact e2
      · rw [cellC3, ← Nat.add_assoc]; exact e3
      · rw [cellC4, ← Nat.add_assoc]; exact e4
    · exact ⟨undef, fun h => absurd h hj⟩
  refine ⟨fun j => Classical.choose (key j), fun j hj => (Classical.choose_spec (key j) hj).1, fun ad had m u hu => ?_⟩
  have hm : m < l.length * 5 := by
    rcases Nat.lt_or_ge m (l.length * 5) with h | h
    · exact h
    · rw [List.getElem?_eq_none (by simpa [cellsC] using h)] at hu; cases hu
  rw [cellsC_at hm] at hu
  injection hu with hu
  have hs := (Classical.choose_spec (key (m / 5)) (by omega)).2 ad had (m % 5) (by omega)
  rw [show m / 5 * 5 + m % 5 = m by omega] at hs
  rw [hs, ← hu]
  rfl
theorem cellsC_one {l : List Cf} {us : Nat → Value} {w : World} {F : Nat → Prop} (h : NodesC w F l us) : ∀ u ∈ cellsC l us, u.oneCell' = true := by
  intro u hu
  unfold cellsC at hu
  obtain ⟨m, hm, rfl⟩ := List.mem_map.1 hu
  rw [List.mem_range] at hm
  unfold cellC
  split
  · rfl
  · split
    · rfl
    · split
      · obtain ⟨a, cap, he, _⟩ := (h (m / 5) (by omega)).1
        rw [he]
        rfl
      · split <;> rfl
theorem info_conf : (Try.prog.info? 25).map (fun i => (i.zero.map (·.cells.size), i.size, i.bytes)) = some (some 5, 5, 56) := by kernel_rfl
theorem conf_zero : (Try.prog.info? 25).map (fun i => (i.zero, i.size, i.bytes)) = some (some (.agg #[.int .i64 0, .int .u64 0, .slice none 0 0, .bool false, .int .i64 0]), 5, 56) := by kernel_rfl
theorem row_of_own {w : World} {base r cap n : Nat} {l : List Cf} {us : Nat → Value} (h : w.ownsRow base 25 5 (.slice (some ⟨r, 0, none⟩) n cap) l.length (cellsC l us)) : RowC w r cap l us ∧ base ≤ r := by
  rcases h.2 with ⟨hv, _⟩ | ⟨g, c, cur, hv, hb, hr, hc, hm, hs, ht⟩
  · cases hv
  · injection hv with hv hn hcap
    injection hv with hv
    injection hv with hv _ _
    subst hv hcap
    refine ⟨⟨cur, hr, hs, hc, hm, fun m hm => ?_⟩, hb⟩
    have := cellsC_at (us := us) hm
    rw [← ht] at this
    rw [List.getElem?_take, if_pos (by omega)] at this
    simpa using this
end Go.Proofs.Ytajneoaljpljpaa
