/-
  slices.Clone of a bag's items; what a round of a range over a bag keeps; the iterator of a bag.
-/
import Derived.Test.YteinjmhogkneoaaBagO
import Derived.Laws.AppendOwn
namespace Go.Proofs.Yteinjmhogkneoaa
open Go.RowKit Go.Shelf
set_option linter.unusedVariables false

theorem Clone_nil (w : World) : Calls Try.prog 40 #[.slice none 0 0] w fun e w' => e = .returned (.slice none 0 0) ∧ w = w' := by
  have hn := fun (w : World) => Lib.run_eql_slice_nil (P := Try.prog) w 50 66 none 0 0 0 0 Try.underlying50
  go_enter Try.func40, Try.ntmps40
  go_wp2
  go_ret
  exact ⟨rfl, rfl⟩
set_option maxRecDepth 100000 in
theorem Clone_any (B r c : Nat) (l : List It) (w : World) (hown : w.ownsRow B 66 2 (.slice (some ⟨r, 0, none⟩) l.length c) l.length (cel l)) (hl : l.length ≤ 100000) :
    Calls Try.prog 40 #[.slice (some ⟨r, 0, none⟩) l.length c] w fun e w' =>
      ∃ a' c', e = .returned (.slice a' l.length c') ∧ w'.ownsRow w.heap.size 66 2 (.slice a' l.length c') l.length (cel l) ∧ Kept NoB w w' := by
  obtain ⟨i0, hi0, hz0, hz1, hz2⟩ := info_parts Try.info66
  have hn := fun (w : World) => Lib.run_eql_slice_nil (P := Try.prog) w 50 66 (some ⟨r, 0, none⟩) l.length c 0 0 Try.underlying50
  have hcl := cel_len l
  have hnews : ∀ j u, (cel l)[j]? = some u → (w.alloc (.cells #[] 66)).cell? ((⟨r, 0, none⟩ : Addr).add j) = some u := by
    intro j u hu
    have hj : j < (cel l).length := by
      rcases Nat.lt_or_ge j (cel l).length with h | h
      · exact h
      · rw [List.getElem?_eq_none h] at hu; cases hu
    have hadd : (⟨r, 0, none⟩ : Addr).add j = ⟨r, j, none⟩ := by unfold Addr.add; split <;> simp_all
    rw [hadd]
    exact cell_alloc ((hown.cellAt j (by omega)).trans hu) _
  have hmade := World.ownsRow_made (base := w.heap.size) (size := 2) w #[] (e := 66) 0 (Nat.le_refl _) (by decide) rfl
  have HM := Lib.hid hmade
  have HN := Lib.hid hnews
  have HL := Lib.hid hcl
  have HO := Lib.hid (cel_one l)
  clear hmade hnews hcl hown
  go_enter Try.func40, Try.ntmps40
  go_wp2_with (at_builtin; refine wpList_append_own _ (by rfl) (.tmp 5) (.tmp 6) 50 (by rfl) w.heap.size 66 i0 _ 2 16 Try.underlying50 hi0 hz0 hz1 hz2 rfl (by decide) (.slice (some ⟨w.heap.size, 0, none⟩) 0 0) 0 [] (by rfl) HM.out ⟨r, 0, none⟩ l.length c (cel l) (by rfl) HL.out HN.out HO.out (by unfold maxLen; omega) (by omega) (by simp) ?_; intro v' w1 hown1 hgrow _; have HO1 := Lib.hid hown1; have HG1 := Lib.hid hgrow; clear hown1 hgrow)
  go_ret
  have h1 := HO1.out
  rw [Nat.zero_add, List.nil_append] at h1
  have hform : ∃ a' c', v' = .slice a' l.length c' := by
    rcases h1.2 with ⟨rfl, h0⟩ | ⟨g, cap, cur, rfl, _⟩
    · exact ⟨none, 0, by rw [h0]⟩
    · exact ⟨_, _, rfl⟩
  obtain ⟨a', c', rfl⟩ := hform
  exact ⟨a', c', rfl, h1, (Kept.refl _ _).alloc _ |>.grown HG1.out (fun k hk => .inr (by have : w.heap.size = k := (by simpa [Value.ownBlock] using hk); omega))⟩

/-- Block k is the row of bag g. -/
def RowOf (w : World) (g k : Nat) : Prop := ∃ (n c : Nat) (m la : Value), w.heap[g]? = some (.cells #[.slice (some ⟨k, 0, none⟩) n c, m, la] 52 (0, 0))
/-- What a round keeps of a range over bag g that began with a heap of size D: each row of items that was made since and is not the bag's own. -/
structure KpB (D g : Nat) (W W' : World) : Prop where
  size : W.heap.size ≤ W'.heap.size
  same : ∀ (k : Nat) (cs : Array Value) (fr : Nat × Nat), W.heap[k]? = some (.cells cs 66 fr) → D ≤ k → ¬ RowOf W g k → W'.heap[k]? = some (.cells cs 66 fr)
  row : ∀ k, RowOf W' g k → k < D ∨ RowOf W g k ∨ W.heap.size ≤ k
theorem KpB.trans {D g : Nat} {A B C : World} (h : KpB D g A B) (k : KpB D g B C) : KpB D g A C := by
  refine ⟨Nat.le_trans h.size k.size, fun i cs fr hi hD hn => ?_, fun i hi => ?_⟩
  · have hlt := heap_lt hi
    exact k.same i cs fr (h.same i cs fr hi hD hn) hD (fun hr => by
      rcases h.row i hr with h1 | h1 | h1
      · omega
      · exact hn h1
      · omega)
  · rcases k.row i hi with h1 | h1 | h1
    · exact .inl h1
    · exact h.row i h1
    · exact .inr (.inr (Nat.le_trans h.size h1))
theorem KpB.put {D g : Nat} (hg : g < D) (W : World) (l : Nat) (o o' : Obj) (hl : D ≤ l) (h : W.heap[l]? = some o) (hc : o.isCells = false) : KpB D g W (W.putObj l o') := by
  have hne : l ≠ g := by omega
  refine ⟨by simp, fun i cs fr hi hD hn => ?_, fun i hi => ?_⟩
  · have : l ≠ i := by
      rintro rfl
      rw [h] at hi
      injection hi with hi
      subst hi
      cases hc
    rw [World.putObj_heap_other (Ne.symm this)]
    exact hi
  · obtain ⟨n, c, m, la, hr⟩ := hi
    rw [World.putObj_heap_other (Ne.symm hne)] at hr
    exact .inr (.inl ⟨n, c, m, la, hr⟩)
/-- A round that leaves the bag's own block, and each row of items, as they were. -/
theorem KpB.ofKept {D g : Nat} {S : Nat → Prop} {W W' : World} (hk : Kept S W W') (hg : ¬ S g) (hglt : g < W.heap.size) (hS : ∀ k cs fr, W.heap[k]? = some (.cells cs 66 fr) → ¬ S k) : KpB D g W W' :=
  ⟨hk.size, fun i cs fr hi hD hn => hk.heap (hS i cs fr hi) hi, fun i ⟨n, c, m, la, hr⟩ => .inr (.inl ⟨n, c, m, la, by rw [← hk.block g hglt hg]; exact hr⟩)⟩
/-- What a bag's own blocks' turn is, for a range over it. -/
theorem KpB.ofBag {B D g : Nat} {row row' : Option Nat} {most last most' last' : Int} {l l' : List It} {W W' : World} (h : Bg B W g row most last l) (h' : Bg B W' g row' most' last' l') (hk : Kept (Tw g row) W W') (hrow : ∀ k, row' = some k → row = some k ∨ W.heap.size ≤ k) : KpB D g W W' := by
  obtain ⟨_, a, c, hr, hh, hown⟩ := h
  obtain ⟨_, a', c', hr', hh', _⟩ := h'
  have hof : ∀ k, row = some k → RowOf W g k := by
    intro k hk
    rw [← hr] at hk
    rcases hown.2 with ⟨hn, _⟩ | ⟨r, cap, cur, hv, _⟩
    · rw [hn] at hk; cases hk
    · rw [hv] at hk
      injection hk with hk
      injection hv with hv1 hv2 hv3
      subst hv1 hk
      exact ⟨_, _, _, _, hh⟩
  refine ⟨hk.size, fun i cs fr hi hD hn => hk.heap ?_ hi, fun i hi => ?_⟩
  · rintro (rfl | hi')
    · rw [hh] at hi
      injection hi with hi
      injection hi with _ ht
      exact absurd ht (by decide)
    · exact hn (hof i hi'.symm)
  · obtain ⟨n, c2, m, la, hr2⟩ := hi
    rw [hh'] at hr2
    injection hr2 with hr2
    injection hr2 with hr2
    have : row' = some i := by
      rw [← hr']
      have := congrArg (fun x : Array Value => x[0]?) hr2
      simp at this
      rw [this.1]
      rfl
    rcases hrow i this with h1 | h1
    · exact .inr (.inl (hof i h1))
    · exact .inr (.inr h1)

theorem grown_of_kept {w w' : World} (h : Kept NoB w w') : w.grownBy w' none := ⟨h.os, h.tape, h.output, h.size, fun k hk _ => h.block k hk (fun h => h)⟩
attribute [local go_sem] Oper.semAt_some
theorem take_nth (l : List It) (k : Nat) (h : k < l.length) : l.take (k + 1) = l.take k ++ [nth l k] := by
  rw [List.take_add_one, nth_lt h]; rfl
set_option maxRecDepth 100000 in
set_option maxHeartbeats 2000000 in
/-- The iterator of a bag yields its items as they are when it begins, whatever a round does that keeps what it must. -/
theorem stops_bag {n c B g : Nat} {row : Option Nat} {most last : Int} {l : List It} {W0 : World} (hc : W0.cell? ⟨c, 0, none⟩ = some (.pointer (some ⟨g, 0, none⟩))) (hcl : c < W0.heap.size) (hb : Bg B W0 g row most last l) (hl : l.length ≤ 100000) (hn : 2 ≤ n) :
    SeqStopsK Fence.wide n Try.prog 39 #[.pointer (some ⟨c, 0, none⟩)] encI (KpB W0.heap.size g) (fun xs => xs = l) (fun pre => pre <+: l) l.length W0 := by
  intro y J Jx W hW hJ hJx hY h0
  have hk := kept_of_below hW
  have hcW := hk.cell (p := ⟨c, 0, none⟩) (fun h => h) hc
  have hbW := hb.keptNo hk
  obtain ⟨a, cp, c0, _, _, _, hown, hrow, hgl, hh⟩ := hbW.cells
  have hD := hk.size
  refine callsIn_of_wp Try.func39 rfl trivial ?_ rfl
  simp only [Try.ntmps39, List.size_toArray, List.length_cons, List.length_nil, Nat.reduceAdd, Nat.reduceSub, Array.replicate_succ, Array.replicate_zero, List.push_toArray, List.append_toArray, List.nil_append, List.cons_append]
  have hclone : Calls Try.prog 40 #[.slice a l.length cp] W fun e w' =>
      ∃ a' c', e = .returned (.slice a' l.length c') ∧ w'.ownsRow W.heap.size 66 2 (.slice a' l.length c') l.length (cel l) ∧ Kept NoB W w' := by
    rcases hown.2 with ⟨hv, h0⟩ | ⟨r, cap, cur, hv, _⟩
    · have hl0 : l = [] := List.eq_nil_of_length_eq_zero h0
      subst hl0
      injection hv with hv1 hv2 hv3
      subst hv1 hv3
      refine (Clone_nil W).mono ?_
      rintro e w' ⟨rfl, rfl⟩
      exact ⟨none, 0, rfl, World.ownsRow_nil _ _ _ _, Kept.refl _ _⟩
    · injection hv with hv1 hv2 hv3
      subst hv1 hv3
      exact Clone_any B r cp l W hown hl
  have HRL := Lib.hid (show ∀ r, a = some ⟨r, 0, none⟩ → r < W.heap.size from fun r hr => by subst hr; exact (hown.lt r rfl).2)
  have HCL := Lib.hid hclone
  have HH := Lib.hid hh
  clear hown hrow hclone hbW
  gi_wp2_with fail
  refine ⟨trivial, fun _ => by omega, ?_⟩
  refine (callsIn_wide.2 HCL.out).mono ?_
  rintro e w1 ⟨a', c', rfl, hrow1, hk1⟩
  have HR1 := Lib.hid hrow1
  have hg1 := hk1.heap (fun h => h) HH.out
  have hJ1 := hJ _ W w1 none h0 (grown_of_kept hk1) (fun r h => by cases h)
  have HJ1 := Lib.hid hJ1
  have hs1 := hk1.size
  have HG1 := Lib.hid hg1
  clear hrow1 hk1 hJ1 hg1
  gi_wp2
  gi_loopw [13] (fun i wr => ∃ k : Nat, i = .int .i64 k ∧ k ≤ l.length ∧ J (l.take k) wr ∧ wr.ownsRow W.heap.size 66 2 (.slice a' l.length c') l.length (cel l) ∧ (∀ r, a' = some ⟨r, 0, none⟩ → ¬ RowOf wr g r) ∧ W.heap.size ≤ wr.heap.size) (fun i _ => l.length - (intOf i).toNat)
  case atStart =>
    refine ⟨0, rfl, Nat.zero_le _, HJ1.out, HR1.out, fun r hr => ?_, hs1⟩
    rintro ⟨n', c2, m', la, hh2⟩
    rw [HG1.out] at hh2
    injection hh2 with hh2
    injection hh2 with hh2
    have := congrArg (fun x : Array Value => x[0]?) hh2
    simp at this
    have h1 := HRL.out r this.1
    have h2 := (HR1.out.lt r (by rw [hr]; rfl)).1
    omega
  case round =>
    obtain ⟨k, rfl, hk, hJk, hrow, hnr, hsz⟩ := hrel
    by_cases hlt : k < l.length
    · obtain ⟨r, hr, hBr, hrl, hcell, hfr, hlc, hcm, cur, hcur, hcs, hct⟩ := Bg.items hrow (by omega)
      subst hr
      obtain ⟨e0, e1⟩ := hcell k hlt
      obtain ⟨x1, x2, hx⟩ : ∃ x1 x2, nth l k = (x1, x2) := ⟨_, _, rfl⟩
      have ht := take_nth l k hlt
      rw [hx] at e0 e1 ht
      simp only at e0 e1
      have hJm := hJ _ wr (wr.alloc (.cells #[.int .i64 x1, .int .i64 x2] 66)) none hJk (grown_of_kept ((Kept.refl _ _).alloc _)) (fun r h => by cases h)
      obtain ⟨fn, tmps, assign, body, hy, hR⟩ := hY (l.take k) (x1, x2) _ hJm (by rw [List.length_take]; omega)
      have hy' : (Instr.yield y #[.int .i64 x1, .int .i64 x2]).run Try.prog (wr.alloc (.cells #[.int .i64 x1, .int .i64 x2] 66)) = .ok (.round y fn tmps assign body) (wr.alloc (.cells #[.int .i64 x1, .int .i64 x2] 66)) := hy
      have HT := Lib.hid ht
      have HNR := Lib.hid (hnr r rfl)
      have HROW := Lib.hid hrow
      have HCUR := Lib.hid hcur
      have HX := Lib.hid hx
      clear hy hcell hfr hcur hcs hct ht hnr hrow hx hJm hJk
      gi_wp2
      refine ⟨fun _ => by omega, ?_⟩
      refine hR.mono ?_
      rintro e W3 (⟨rfl, hJ3, hk3⟩ | ⟨rfl, hJx3⟩)
      · have hnr1 : ¬ RowOf (wr.alloc (.cells #[.int .i64 x1, .int .i64 x2] 66)) g r := by
          rintro ⟨n', c2, m', la, hh2⟩
          rw [heap_alloc_old wr _ (by omega)] at hh2
          exact HNR.out ⟨n', c2, m', la, hh2⟩
        have hcur3 := hk3.same r cur _ (blk_alloc HCUR.out _) (by omega) hnr1
        have hrow3 : W3.ownsRow W.heap.size 66 2 (.slice (some ⟨r, 0, none⟩) l.length c') l.length (cel l) := by
          refine ⟨HROW.out.1, ?_⟩
          rcases HROW.out.2 with ⟨hn, _⟩ | ⟨r', cap, cur', hv, hb', hh', rest⟩
          · cases hn
          · injection hv with hv1 hv2 hv3
            injection hv1 with hv1
            injection hv1 with hv1
            subst hv1
            rw [HCUR.out] at hh'
            injection hh' with hh'
            injection hh' with hh'
            subst hh'
            exact .inr ⟨r, cap, cur, by rw [hv3], hb', hcur3, rest⟩
        have hsz3 := hk3.size
        have hnr3 : ¬ RowOf W3 g r := by
          intro h
          rcases hk3.row r h with h1 | h1 | h1
          · omega
          · exact hnr1 h1
          · simp at h1
            omega
        have HJ3 := Lib.hid hJ3
        have HROW3 := Lib.hid hrow3
        have HNR3 := Lib.hid hnr3
        clear hnr1 hcur3 hrow3 hnr3 hJ3 hk3 hR hy'
        gi_wp2
        go_roundw
        case rel => exact ⟨k + 1, by go_num, by omega, by rw [HT.out]; exact HJ3.out, HROW3.out, (fun r' h => by injection h with h; injection h with h; subst h; exact HNR3.out), by simp at hsz3; omega⟩
        case measure => simp [intOf]; omega
      · have HJX := Lib.hid hJx3
        clear hJx3 hR hy'
        gi_wp2
        refine bodyPost_ret (results_none rfl _ _ _) rfl ?_
        exact ⟨⟨_, rfl⟩, .inr ⟨l.take k ++ [(x1, x2)], by rw [← HT.out]; exact List.take_prefix _ _, HJX.out⟩⟩
    · obtain rfl : k = l.length := by omega
      have HJK := Lib.hid hJk
      clear hJk hrow hnr
      gi_wp2
      go_end0
      exact ⟨⟨_, rfl⟩, .inl ⟨l, rfl, by have := HJK.out; rwa [List.take_length] at this⟩⟩
end Go.Proofs.Yteinjmhogkneoaa
