/-
  A row of configurations, one of which is turned; the rules that turn one.
-/
import Derived.Test.YtbdenjmnohhhiaaDoorCnfAC
import Derived.Test.YtbdenjmnohhhiaaDoorCnfY
namespace Go.Proofs.YtbdenjmnohhhiaaDoor
open Go.RowKit
set_option linter.unusedVariables false

def upd (us : Nat → Value) (j : Nat) (v : Value) : Nat → Value := fun i => if i = j then v else us i
theorem upd_at (us : Nat → Value) (j : Nat) (v : Value) : upd us j v j = v := if_pos rfl
theorem upd_far {us : Nat → Value} {i j : Nat} {v : Value} (h : i ≠ j) : upd us j v i = us i := if_neg h
theorem RowC.upd {w : World} {r cap : Nat} {l : List Cf} {us : Nat → Value} (h : RowC w r cap l us) {j : Nat} (hj : j < l.length) (c' : Cf) (v x : Value) (i : Nat) (hi : i < 5)
    (hc : ∀ i', i' < 5 → cellC (l.set j c') (upd us j v) (j * 5 + i') = if i' = i then x else cellC l us (j * 5 + i')) : RowC (w.setCell ⟨r, j * 5 + i, none⟩ x) r cap (l.set j c') (Go.Proofs.YtbdenjmnohhhiaaDoor.upd us j v) := by
  obtain ⟨cs, h1, h2, h3, h4, h5⟩ := h
  refine ⟨cs.setIfInBounds (j * 5 + i) x, bset1 h1 _ _, by simpa using h2, by rw [List.length_set]; exact h3, h4, fun m hm => ?_⟩
  rw [List.length_set] at hm
  rw [Array.getElem?_setIfInBounds]
  by_cases e : m / 5 = j
  · have hm5 : m = j * 5 + m % 5 := by omega
    rw [hm5, hc (m % 5) (by omega)]
    by_cases e2 : m % 5 = i
    · rw [if_pos (by omega), if_pos (by omega), if_pos e2]
    · rw [if_neg (by omega), if_neg e2, h5 _ (by omega)]
  · rw [if_neg (by omega), h5 m hm]
    congr 1
    unfold cellC
    rw [nthC_set hj, if_neg e, upd_far e]
theorem cell_set {l : List Cf} {us : Nat → Value} {j : Nat} (hj : j < l.length) (c' : Cf) (v : Value) (i' : Nat) (hi : i' < 5) :
    cellC (l.set j c') (upd us j v) (j * 5 + i') = if i' = 0 then .int .i64 c'.ch else if i' = 1 then .int .u64 c'.ep else if i' = 2 then v else if i' = 3 then .bool c'.fr else .int .i64 c'.jn := by
  rcases (by omega : i' = 0 ∨ i' = 1 ∨ i' = 2 ∨ i' = 3 ∨ i' = 4) with rfl | rfl | rfl | rfl | rfl
  · rw [Nat.add_zero, cellC0, nthC_set hj, if_pos rfl]; rfl
  · rw [cellC1, nthC_set hj, if_pos rfl]; rfl
  · rw [cellC2, upd_at]; rfl
  · rw [cellC3, nthC_set hj, if_pos rfl]; rfl
  · rw [cellC4, nthC_set hj, if_pos rfl]; rfl
theorem cell_old (l : List Cf) (us : Nat → Value) (j i' : Nat) (hi : i' < 5) :
    cellC l us (j * 5 + i') = if i' = 0 then .int .i64 (nthC l j).ch else if i' = 1 then .int .u64 (nthC l j).ep else if i' = 2 then us j else if i' = 3 then .bool (nthC l j).fr else .int .i64 (nthC l j).jn := by
  rcases (by omega : i' = 0 ∨ i' = 1 ∨ i' = 2 ∨ i' = 3 ∨ i' = 4) with rfl | rfl | rfl | rfl | rfl
  · rw [Nat.add_zero, cellC0]; rfl
  · rw [cellC1]; rfl
  · rw [cellC2]; rfl
  · rw [cellC3]; rfl
  · rw [cellC4]; rfl
theorem RowC.setFr {w : World} {r cap : Nat} {l : List Cf} {us : Nat → Value} (h : RowC w r cap l us) {j : Nat} (hj : j < l.length) (b : Bool) :
    RowC (w.setCell ⟨r, j * 5 + 3, none⟩ (.bool b)) r cap (l.set j { nthC l j with fr := b }) (Go.Proofs.YtbdenjmnohhhiaaDoor.upd us j (us j)) :=
  h.upd hj _ _ _ 3 (by decide) fun i' hi => by
    rw [cell_set hj _ _ _ hi, cell_old _ _ _ _ hi]
    rcases (by omega : i' = 0 ∨ i' = 1 ∨ i' = 2 ∨ i' = 3 ∨ i' = 4) with rfl | rfl | rfl | rfl | rfl <;> rfl
theorem RowC.setJn {w : World} {r cap : Nat} {l : List Cf} {us : Nat → Value} (h : RowC w r cap l us) {j : Nat} (hj : j < l.length) (n : Int) :
    RowC (w.setCell ⟨r, j * 5 + 4, none⟩ (.int .i64 n)) r cap (l.set j { nthC l j with jn := n }) (Go.Proofs.YtbdenjmnohhhiaaDoor.upd us j (us j)) :=
  h.upd hj _ _ _ 4 (by decide) fun i' hi => by
    rw [cell_set hj _ _ _ hi, cell_old _ _ _ _ hi]
    rcases (by omega : i' = 0 ∨ i' = 1 ∨ i' = 2 ∨ i' = 3 ∨ i' = 4) with rfl | rfl | rfl | rfl | rfl <;> rfl
theorem RowC.setEp {w : World} {r cap : Nat} {l : List Cf} {us : Nat → Value} (h : RowC w r cap l us) {j : Nat} (hj : j < l.length) (n : Int) :
    RowC (w.setCell ⟨r, j * 5 + 1, none⟩ (.int .u64 n)) r cap (l.set j { nthC l j with ep := n }) (Go.Proofs.YtbdenjmnohhhiaaDoor.upd us j (us j)) :=
  h.upd hj _ _ _ 1 (by decide) fun i' hi => by
    rw [cell_set hj _ _ _ hi, cell_old _ _ _ _ hi]
    rcases (by omega : i' = 0 ∨ i' = 1 ∨ i' = 2 ∨ i' = 3 ∨ i' = 4) with rfl | rfl | rfl | rfl | rfl <;> rfl
theorem RowC.setNs {w : World} {r cap : Nat} {l : List Cf} {us : Nat → Value} (h : RowC w r cap l us) {j : Nat} (hj : j < l.length) (v : Value) (ns : List Int) :
    RowC (w.setCell ⟨r, j * 5 + 2, none⟩ v) r cap (l.set j { nthC l j with ns := ns }) (Go.Proofs.YtbdenjmnohhhiaaDoor.upd us j v) :=
  h.upd hj _ _ _ 2 (by decide) fun i' hi => by
    rw [cell_set hj _ _ _ hi, cell_old _ _ _ _ hi]
    rcases (by omega : i' = 0 ∨ i' = 1 ∨ i' = 2 ∨ i' = 3 ∨ i' = 4) with rfl | rfl | rfl | rfl | rfl <;> rfl
theorem OwnC.upd {B : Nat} {S : Nat → Prop} {w w' : World} {l : List Cf} {us : Nat → Value} (h : OwnC B w l us) (hk : Kept S w w') {j : Nat} (hj : j < l.length) (c' : Cf) (v : Value)
    (hS : ∀ i, i < l.length → i ≠ j → ∀ k, (us i).ownBlock = some k → ¬ S k) (hv : IOwn B w' v c'.ns) (hb : 0 ≤ c'.ep ∧ c'.ep ≤ topE ∧ c'.ns.length ≤ 1000)
    (hap : ∀ i, i < l.length → i ≠ j → ∀ k, v.ownBlock = some k → (us i).ownBlock ≠ some k) : OwnC B w' (l.set j c') (Go.Proofs.YtbdenjmnohhhiaaDoor.upd us j v) := by
  refine ⟨fun i hi => ?_, fun i m k hi hm him h1 h2 => ?_⟩
  · rw [List.length_set] at hi
    rw [nthC_set hj]
    by_cases e : i = j
    · rw [if_pos e, e, upd_at]
      exact ⟨hv, hb⟩
    · rw [if_neg e, upd_far e]
      exact ⟨row_keptI (h.1 i hi).1 hk (hS i hi e), (h.1 i hi).2⟩
  · rw [List.length_set] at hi hm
    by_cases e : i = j
    · subst e
      rw [upd_at] at h1
      rw [upd_far (fun x => him x.symm)] at h2
      exact hap m hm (fun x => him x.symm) k h1 h2
    · rw [upd_far e] at h1
      by_cases e2 : m = j
      · subst e2
        rw [upd_at] at h2
        exact hap i hi e k h2 h1
      · rw [upd_far e2] at h2
        exact h.2 i m k hi hm him h1 h2
/-- A store into the row leaves all nodes as they were. -/
theorem OwnC.store {B r cap o : Nat} {w : World} {l : List Cf} {us : Nat → Value} (h : OwnC B w l us) (hr : RowC w r cap l us) {j : Nat} (hj : j < l.length) (c' : Cf) (x : Value) (hn : c'.ns = (nthC l j).ns) (hb : 0 ≤ c'.ep ∧ c'.ep ≤ topE) :
    OwnC B (w.setCell ⟨r, o, none⟩ x) (l.set j c') (Go.Proofs.YtbdenjmnohhhiaaDoor.upd us j (us j)) := by
  have hk : Kept (fun k => k = r) w (w.setCell ⟨r, o, none⟩ x) := (Kept.refl (fun k => k = r) w).setCell (p := ⟨r, o, none⟩) (.inl rfl) x
  refine h.upd hk hj c' _ (fun i hi _ k hk2 e => row_ne hr (h.1 i hi).1 (e ▸ hk2)) ?_ ⟨hb.1, hb.2, by rw [hn]; exact (h.1 j hj).2.2.2⟩ (fun i hi hij k h1 h2 => h.2 i j k hi hj hij h2 h1)
  rw [hn]
  exact row_keptI (h.1 j hj).1 hk (fun i h1 h2 => row_ne hr (h.1 j hj).1 (h2 ▸ h1))
def DoEnd (B r cap : Nat) (l' : List Cf) (w : World) (e : Ending) (w' : World) : Prop := e = .returned (.tuple #[]) ∧ (∃ us', RowC w' r cap l' us' ∧ OwnC B w' l' us') ∧ Kept (fun k => B ≤ k) w w'
/-- What a command makes, but for the epoch. -/
def turnC (c : Cf) (k nd : Int) : Cf := { madeC c k nd with ep := c.ep }
theorem turn2 (c : Cf) (nd : Int) : turnC c 2 nd = { c with jn := nd } := by unfold turnC madeC; rw [if_neg (by decide), if_pos rfl]
theorem turn3 (c : Cf) (nd : Int) : turnC c 3 nd = { c with ns := c.ns ++ [nd], fr := true, jn := 0 } := by unfold turnC madeC; rw [if_neg (by decide), if_neg (by decide), if_pos rfl]
theorem turn4 (c : Cf) (nd : Int) : turnC c 4 nd = { c with fr := false } := by unfold turnC madeC; rw [if_neg (by decide), if_neg (by decide), if_neg (by decide)]
theorem turn1 (c : Cf) (nd : Int) : turnC c 1 nd = if c.jn = nd then { c with jn := 0 } else { c with ns := c.ns.filter (fun x => decide (x ≠ nd)), fr := c.fr && decide (c.last ≠ nd) } := by
  unfold turnC madeC
  rw [if_pos rfl]
  split <;> rfl
theorem set_set (l : List Cf) (j : Nat) (a b : Cf) : (l.set j a).set j b = l.set j b := by simp
theorem nthC_sets {l : List Cf} {j : Nat} (hj : j < l.length) (a : Cf) : nthC (l.set j a) j = a := by rw [nthC_set hj, if_pos rfl]
theorem do_append (B r cap : Nat) (l : List Cf) (us : Nat → Value) (j : Nat) (nd : Int) (w : World) (hr : RowC w r cap l us) (ho : OwnC B w l us) (hB : B ≤ r) (hj : j < l.length) :
    Calls Tryd.prog 60 #[.pointer (some ⟨r, j * 5, none⟩), .int .i64 nd] w (DoEnd B r cap (l.set j (turnC (nthC l j) 2 nd)) w) := by
  obtain ⟨c4, f4⟩ := hr.cell (m := j * 5 + 4) (by omega)
  have HE : Hid (DoEnd B r cap (l.set j (turnC (nthC l j) 2 nd)) w (.returned (.tuple #[])) (w.setCell ⟨r, j * 5 + 4, none⟩ (.int .i64 nd))) := Lib.hid (by
    rw [turn2]
    exact ⟨rfl, ⟨_, hr.setJn hj nd, ho.store hr hj { nthC l j with jn := nd } _ rfl ⟨(ho.1 j hj).2.1, (ho.1 j hj).2.2.1⟩⟩, (Kept.refl _ w).setCell (p := ⟨r, j * 5 + 4, none⟩) (.inl hB) _⟩)
  clear hr ho
  go_enter Tryd.func60, Tryd.ntmps60
  go_wp2
  go_end0
  exact HE.out
theorem do_settle (B r cap : Nat) (l : List Cf) (us : Nat → Value) (j : Nat) (nd : Int) (w : World) (hr : RowC w r cap l us) (ho : OwnC B w l us) (hB : B ≤ r) (hj : j < l.length) :
    Calls Tryd.prog 64 #[.pointer (some ⟨r, j * 5, none⟩), .int .i64 nd] w (DoEnd B r cap (l.set j (turnC (nthC l j) 4 nd)) w) := by
  obtain ⟨c4, f4⟩ := hr.cell (m := j * 5 + 3) (by omega)
  have HE : Hid (DoEnd B r cap (l.set j (turnC (nthC l j) 4 nd)) w (.returned (.tuple #[])) (w.setCell ⟨r, j * 5 + 3, none⟩ (.bool false))) := Lib.hid (by
    rw [turn4]
    exact ⟨rfl, ⟨_, hr.setFr hj false, ho.store hr hj { nthC l j with fr := false } _ rfl ⟨(ho.1 j hj).2.1, (ho.1 j hj).2.2.1⟩⟩, (Kept.refl _ w).setCell (p := ⟨r, j * 5 + 3, none⟩) (.inl hB) _⟩)
  clear hr ho
  go_enter Tryd.func64, Tryd.ntmps64
  go_wp2
  go_end0
  exact HE.out
theorem OwnC.kept {B : Nat} {S : Nat → Prop} {w w' : World} {l : List Cf} {us : Nat → Value} (h : OwnC B w l us) (hk : Kept S w w') (hS : ∀ i, i < l.length → ∀ k, (us i).ownBlock = some k → ¬ S k) : OwnC B w' l us :=
  ⟨fun i hi => ⟨row_keptI (h.1 i hi).1 hk (hS i hi), (h.1 i hi).2⟩, h.2⟩
theorem OwnC.slice {B : Nat} {w : World} {l : List Cf} {us : Nat → Value} (h : OwnC B w l us) {j : Nat} (hj : j < l.length) : ∃ a c, us j = .slice a (nthC l j).ns.length c := (h.1 j hj).1.form
theorem kept_le {B r o : Nat} {a w : World} (h : Kept (fun k => B ≤ k) a w) (hB : B ≤ r) (x : Value) : Kept (fun k => B ≤ k) a (w.setCell ⟨r, o, none⟩ x) := h.setCell (p := ⟨r, o, none⟩) (.inl hB) x
set_option maxRecDepth 100000 in
set_option maxHeartbeats 1000000 in
theorem do_promote (B r cap : Nat) (l : List Cf) (us : Nat → Value) (j : Nat) (nd : Int) (w : World) (hr : RowC w r cap l us) (ho : OwnC B w l us) (hB : B ≤ r) (hBw : B ≤ w.heap.size) (hj : j < l.length) (h5 : (nthC l j).ns.length ≤ 5) :
    Calls Tryd.prog 62 #[.pointer (some ⟨r, j * 5, none⟩), .int .i64 nd] w (DoEnd B r cap (l.set j (turnC (nthC l j) 3 nd)) w) := by
  obtain ⟨a, c, hus⟩ := ho.slice hj
  have e2 := (hr.cell (m := j * 5 + 2) (by omega)).1
  rw [cellC2, hus] at e2
  have HR := Lib.hid hr
  have HO := Lib.hid ho
  have hou : IOwn B w (.slice a (nthC l j).ns.length c) (nthC l j).ns := by rw [← hus]; exact (ho.1 j hj).1
  obtain ⟨ns, hns⟩ : ∃ ns, ns = (nthC l j).ns := ⟨_, rfl⟩
  rw [← hns] at e2 h5 hou hus
  have HUS := Lib.hid hus
  have HOU := Lib.hid (row_keptI hou ((Kept.refl NoB w).alloc (.cells #[.int .i64 nd] 3)) (fun _ _ h => h))
  have HNS := Lib.hid hns
  have HON := Lib.hid (nsl_one (heap_alloc_new w (.cells #[.int .i64 nd] 3)))
  have HSZ : Hid (B ≤ (w.alloc (.cells #[.int .i64 nd] 3)).heap.size) := Lib.hid (by simp; omega)
  have hrl := hr.lt
  clear hr ho hus hou hns
  go_enter Tryd.func62, Tryd.ntmps62
  go_wp2_with (at_builtin; refine wpList_append_nsl _ rfl (.tmp 8) (.tmp 10) rfl B (.slice a ns.length c) ns rfl HOU.out (fun _ => True) (.slice (some ⟨w.heap.size, 0, none⟩) 1 1) [nd] rfl HON.out (by simp; omega) HSZ.out ?_; intro a1 c1 w1 hown1 hg1 hat1; have hk1 : Kept (fun k => (Value.slice a ns.length c).ownBlock = some k) w w1 := ((Kept.refl _ w).alloc _).grown hg1 (fun k hk => .inl hk); have hr1 := HR.out.kept hk1 (fun h => row_ne HR.out (HO.out.1 j hj).1 (by rw [HUS.out]; exact h)); have HK1 := Lib.hid hk1; have HR1 := Lib.hid hr1; have HOW1 := Lib.hid hown1; have HAT := Lib.hid hat1; obtain ⟨d2, f2⟩ := hr1.cell (m := j * 5 + 2) (by omega); obtain ⟨d3, f3⟩ := hr1.cell (m := j * 5 + 3) (by omega); obtain ⟨d4, f4⟩ := hr1.cell (m := j * 5 + 4) (by omega); clear hk1 hr1 hown1 hg1 hat1)
  go_end0
  have hown : IOwn B w1 (.slice a1 (ns.length + 1) c1) (ns ++ [nd]) := by simpa using HOW1.out
  have hr1 := HR1.out
  have hs1 := hr1.setNs hj (.slice a1 (ns.length + 1) c1) (ns ++ [nd])
  have hkr : Kept (fun k => k = r) w1 (w1.setCell ⟨r, j * 5 + 2, none⟩ (.slice a1 (ns.length + 1) c1)) := (Kept.refl (fun k => k = r) w1).setCell (p := ⟨r, j * 5 + 2, none⟩) (.inl rfl) _
  have ho1 : OwnC B w1 (l.set j { nthC l j with ns := ns ++ [nd] }) (upd us j (.slice a1 (ns.length + 1) c1)) := HO.out.upd HK1.out hj _ _ (fun i hi hij k hk h => HO.out.2 i j k hi hj hij hk (by rw [HUS.out]; exact h)) hown ⟨(HO.out.1 j hj).2.1, (HO.out.1 j hj).2.2.1, by show (ns ++ [nd]).length ≤ 1000; simp; omega⟩ (fun i hi hij k hk h => by
    rcases HAT.out with e | e
    · have e : (Value.slice a1 (ns.length + 1) c1).ownBlock = _ := e
      rw [e] at hk
      exact HO.out.2 i j k hi hj hij h (by rw [HUS.out]; exact hk)
    · have e : (Value.slice a1 (ns.length + 1) c1).ownBlock = _ := e
      rw [e] at hk
      injection hk with hk
      have h2 := (World.ownsRow.lt (HO.out.1 i hi).1 k h).2
      rw [← hk] at h2
      simp at h2
      omega)
  have ho2 := ho1.kept hkr (fun i hi k h1 h2 => row_ne hr1 (ho1.1 i hi).1 (h2 ▸ h1))
  have hj1 : j < (l.set j { nthC l j with ns := ns ++ [nd] }).length := by rw [List.length_set]; exact hj
  have hb0 := (HO.out.1 j hj).2
  have hs2 := hs1.setFr hj1 true
  have ho3 := ho2.store hs1 (o := j * 5 + 3) hj1 { nthC (l.set j { nthC l j with ns := ns ++ [nd] }) j with fr := true } (.bool true) rfl (by rw [nthC_sets hj]; exact ⟨hb0.1, hb0.2.1⟩)
  rw [nthC_sets hj, set_set] at hs2 ho3
  have hj2 : j < (l.set j { nthC l j with ns := ns ++ [nd], fr := true }).length := by rw [List.length_set]; exact hj
  have hs3 := hs2.setJn hj2 0
  have ho4 := ho3.store hs2 (o := j * 5 + 4) hj2 { nthC (l.set j { nthC l j with ns := ns ++ [nd], fr := true }) j with jn := 0 } (.int .i64 0) rfl (by rw [nthC_sets hj]; exact ⟨hb0.1, hb0.2.1⟩)
  rw [nthC_sets hj, set_set] at hs3 ho4
  have HF : l.set j (turnC (nthC l j) 3 nd) = l.set j { nthC l j with ns := ns ++ [nd], fr := true, jn := 0 } := by rw [turn3, ← HNS.out]
  rw [HF]
  exact ⟨rfl, ⟨_, hs3, ho4⟩, kept_le (kept_le (kept_le (HK1.out.mono (fun k hk h => (World.ownsRow.lt (HO.out.1 j hj).1 k (by rw [HUS.out]; exact h)).1)) hB _) hB _) hB _⟩
end Go.Proofs.YtbdenjmnohhhiaaDoor
