/-
  Package conf: Right. The chapter's Right. slices.ContainsFunc over numbers and configurations; who is used. Package conf and its answer: who is used. Configurations of any size in memory, and whether they are few. Package conf: All. The chapter's All; who is settled; copies. Copies: of numbers, of configurations.
-/
import Derived.Test.YtcbenminaakahaaGreatDoorCnf1
namespace Go.Proofs.YtcbenminaakahaaGreatDoor
open Go.RowKit
set_option linter.unusedVariables false

set_option maxRecDepth 100000 in
set_option maxHeartbeats 2000000 in
theorem Right_any (v : Value) (c : Cf) (F : Nat → Prop) (w : World) (h : CfV w F v c) : Calls Tryz.prog 115 #[v] w (BoolE (rgtB c) w) := by
  obtain ⟨u, rfl, hn, h0, htop, hl⟩ := id h
  obtain ⟨a, cap, rfl, _⟩ := id hn
  have HM := Lib.hid (fun w' (hk : Kept NoB w w') => members_any _ c F w' (h.kept hk (fun _ _ _ h => h)))
  obtain ⟨d, hd⟩ : ∃ d, d = unqB c.mem := ⟨_, rfl⟩
  have HR := Lib.hid (rgt_is c d hd)
  have HD := Lib.hid (fun v (F : Nat → Prop) w (h : NSl w F v c.mem) => hd ▸ different_any v c.mem F w h)
  obtain ⟨r, hr⟩ : ∃ r, r = rgtB c := ⟨_, rfl⟩
  rw [← hr] at HR ⊢
  clear h hn hd hr
  obtain ⟨ch, hch⟩ : ∃ x, x = c.ch := ⟨_, rfl⟩
  obtain ⟨ep, hep⟩ : ∃ x, x = c.ep := ⟨_, rfl⟩
  obtain ⟨fr, hfr⟩ : ∃ x, x = c.fr := ⟨_, rfl⟩
  obtain ⟨jn, hjn⟩ : ∃ x, x = c.jn := ⟨_, rfl⟩
  obtain ⟨n, hnn⟩ : ∃ x, x = c.ns.length := ⟨_, rfl⟩
  obtain ⟨M, hM⟩ : ∃ x, x = c.mem := ⟨_, rfl⟩
  rw [← hch, ← hep, ← hfr, ← hjn, ← hnn] at HM HR ⊢
  rw [← hM] at HM HD
  rw [← hnn] at hl
  rw [← hep] at h0 htop
  clear hch hep hfr hjn hnn hM
  have hb := heap_alloc_new w (.cells #[.int .i64 ch, .int .u64 ep, .slice a n cap, .bool fr, .int .i64 jn] 29)
  have HB := Lib.hid hb
  have HK := Lib.hid ((Kept.refl NoB w).alloc (.cells #[.int .i64 ch, .int .u64 ep, .slice a n cap, .bool fr, .int .i64 jn] 29))
  clear hb
  cases fr <;> cases d
  all_goals
    go_enter Tryz.func115, Tryz.ntmps115
    go_wp2_with (first
      | (go_at_call 175; refine (HM.out _ HK.out).mono ?_; rintro e w1 ⟨v', rfl, hn, hk1⟩; obtain ⟨e0, e1, e2, e3, e4⟩ := cells5 (hk1.heap (fun h => h) HB.out); have HN := Lib.hid hn; have HK1 := Lib.hid (HK.out.trans hk1 (fun _ _ h => h)); clear hn hk1)
      | (go_at_call 174; refine (HD.out _ _ _ HN.out).mono ?_; rintro e w2 ⟨rfl, rfl⟩))
    all_goals go_ret
    all_goals exact ⟨retB (by rw [HR.out]; first | (simp <;> omega) | (rw [Bool.eq_iff_iff]; simp <;> omega)), (by first | exact HK1.out | exact (Kept.refl _ _).alloc _)⟩
end Go.Proofs.YtcbenminaakahaaGreatDoor
namespace Go.Proofs.YtcbenminaakahaaGreatDoor
open Go.RowKit
set_option linter.unusedVariables false

set_option maxRecDepth 100000 in
set_option maxHeartbeats 2000000 in
theorem RRight_any (v : Value) (c : Cf) (F : Nat → Prop) (w : World) (h : CfV w F v c) : Calls Tryz.prog 118 #[v] w (BoolE (rgtB c) w) := by
  obtain ⟨u, rfl, hn, h0, htop, hl⟩ := id h
  obtain ⟨a, cap, rfl, _⟩ := id hn
  have HM := Lib.hid (fun w' (hk : Kept NoB w w') => Stands_any _ c F w' (h.kept hk (fun _ _ _ h => h)))
  obtain ⟨d, hd⟩ : ∃ d, d = unqB c.mem := ⟨_, rfl⟩
  have HR := Lib.hid (rgt_is c d hd)
  have HD := Lib.hid (fun v (F : Nat → Prop) w (h : NSl w F v c.mem) => hd ▸ Unlike_any v c.mem F w h)
  obtain ⟨r, hr⟩ : ∃ r, r = rgtB c := ⟨_, rfl⟩
  rw [← hr] at HR ⊢
  clear h hn hd hr
  obtain ⟨ch, hch⟩ : ∃ x, x = c.ch := ⟨_, rfl⟩
  obtain ⟨ep, hep⟩ : ∃ x, x = c.ep := ⟨_, rfl⟩
  obtain ⟨fr, hfr⟩ : ∃ x, x = c.fr := ⟨_, rfl⟩
  obtain ⟨jn, hjn⟩ : ∃ x, x = c.jn := ⟨_, rfl⟩
  obtain ⟨n, hnn⟩ : ∃ x, x = c.ns.length := ⟨_, rfl⟩
  obtain ⟨M, hM⟩ : ∃ x, x = c.mem := ⟨_, rfl⟩
  rw [← hch, ← hep, ← hfr, ← hjn, ← hnn] at HM HR ⊢
  rw [← hM] at HM HD
  rw [← hnn] at hl
  rw [← hep] at h0 htop
  clear hch hep hfr hjn hnn hM
  have hb := heap_alloc_new w (.cells #[.int .i64 ch, .int .u64 ep, .slice a n cap, .bool fr, .int .i64 jn] 29)
  have HB := Lib.hid hb
  have HK := Lib.hid ((Kept.refl NoB w).alloc (.cells #[.int .i64 ch, .int .u64 ep, .slice a n cap, .bool fr, .int .i64 jn] 29))
  clear hb
  cases fr <;> cases d
  all_goals
    go_enter Tryz.func118, Tryz.ntmps118
    go_wp2_with (first
      | (go_at_call 178; refine (HM.out _ HK.out).mono ?_; rintro e w1 ⟨v', rfl, hown, hk1⟩; have hn := hown.nslB; clear hown; obtain ⟨e0, e1, e2, e3, e4⟩ := cells5 (hk1.heap (fun h => h) HB.out); have HN := Lib.hid hn; have HK1 := Lib.hid (HK.out.trans hk1 (fun _ _ h => h)); clear hn hk1)
      | (go_at_call 177; refine (HD.out _ _ _ HN.out).mono ?_; rintro e w2 ⟨rfl, hk2⟩; replace HK1 := Lib.hid (HK1.out.trans hk2 (fun _ _ h => h)); clear hk2))
    all_goals go_ret
    all_goals exact ⟨retB (by rw [HR.out]; first | (simp <;> omega) | (rw [Bool.eq_iff_iff]; simp <;> omega) | (simp at * <;> omega)), (by first | exact HK1.out | exact (Kept.refl _ _).alloc _)⟩
end Go.Proofs.YtcbenminaakahaaGreatDoor
namespace Go.Proofs.YtcbenminaakahaaGreatDoor
open Go.RowKit
set_option linter.unusedVariables false

/-- A function of the program that has a body. -/
def Enters (f : FuncId) : Prop := ∀ (args : Array Value) (w : World), Sem.run Tryz.prog (callFunc f args) w = .ok (.enter f args) w
/-- A function literal that tells p of a number, in any later world. -/
def TellsN (f : FuncId) (caps : Array Value) (l : List Int) (p : Int → Bool) (w : World) : Prop :=
  Enters f ∧ ∀ x w', x ∈ l → Kept NoB w w' → Calls Tryz.prog f (#[.int .i64 x] ++ caps) w' (BoolE (p x) w')
/-- A function literal that tells p of a configuration, in any later world. -/
def TellsC (f : FuncId) (caps : Array Value) (l : List Cf) (p : Cf → Bool) (w : World) : Prop :=
  Enters f ∧ ∀ v c w' (F : Nat → Prop), c ∈ l → CfV w' F v c → Kept NoB w w' → Calls Tryz.prog f (#[v] ++ caps) w' (BoolE (p c) w')
end Go.Proofs.YtcbenminaakahaaGreatDoor
namespace Go.Proofs.YtcbenminaakahaaGreatDoor
open Go.RowKit
set_option linter.unusedVariables false

theorem cf_eta (w : World) (F : Nat → Prop) (c : Cf) (u : Value) (h : NSl w F u c.ns) (hb : 0 ≤ c.ep ∧ c.ep ≤ topE ∧ c.ns.length ≤ 1000) : CfV w F (.agg #[.int .i64 c.ch, .int .u64 c.ep, u, .bool c.fr, .int .i64 c.jn]) c := ⟨u, rfl, h, hb⟩
end Go.Proofs.YtcbenminaakahaaGreatDoor
namespace Go.Proofs.YtcbenminaakahaaGreatDoor
open Go.RowKit
set_option linter.unusedVariables false

/-- A configuration by value, as large as it likes. -/
def CfR (w : World) (F : Nat → Prop) (v : Value) (c : Cf) : Prop :=
  ∃ u, v = .agg #[.int .i64 c.ch, .int .u64 c.ep, u, .bool c.fr, .int .i64 c.jn] ∧ NSl w F u c.ns ∧ 0 ≤ c.ep ∧ c.ep ≤ topE
/-- In five cells. -/
def CfL (w : World) (F : Nat → Prop) (b o : Nat) (c : Cf) : Prop :=
  ∃ u, w.cell? ⟨b, o, none⟩ = some (.int .i64 c.ch) ∧ w.cell? ⟨b, o + 1, none⟩ = some (.int .u64 c.ep) ∧ w.cell? ⟨b, o + 2, none⟩ = some u ∧ w.cell? ⟨b, o + 3, none⟩ = some (.bool c.fr) ∧
    w.cell? ⟨b, o + 4, none⟩ = some (.int .i64 c.jn) ∧ NSl w F u c.ns ∧ 0 ≤ c.ep ∧ c.ep ≤ topE
/-- A slice of them. -/
def CfsR (w : World) (F : Nat → Prop) (v : Value) (l : List Cf) : Prop :=
  ∃ a cap, v = .slice a l.length cap ∧ l.length ≤ cap ∧ cap ≤ maxLen ∧ (a = none → cap = 0) ∧
    (0 < l.length → ∃ b o, a = some ⟨b, o, none⟩ ∧ F b ∧ b < w.heap.size ∧ ∀ j, j < l.length → CfL w F b (o + j * 5) (nthC l j))
def Few (l : List Cf) : Prop := l.length ≤ 6 ∧ ∀ j, j < l.length → (nthC l j).ns.length ≤ 30
instance (l : List Cf) : Decidable (Few l) := inferInstanceAs (Decidable (_ ∧ _))
theorem CfR.cfV {w : World} {F : Nat → Prop} {v : Value} {c : Cf} (h : CfR w F v c) (hf : c.ns.length ≤ 30) : CfV w F v c := by
  obtain ⟨u, h1, h2, h3, h4⟩ := h
  exact ⟨u, h1, h2, h3, h4, by omega⟩
theorem CfsR.cfs {w : World} {F : Nat → Prop} {v : Value} {l : List Cf} (h : CfsR w F v l) (hf : Few l) : CfsAt w F v l := by
  obtain ⟨a, cap, h1, h2, h3, h4, h5⟩ := h
  refine ⟨a, cap, h1, h2, h3, h4, fun hl => ?_⟩
  obtain ⟨b, o, ha, hF, hb, hc⟩ := h5 hl
  refine ⟨b, o, ha, hF, hb, fun j hj => ?_⟩
  obtain ⟨u, e0, e1, e2, e3, e4, hn, q0, q1⟩ := hc j hj
  exact ⟨u, e0, e1, e2, e3, e4, hn, q0, q1, by have := hf.2 j hj; omega⟩
end Go.Proofs.YtcbenminaakahaaGreatDoor
namespace Go.Proofs.YtcbenminaakahaaGreatDoor
open Go.RowKit
set_option linter.unusedVariables false

theorem balloc {w : World} {g : Nat} {o : Obj} (h : w.heap[g]? = some o) (x : Obj) : (w.alloc x).heap[g]? = some o := (heap_alloc_old w x (heap_lt h)).trans h
end Go.Proofs.YtcbenminaakahaaGreatDoor
namespace Go.Proofs.YtcbenminaakahaaGreatDoor
open Go.RowKit
set_option linter.unusedVariables false

theorem memL_small {l : List Cf} (h : ∀ i, i < l.length → Rgt (nthC l i)) (k : Nat) (hk : k ≤ l.length) : (memL (l.take k)).length ≤ 6 * k := by
  induction k with
  | zero => simp [memL]
  | succ k ih =>
    rw [memL_take (by omega), List.length_append]
    have h1 := ih (by omega)
    have h2 := (h k (by omega)).2.2.2.2.1
    have h3 : (nthC l k).mem.length ≤ (nthC l k).ns.length + 1 := by
      unfold Cf.mem
      split
      · omega
      · simp
    omega
theorem all_len4 {l : List Cf} (h : allB l = true) : l.length ≤ 4 := (of_decide_eq_true h : AllC l).2.1
end Go.Proofs.YtcbenminaakahaaGreatDoor
namespace Go.Proofs.YtcbenminaakahaaGreatDoor
open Go.RowKit
set_option linter.unusedVariables false

/-- The cells of a list of configurations; us: their nodes' slices. -/
def cellC (l : List Cf) (us : Nat → Value) (m : Nat) : Value :=
  if m % 5 = 0 then .int .i64 (nthC l (m / 5)).ch else if m % 5 = 1 then .int .u64 (nthC l (m / 5)).ep else if m % 5 = 2 then us (m / 5) else if m % 5 = 3 then .bool (nthC l (m / 5)).fr else .int .i64 (nthC l (m / 5)).jn
theorem cellC0 (l : List Cf) (us : Nat → Value) (j : Nat) : cellC l us (j * 5) = .int .i64 (nthC l j).ch := by
  unfold cellC
  rw [if_pos (by omega), show j * 5 / 5 = j by omega]
theorem cellC1 (l : List Cf) (us : Nat → Value) (j : Nat) : cellC l us (j * 5 + 1) = .int .u64 (nthC l j).ep := by
  unfold cellC
  rw [if_neg (by omega), if_pos (by omega), show (j * 5 + 1) / 5 = j by omega]
theorem cellC2 (l : List Cf) (us : Nat → Value) (j : Nat) : cellC l us (j * 5 + 2) = us j := by
  unfold cellC
  rw [if_neg (by omega), if_neg (by omega), if_pos (by omega), show (j * 5 + 2) / 5 = j by omega]
theorem cellC3 (l : List Cf) (us : Nat → Value) (j : Nat) : cellC l us (j * 5 + 3) = .bool (nthC l j).fr := by
  unfold cellC
  rw [if_neg (by omega), if_neg (by omega), if_neg (by omega), if_pos (by omega), show (j * 5 + 3) / 5 = j by omega]
theorem cellC4 (l : List Cf) (us : Nat → Value) (j : Nat) : cellC l us (j * 5 + 4) = .int .i64 (nthC l j).jn := by
  unfold cellC
  rw [if_neg (by omega), if_neg (by omega), if_neg (by omega), if_neg (by omega), show (j * 5 + 4) / 5 = j by omega]
def cellsC (l : List Cf) (us : Nat → Value) : List Value := (List.range (l.length * 5)).map (cellC l us)
theorem cellsC_at {l : List Cf} {us : Nat → Value} {m : Nat} (h : m < l.length * 5) : (cellsC l us)[m]? = some (cellC l us m) := by
  unfold cellsC
  rw [List.getElem?_map, List.getElem?_range h]
  rfl
/-- Block r is a row of these configurations. -/
def RowC (w : World) (r cap : Nat) (l : List Cf) (us : Nat → Value) : Prop :=
  ∃ cs : Array Value, w.heap[r]? = some (.cells cs 29 (0, 0)) ∧ cs.size = cap * 5 ∧ l.length ≤ cap ∧ cap ≤ maxLen ∧ ∀ m, m < l.length * 5 → cs[m]? = some (cellC l us m)
theorem RowC.kept {S : Nat → Prop} {w w' : World} {r cap : Nat} {l : List Cf} {us : Nat → Value} (h : RowC w r cap l us) (hk : Kept S w w') (hs : ¬ S r) : RowC w' r cap l us := by
  obtain ⟨cs, h1, h2⟩ := h
  exact ⟨cs, hk.heap hs h1, h2⟩
theorem RowC.cell {w : World} {r cap : Nat} {l : List Cf} {us : Nat → Value} (h : RowC w r cap l us) {m : Nat} (hm : m < l.length * 5) : w.cell? ⟨r, m, none⟩ = some (cellC l us m) ∧ w.frozen? ⟨r, m, none⟩ = false := by
  obtain ⟨cs, h1, h2, _, _, h3⟩ := h
  exact ⟨(cell_of_row _ _ _ _ _ _ h1).trans (h3 m hm), by simp [World.frozen?, h1]⟩
theorem RowC.lt {w : World} {r cap : Nat} {l : List Cf} {us : Nat → Value} (h : RowC w r cap l us) : r < w.heap.size := by
  obtain ⟨cs, h1, _⟩ := h
  exact heap_lt h1
/-- Each one's nodes lie where they are read. -/
def NodesC (w : World) (F : Nat → Prop) (l : List Cf) (us : Nat → Value) : Prop := ∀ j, j < l.length → NSl w F (us j) (nthC l j).ns ∧ 0 ≤ (nthC l j).ep ∧ (nthC l j).ep ≤ topE ∧ (nthC l j).ns.length ≤ 1000
theorem NodesC.kept {S F : Nat → Prop} {w w' : World} {l : List Cf} {us : Nat → Value} (h : NodesC w F l us) (hk : Kept S w w') (hs : ∀ k, k < w.heap.size → F k → ¬ S k) : NodesC w' F l us :=
  fun j hj => ⟨(h j hj).1.kept hk hs, (h j hj).2⟩
theorem RowC.cfs {w : World} {r cap : Nat} {l : List Cf} {us : Nat → Value} {F : Nat → Prop} (h : RowC w r cap l us) (hn : NodesC w F l us) (hF : F r) : CfsAt w F (.slice (some ⟨r, 0, none⟩) l.length cap) l := by
  have hlt := h.lt
  obtain ⟨_, _, _, h3, h4, _⟩ := id h
  refine ⟨_, cap, rfl, h3, h4, (fun h => by cases h), fun _ => ⟨r, 0, rfl, hF, hlt, fun j hj => ?_⟩⟩
  obtain ⟨hu, hb⟩ := hn j hj
  have c0 := (h.cell (m := j * 5) (by omega)).1
  have c1 := (h.cell (m := j * 5 + 1) (by omega)).1
  have c2 := (h.cell (m := j * 5 + 2) (by omega)).1
  have c3 := (h.cell (m := j * 5 + 3) (by omega)).1
  have c4 := (h.cell (m := j * 5 + 4) (by omega)).1
  rw [cellC0] at c0
  rw [cellC1] at c1
  rw [cellC2] at c2
  rw [cellC3] at c3
  rw [cellC4] at c4
  refine ⟨us j, ?_, ?_, ?_, ?_, ?_, hu, hb⟩
  · simpa using c0
  · simpa using c1
  · simpa using c2
  · simpa using c3
  · simpa using c4
/-- The slices of the nodes of configurations that are read. -/
theorem cfs_us {F : Nat → Prop} {w : World} {a : Option Addr} {n cap : Nat} {l : List Cf} (h : CfsAt w F (.slice a n cap) l) :
    ∃ us : Nat → Value, NodesC w F l us ∧ ∀ ad, a = some ad → ∀ m u, (cellsC l us)[m]? = some u → w.cell? (ad.add m) = some u := by
  have key : ∀ j, ∃ u, j < l.length → (NSl w F u (nthC l j).ns ∧ 0 ≤ (nthC l j).ep ∧ (nthC l j).ep ≤ topE ∧ (nthC l j).ns.length ≤ 1000) ∧ ∀ ad, a = some ad → ∀ i, i < 5 → w.cell? (ad.add (j * 5 + i)) = some (cellC l (fun _ => u) (j * 5 + i)) := by
    intro j
    by_cases hj : j < l.length
    · obtain ⟨b, o, ha, _, _, u, e0, e1, e2, e3, e4, hn, hb⟩ := h.at_ hj
      refine ⟨u, fun _ => ⟨⟨hn, hb⟩, fun ad had i hi => ?_⟩⟩
      rw [ha] at had
      injection had with had
      subst had
      have hadd : ∀ m, (⟨b, o, none⟩ : Addr).add m = ⟨b, o + m, none⟩ := fun m => by unfold Addr.add; split <;> simp_all
      rw [hadd]
      rcases (by omega : i = 0 ∨ i = 1 ∨ i = 2 ∨ i = 3 ∨ i = 4) with rfl | rfl | rfl | rfl | rfl
      · rw [Nat.add_zero, cellC0]; exact e0
      · rw [cellC1, ← Nat.add_assoc]; exact e1
      · rw [cellC2, ← Nat.add_assoc]; exact e2
      · rw [cellC3, ← Nat.add_assoc]; exact e3
      · rw [cellC4, ← Nat.add_assoc]; exact e4
    · exact ⟨undef, fun h => absurd h hj⟩
  refine ⟨fun j => Classical.choose (key j), fun j hj => (Classical.choose_spec (key j) hj).1, fun ad had m u hu => ?_⟩
  have hm : m < l.length * 5 := by
    rcases Nat.lt_or_ge m (l.length * 5) with h | h
    · exact h
    · rw [List.getElem?_eq_none (by simpa [cellsC] using h)] at hu; cases hu
  rw [cellsC_at hm] at hu
  injection hu with hu
  have hs := (Classical.choose_spec (key (m / 5)) (by omega)).2 ad had (m % 5) (by omega)
  rw [show m / 5 * 5 + m % 5 = m by omega] at hs
  rw [hs, ← hu]
  rfl
theorem cellsC_one {l : List Cf} {us : Nat → Value} {w : World} {F : Nat → Prop} (h : NodesC w F l us) : ∀ u ∈ cellsC l us, u.oneCell' = true := by
  intro u hu
  unfold cellsC at hu
  obtain ⟨m, hm, rfl⟩ := List.mem_map.1 hu
  rw [List.mem_range] at hm
  unfold cellC
  split
  · rfl
  · split
    · rfl
    · split
      · obtain ⟨a, cap, he, _⟩ := (h (m / 5) (by omega)).1
        rw [he]
        rfl
      · split <;> rfl
theorem info_conf : (Tryz.prog.info? 29).map (fun i => (i.zero.map (·.cells.size), i.size, i.bytes)) = some (some 5, 5, 56) := by kernel_rfl
theorem conf_zero : (Tryz.prog.info? 29).map (fun i => (i.zero, i.size, i.bytes)) = some (some (.agg #[.int .i64 0, .int .u64 0, .slice none 0 0, .bool false, .int .i64 0]), 5, 56) := by kernel_rfl
theorem row_of_own {w : World} {base r cap n : Nat} {l : List Cf} {us : Nat → Value} (h : w.ownsRow base 29 5 (.slice (some ⟨r, 0, none⟩) n cap) l.length (cellsC l us)) : RowC w r cap l us ∧ base ≤ r := by
  rcases h.2 with ⟨hv, _⟩ | ⟨g, c, cur, hv, hb, hr, hc, hm, hs, ht⟩
  · cases hv
  · injection hv with hv hn hcap
    injection hv with hv
    injection hv with hv _ _
    subst hv hcap
    refine ⟨⟨cur, hr, hs, hc, hm, fun m hm => ?_⟩, hb⟩
    have := cellsC_at (us := us) hm
    rw [← ht] at this
    rw [List.getElem?_take, if_pos (by omega)] at this
    simpa using this
end Go.Proofs.YtcbenminaakahaaGreatDoor
