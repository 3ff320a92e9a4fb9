/-
  Layer 29: a path's names: plainly, and the chapter's Split.
-/
import Derived.Test.YtokafgleejcbgaaGreatDoorDirA
import Derived.Test.YtokafgleejcbgaaGreatDoorShelf
import Derived.Lib.ItoaMem
import Derived.Deep.RegionHeld3
namespace Go.Proofs.YtokafgleejcbgaaGreatDoor
open Go.RowKit
set_option linter.unusedVariables false

/-- The pieces between separators. -/
def wgs : List UInt8 → List UInt8 → List (List UInt8)
  | cur, [] => [cur]
  | cur, c :: r => if c = 47 then cur :: wgs [] r else wgs (cur ++ [c]) r
theorem wgs_pre (a : List UInt8) (h : (47 : UInt8) ∉ a) : ∀ (cur r : List UInt8), wgs cur (a ++ 47 :: r) = (cur ++ a) :: wgs [] r := by
  induction a with
  | nil => intro cur r; simp [wgs]
  | cons c a ih =>
    intro cur r
    have hc : ¬ c = 47 := fun e => h (by simp [e])
    rw [List.cons_append, wgs, if_neg hc, ih (fun hm => h (by simp [hm]))]
    simp
theorem wgs_last (a : List UInt8) (h : (47 : UInt8) ∉ a) : ∀ (cur : List UInt8), wgs cur a = [cur ++ a] := by
  induction a with
  | nil => intro cur; simp [wgs]
  | cons c a ih =>
    intro cur
    have hc : ¬ c = 47 := fun e => h (by simp [e])
    rw [wgs, if_neg hc, ih (fun hm => h (by simp [hm]))]
    simp
theorem wgs_pos (l cur : List UInt8) : 1 ≤ (wgs cur l).length := by
  induction l generalizing cur with
  | nil => simp [wgs]
  | cons c r ih => rw [wgs]; split <;> simp [ih]
theorem wgs_len (l cur : List UInt8) : (wgs cur l).length ≤ l.length + 1 := by
  induction l generalizing cur with
  | nil => simp [wgs]
  | cons c r ih =>
    rw [wgs]
    split
    · have := ih []; simp; omega
    · have := ih (cur ++ [c]); simp; omega
/-- A path. -/
def pathOk (l : List UInt8) : Prop := l.head? = some 47 ∧ (l = [47] ∨ ((wgs [] l.tail).length ≤ 8 ∧ ∀ x ∈ wgs [] l.tail, nmOk x))
instance (l : List UInt8) : Decidable (pathOk l) := by unfold pathOk; infer_instance
/-- Its names. -/
def pathNs (l : List UInt8) : List (List UInt8) := if pathOk l ∧ l ≠ [47] then wgs [] l.tail else []
def pathE (l : List UInt8) : Int := if pathOk l then 0 else 18
theorem info_string29 : (Tryz.prog.info? 9).map (fun i => (i.zero, i.size, i.bytes)) = some (some (.string ByteArray.empty), 1, 16) := by kernel_rfl
def sv29 (l : List (List UInt8)) : List Value := l.map fun x => Value.string ⟨x.toArray⟩
theorem sv29_len (l : List (List UInt8)) : (sv29 l).length = l.length := by simp [sv29]
theorem sv29_app (l m : List (List UInt8)) : sv29 (l ++ m) = sv29 l ++ sv29 m := by simp [sv29]
/-- A slice of strings of the call's own. -/
def SOwn29 (B : Nat) (w : World) (v : Value) (l : List (List UInt8)) : Prop := w.ownsRow B 9 1 v l.length (sv29 l)
/-- A slice that reads as strings. -/
def TSl (w : World) (F : Nat → Prop) (v : Value) (l : List (List UInt8)) : Prop := ∃ a cap, v = .slice a l.length cap ∧ l.length ≤ cap ∧ cap ≤ maxLen ∧ (a = none → cap = 0) ∧ (0 < l.length → ∃ b o, a = some ⟨b, o, none⟩ ∧ F b ∧ b < w.heap.size ∧ ∀ j, j < l.length → w.cell? ⟨b, o + j, none⟩ = some (.string ⟨(l.getD j []).toArray⟩))
theorem TSl.nil (w : World) (F : Nat → Prop) : TSl w F (.slice none 0 0) [] := ⟨none, 0, rfl, Nat.le_refl _, Nat.zero_le _, fun _ => rfl, fun h => by cases h⟩
theorem TSl.kept {S F : Nat → Prop} {w w' : World} {v : Value} {l : List (List UInt8)} (h : TSl w F v l) (hk : Kept S w w') (hs : ∀ k, F k → ¬ S k) : TSl w' F v l := by
  obtain ⟨a, cap, h1, h2, h3, h4, h5⟩ := h
  refine ⟨a, cap, h1, h2, h3, h4, fun hl => ?_⟩
  obtain ⟨b, o, ha, hF, hb, hc⟩ := h5 hl
  exact ⟨b, o, ha, hF, Nat.lt_of_lt_of_le hb hk.size, fun j hj => hk.cell (p := ⟨b, o + j, none⟩) (hs b hF) (hc j hj)⟩
theorem TSl.no {F : Nat → Prop} {w w' : World} {v : Value} {l : List (List UInt8)} (h : TSl w F v l) (hk : Kept NoB w w') : TSl w' F v l := h.kept hk (fun _ _ h => h)
theorem TSl.mono {F G : Nat → Prop} {w : World} {v : Value} {l : List (List UInt8)} (h : TSl w F v l) (hG : ∀ k, k < w.heap.size → F k → G k) : TSl w G v l := by
  obtain ⟨a, cap, h1, h2, h3, h4, h5⟩ := h
  refine ⟨a, cap, h1, h2, h3, h4, fun hl => ?_⟩
  obtain ⟨b, o, ha, hF, hb, hc⟩ := h5 hl
  exact ⟨b, o, ha, hG b hb hF, hb, hc⟩
theorem TSl.any {F : Nat → Prop} {w : World} {v : Value} {l : List (List UInt8)} (h : TSl w F v l) : TSl w (fun _ => True) v l := h.mono (fun _ _ _ => trivial)
theorem TSl.at_ {F : Nat → Prop} {w : World} {a : Option Addr} {n c : Nat} {l : List (List UInt8)} (h : TSl w F (.slice a n c) l) {j : Nat} (hj : j < l.length) : ∃ b o, a = some ⟨b, o, none⟩ ∧ F b ∧ b < w.heap.size ∧ w.cell? ⟨b, o + j, none⟩ = some (.string ⟨(l.getD j []).toArray⟩) := by
  obtain ⟨a', c', he, _, _, _, hr⟩ := h
  injection he with h1 h2 h3
  subst h1
  obtain ⟨b, o, rfl, hF, hb, hcell⟩ := hr (by omega)
  exact ⟨b, o, rfl, hF, hb, hcell j hj⟩
/-- The first n strings of a slice. -/
theorem TSl.take {F : Nat → Prop} {w : World} {a : Option Addr} {n c : Nat} {l : List (List UInt8)} (h : TSl w F (.slice a n c) l) (k : Nat) (hk : k ≤ l.length) : TSl w F (.slice a k c) (l.take k) := by
  obtain ⟨a', c', he, h2, h3, h4, hr⟩ := h
  injection he with e1 e2 e3
  subst e1 e3
  have hl : (l.take k).length = k := by rw [List.length_take]; omega
  refine ⟨a, c, by rw [hl], by omega, h3, h4, fun hp => ?_⟩
  obtain ⟨b, o, ha, hF, hb, hcell⟩ := hr (by omega)
  refine ⟨b, o, ha, hF, hb, fun j hj => ?_⟩
  rw [hl] at hj
  rw [hcell j (by omega), List.getD_eq_getElem?_getD, List.getD_eq_getElem?_getD, List.getElem?_take, if_pos hj]
theorem SOwn29.sl {B : Nat} {w : World} {v : Value} {l : List (List UInt8)} (h : SOwn29 B w v l) : TSl w (fun k => B ≤ k) v l := by
  rcases h.2 with ⟨rfl, h0⟩ | ⟨r, cap, cur, rfl, hb, hr, hc, hm, hcs, ht⟩
  · obtain rfl : l = [] := List.eq_nil_of_length_eq_zero h0
    exact TSl.nil w _
  · refine ⟨_, cap, rfl, hc, hm, (fun h => by cases h), fun hl => ⟨r, 0, rfl, hb, heap_lt hr, fun j hj => ?_⟩⟩
    have hx := World.ownsRow.cellAt (h : w.ownsRow B 9 1 (.slice (some ⟨r, 0, none⟩) l.length cap) l.length (sv29 l))
    rw [Nat.zero_add, hx j (by omega)]
    simp [sv29, List.getElem?_eq_getElem hj]
theorem put_sown29 {w0 w w1 : World} {v v' : Value} {l : List (List UInt8)} {x : List UInt8} (h : SOwn29 w0.heap.size w v l) (hk : Kept NoB w0 w) (o : Obj) (hown : w1.ownsRow w0.heap.size 9 1 v' (l.length + 1) (sv29 l ++ [.string ⟨x.toArray⟩])) (hg : (w.alloc o).grownBy w1 v.ownBlock) :
    SOwn29 w0.heap.size w1 v' (l ++ [x]) ∧ Kept NoB w0 w1 := by
  refine ⟨?_, ?_⟩
  · unfold SOwn29
    rw [List.length_append, sv29_app]
    simpa [sv29] using hown
  · refine (hk.alloc o).grown hg (fun k hk => .inr ?_)
    exact (World.ownsRow.lt h k hk).1
theorem sone_fine29 (x : List UInt8) : ∀ u ∈ [Value.string ⟨x.toArray⟩], u.oneCell' = true := by simp [Value.oneCell']
theorem snews_one29 (w : World) (x : List UInt8) : ∀ j u, [Value.string ⟨x.toArray⟩][j]? = some u → (w.alloc (.cells #[.string ⟨x.toArray⟩] 9)).cell? ((⟨w.heap.size, 0, none⟩ : Addr).add j) = some u :=
  World.news_of_block (cs := #[_]) (t := 9) (fr := (0, 0)) (heap_alloc_new w _)
theorem ssize_one29 (w : World) {n : Nat} (h : n ≤ w.heap.size) (x : List UInt8) : n ≤ (w.alloc (.cells #[.string ⟨x.toArray⟩] 9)).heap.size := by simp; omega
theorem extract_one29 (s : ByteArray) (i : Nat) (h : i < s.size) : s.extract i (i + 1) = ⟨[s[i]'h].toArray⟩ := by
  have h1 : (s.extract i (i + 1)).data.toList = [s[i]'h] := by
    rw [Lib.extract_data, List.drop_eq_getElem_cons (by simpa using h)]
    simp
    rfl
  apply ByteArray.ext
  rw [← Array.toList_inj, h1]
theorem add_lists29 (x y : List UInt8) (hx : x.length ≤ 8388608) (hy : y.length ≤ 8388608) : ∀ W, (Op.stringOp .add ⟨x.toArray⟩ ⟨y.toArray⟩).run Tryz.prog W = .ok (.string ⟨(x ++ y).toArray⟩) W := fun W => run_string_add_lists W x y (by omega) (by omega)
/-- What Split tells. -/
def SplE (e0 : Int) (ns : List (List UInt8)) (w : World) (e : Ending) (w' : World) : Prop := ∃ v, e = .returned (.tuple #[v, .int .i64 e0]) ∧ TSl w' (fun k => w.heap.size ≤ k) v ns ∧ Kept NoB w w'
theorem SplE.bad {l : List UInt8} {w w' : World} (h : ¬ pathOk l) (hk : Kept NoB w w') : SplE (pathE l) (pathNs l) w (.returned (.tuple #[.slice none 0 0, .int .i64 18])) w' := by
  unfold pathE pathNs
  rw [if_neg h, if_neg (fun hh => h hh.1)]
  exact ⟨_, rfl, TSl.nil _ _, hk⟩
theorem SplE.root {l : List UInt8} {w w' : World} (h : l = [47]) (hk : Kept NoB w w') : SplE (pathE l) (pathNs l) w (.returned (.tuple #[.slice none 0 0, .int .i64 0])) w' := by
  have hp : pathOk l := by rw [h]; exact ⟨rfl, .inl rfl⟩
  unfold pathE pathNs
  rw [if_pos hp, if_neg (fun hh => hh.2 h)]
  exact ⟨_, rfl, TSl.nil _ _, hk⟩
theorem SplE.ok {l : List UInt8} {w w' : World} {v : Value} (h : pathOk l) (h2 : l ≠ [47]) (hv : TSl w' (fun k => w.heap.size ≤ k) v (wgs [] l.tail)) (hk : Kept NoB w w') : SplE (pathE l) (pathNs l) w (.returned (.tuple #[v, .int .i64 0])) w' := by
  unfold pathE pathNs
  rw [if_pos h, if_pos ⟨h, h2⟩]
  exact ⟨_, rfl, hv, hk⟩
end Go.Proofs.YtokafgleejcbgaaGreatDoor
