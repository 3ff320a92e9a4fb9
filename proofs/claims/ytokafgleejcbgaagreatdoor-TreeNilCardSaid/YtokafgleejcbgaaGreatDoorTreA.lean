/-
  Layer 31: a map from paths to items: a plain list of its entries by rising paths; its laws.
-/
import Derived.Test.YtokafgleejcbgaaGreatDoorDirG
import Derived.Maps.OwnSet
import Derived.Maps.RangeWalk
import Derived.WalkKit
import Derived.RegionTactic
import Derived.Lib.Hide
namespace Go.Proofs.YtokafgleejcbgaaGreatDoor
open Go.RowKit
set_option linter.unusedVariables false

/-- An item: its path, its block, whether it is a directory, its bytes, how many entries it has, where its bytes lie. -/
structure It where
  p : List UInt8
  b : Nat
  dir : Bool
  d : List Int
  n : Nat
  G : Nat → Prop
def itv (x : It) : Value := .pointer (some ⟨x.b, 0, none⟩)
def lt31 (a b : List UInt8) : Prop := (Lit.string a).before (.string b) = true
instance (a b : List UInt8) : Decidable (lt31 a b) := by unfold lt31; exact inferInstance
theorem lt31_irr (a : List UInt8) : ¬ lt31 a a := by unfold lt31; rw [WideShapes.before_irrefl]; simp
theorem lt31_trans {a b c : List UInt8} (h : lt31 a b) (k : lt31 b c) : lt31 a c := WideShapes.before_trans h k
theorem lt31_total {a b : List UInt8} (h : a ≠ b) (k : ¬ lt31 a b) : lt31 b a := by
  rcases ChangeMaps.before_total (a := .string a) (b := .string b) ⟨_, rfl⟩ ⟨_, rfl⟩ (fun e => h (by injection e)) with h | h
  · exact absurd h k
  · exact h
theorem lt31_ne {a b : List UInt8} (h : lt31 a b) : a ≠ b := fun e => lt31_irr b (e ▸ h)
theorem lt31_not {a b : List UInt8} (h : lt31 a b) : ¬ lt31 b a := fun k => lt31_irr a (lt31_trans h k)
/-- Items by rising paths. -/
def SrtT (L : List It) : Prop := L.Pairwise (fun x y => lt31 x.p y.p)
def atT (L : List It) (s : List UInt8) : Option It := L.find? (fun v => v.p == s)
def putT : List It → It → List It
  | [], v => [v]
  | x :: r, v => if lt31 x.p v.p then x :: putT r v else if x.p = v.p then v :: r else v :: x :: r
theorem putT_mem {L : List It} {v x : It} (h : x ∈ putT L v) : x = v ∨ x ∈ L := by
  induction L with
  | nil => simp [putT] at h; exact .inl h
  | cons y r ih =>
    unfold putT at h
    split at h
    · rcases List.mem_cons.1 h with rfl | h
      · exact .inr (by simp)
      · rcases ih h with h | h
        · exact .inl h
        · exact .inr (by simp [h])
    · split at h
      · rcases List.mem_cons.1 h with rfl | h
        · exact .inl rfl
        · exact .inr (by simp [h])
      · rcases List.mem_cons.1 h with rfl | h
        · exact .inl rfl
        · exact .inr h
theorem putT_srt {L : List It} (v : It) (h : SrtT L) : SrtT (putT L v) := by
  induction L with
  | nil => exact List.pairwise_singleton _ _
  | cons y r ih =>
    obtain ⟨h1, h2⟩ := List.pairwise_cons.1 h
    unfold putT
    split
    · rename_i hlt
      refine List.pairwise_cons.2 ⟨fun z hz => ?_, ih h2⟩
      rcases putT_mem hz with rfl | hz
      · exact hlt
      · exact h1 z hz
    · split
      · rename_i he
        exact List.pairwise_cons.2 ⟨fun z hz => by have := h1 z hz; rwa [he] at this, h2⟩
      · rename_i h3 h4
        have h5 := lt31_total h4 h3
        exact List.pairwise_cons.2 ⟨fun z hz => by
          rcases List.mem_cons.1 hz with rfl | hz
          · exact h5
          · exact lt31_trans h5 (h1 z hz), h⟩
theorem atT_cons (x : It) (r : List It) (s : List UInt8) : atT (x :: r) s = if x.p = s then some x else atT r s := by
  unfold atT
  rw [List.find?_cons]
  by_cases h : x.p = s
  · rw [if_pos h]; simp [h]
  · rw [if_neg h, beq_eq_false_iff_ne.2 h]
theorem atT_key {L : List It} {s : List UInt8} {v : It} (h : atT L s = some v) : v.p = s ∧ v ∈ L := by
  have h1 := List.find?_some h
  exact ⟨by simpa using h1, List.mem_of_find?_eq_some h⟩
theorem atT_mem {L : List It} {v : It} (hs : SrtT L) (h : v ∈ L) : atT L v.p = some v := by
  induction L with
  | nil => cases h
  | cons x r ih =>
    obtain ⟨h1, h2⟩ := List.pairwise_cons.1 hs
    rw [atT_cons]
    rcases List.mem_cons.1 h with rfl | h
    · rw [if_pos rfl]
    · rw [if_neg (lt31_ne (h1 v h))]
      exact ih h2 h
theorem putT_new_len {L : List It} (v : It) (h : atT L v.p = none) : (putT L v).length = L.length + 1 := by
  induction L with
  | nil => rfl
  | cons x r ih =>
    rw [atT_cons] at h
    unfold putT
    split
    · by_cases he : x.p = v.p
      · rw [if_pos he] at h; cases h
      · rw [if_neg he] at h; rw [List.length_cons, ih h, List.length_cons]
    · rw [if_neg (fun e => by rw [if_pos e] at h; cases h)]
      simp
theorem putT_len {L : List It} (v : It) : (putT L v).length ≤ L.length + 1 := by
  induction L with
  | nil => simp [putT]
  | cons y r ih =>
    unfold putT
    split
    · simp only [List.length_cons]; omega
    · split <;> simp

/-! ### the map's datum -/
def entT (v : It) : Lit × DataW Value := (.string v.p, .held (itv v))
def datT (L : List It) : DataW Value := .map (L.map entT)
theorem same_t31 (a b : List UInt8) : (Lit.string a).sameKey (.string b) = (a == b) := rfl
theorem filter_highT (r : List It) (s : List UInt8) (h : ∀ z ∈ r, lt31 s z.p) : (r.map entT).filter (fun p => !p.1.sameKey (.string s)) = r.map entT := by
  rw [List.filter_eq_self]
  intro p hp
  obtain ⟨z, hz, rfl⟩ := List.mem_map.1 hp
  show (!(Lit.string z.p).sameKey (.string s)) = true
  rw [same_t31, beq_eq_false_iff_ne.2 (fun e => lt31_ne (h z hz) e.symm)]
  rfl
theorem insert_lowT (r : List It) (v : It) (h : ∀ z ∈ r, lt31 v.p z.p) : DataW.insert (entT v) (r.map entT) = (v :: r).map entT := by
  cases r with
  | nil => rfl
  | cons y r =>
    show (if (Lit.string v.p).before (.string y.p) then entT v :: entT y :: r.map entT else _) = _
    have h0 : (Lit.string v.p).before (.string y.p) = true := h y (by simp)
    rw [if_pos h0]
    rfl
theorem datT_put {L : List It} (v : It) (h : SrtT L) : (datT L).put (.string v.p) (.held (itv v)) = datT (putT L v) := by
  show DataW.map (DataW.insert (entT v) ((L.map entT).filter fun p => !p.1.sameKey (.string v.p))) = .map ((putT L v).map entT)
  congr 1
  induction L with
  | nil => rfl
  | cons x r ih =>
    obtain ⟨h1, h2⟩ := List.pairwise_cons.1 h
    rw [List.map_cons, List.filter_cons]
    have e : (entT x).1.sameKey (.string v.p) = (x.p == v.p) := same_t31 _ _
    rw [e]
    unfold putT
    by_cases hlt : lt31 x.p v.p
    · rw [if_pos hlt, beq_eq_false_iff_ne.2 (lt31_ne hlt), if_pos (show (!false) = true from rfl)]
      show (if (Lit.string v.p).before (.string x.p) then _ else entT x :: DataW.insert (entT v) _) = _
      have h0 : ¬ (Lit.string v.p).before (.string x.p) = true := lt31_not hlt
      rw [if_neg h0, ih h2]
      rfl
    · rw [if_neg hlt]
      by_cases he : x.p = v.p
      · rw [if_pos he, beq_iff_eq.2 he, if_neg (by simp), filter_highT r v.p (fun z hz => he ▸ h1 z hz)]
        exact insert_lowT r v (fun z hz => he ▸ h1 z hz)
      · have h5 := lt31_total he hlt
        rw [if_neg he, beq_eq_false_iff_ne.2 he, if_pos (show (!false) = true from rfl), filter_highT r v.p (fun z hz => lt31_trans h5 (h1 z hz))]
        exact insert_lowT (x :: r) v (fun z hz => by
          rcases List.mem_cons.1 hz with rfl | hz
          · exact h5
          · exact lt31_trans h5 (h1 z hz))
theorem datT_find (L : List It) (s : List UInt8) : (L.map entT).find? (fun p => p.1.sameKey (.string s)) = (atT L s).map entT := by
  induction L with
  | nil => rfl
  | cons x r ih =>
    rw [List.map_cons, List.find?_cons, atT_cons]
    have e : (entT x).1.sameKey (.string s) = (x.p == s) := same_t31 _ _
    rw [e]
    by_cases h : x.p = s
    · rw [beq_iff_eq.2 h, if_pos h]; rfl
    · rw [beq_eq_false_iff_ne.2 h, if_neg h]; exact ih
theorem datT_at (L : List It) (s : List UInt8) (z : Value) : (datT L).atKey (.string s) (.held z) = .held (((atT L s).map itv).getD z) := by
  unfold datT DataW.atKey
  simp only [datT_find]
  cases atT L s <;> rfl
theorem datT_has (L : List It) (s : List UInt8) : Maps.has (datT L) (.string s) = (atT L s).isSome := by
  have h := datT_find L s
  show (L.map entT).any (fun p => p.1.sameKey (.string s)) = _
  have e : ∀ l : List (Lit × DataW Value), l.any (fun p => p.1.sameKey (.string s)) = (l.find? (fun p => p.1.sameKey (.string s))).isSome := by
    intro l
    induction l with
    | nil => rfl
    | cons x l ih =>
      rw [List.any_cons, List.find?_cons]
      cases x.1.sameKey (.string s)
      · simpa using ih
      · rfl
  rw [e, h]
  cases atT L s <;> rfl
/-- How an element reads: as itself. -/
def heldT (v : Value) : Option (DataW Value × List MemPlace) := some (.held v, [])
/-- Block bm is a map with these items. -/
def MapT (w : World) (bm : Nat) (L : List It) : Prop := SrtT L ∧ w.ownsMap Tryz.prog 9 heldT bm L.length (datT L)
theorem own_exactT {w : World} {bm n : Nat} {L : List It} (h : w.ownsMap Tryz.prog 9 heldT bm n (datT L)) : w.ownsMap Tryz.prog 9 heldT bm L.length (datT L) := by
  obtain ⟨es, clock, hb, F, hs, hD⟩ := h
  refine ⟨es, clock, hb, F, ?_, hD⟩
  have e : L.map entT = (es.toList.map (WideElems.rg Tryz.prog 9 heldT)).foldr DataW.insert [] := by
    have := hD
    unfold datT at this
    injection this
  have e2 := congrArg List.length e
  rw [length_sorted] at e2
  simp at e2
  omega
theorem MapT.lt {w : World} {bm : Nat} {L : List It} (h : MapT w bm L) : bm < w.heap.size := h.2.lt
theorem MapT.isMap {w : World} {bm : Nat} {L : List It} (h : MapT w bm L) : ∃ es clock, w.heap[bm]? = some (.map es clock) := by
  obtain ⟨es, clock, hb, _⟩ := h.2
  exact ⟨es, clock, hb⟩
theorem MapT.ne {w : World} {bm g : Nat} {L : List It} (h : MapT w bm L) {cs : Array Value} {t : TypeId} {fr : Nat × Nat} (hg : w.heap[g]? = some (.cells cs t fr)) : bm ≠ g := by
  obtain ⟨es, clock, hb⟩ := h.isMap
  intro e
  subst e
  rw [hb] at hg
  cases hg
theorem MapT.kept {S : Nat → Prop} {w w' : World} {bm : Nat} {L : List It} (h : MapT w bm L) (hk : Kept S w w') (hs : ¬ S bm) : MapT w' bm L := by
  refine ⟨h.1, ?_⟩
  obtain ⟨es, clock, hb, r⟩ := h.2
  exact ⟨es, clock, hk.heap hs hb, r⟩
/-- What an item holds does not stand in the map. -/
theorem MapT.retell {w : World} {bm : Nat} {L M : List It} (h : MapT w bm L) (hs : SrtT M) (he : M.map entT = L.map entT) : MapT w bm M := by
  have hd : datT M = datT L := by unfold datT; rw [he]
  have hl : M.length = L.length := by have := congrArg List.length he; simpa using this
  exact ⟨hs, by rw [hd, hl]; exact h.2⟩
theorem MapT.made (w : World) : MapT (w.alloc (.map #[] 0)) w.heap.size [] :=
  ⟨List.Pairwise.nil, World.ownsMap_made w Tryz.prog 9 heldT⟩
theorem keyed_str31 : Maps.Keyed Tryz.prog 9 := Maps.string_keyed Tryz.underlying9
theorem mapty31 : Tryz.prog.underlying 47 = some (.map 9 43) := by kernel_rfl
end Go.Proofs.YtokafgleejcbgaaGreatDoor
