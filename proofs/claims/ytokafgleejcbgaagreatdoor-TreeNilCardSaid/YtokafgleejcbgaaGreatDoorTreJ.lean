/-
  Layer 31: put, plainly; an item has other bytes.
-/
import Derived.Test.YtokafgleejcbgaaGreatDoorTreI
import Derived.Laws.CopyOwn
import Derived.Laws.MakeOwn
namespace Go.Proofs.YtokafgleejcbgaaGreatDoor
open Go.RowKit
set_option linter.unusedVariables false
set_option maxRecDepth 100000

/-- What a file's bytes become. -/
def newD (d : List Int) (o : Nat) (l : List Int) : List Int := d.take o ++ l ++ d.drop (o + l.length)
theorem newD_len {d : List Int} {o : Nat} (l : List Int) (h : o ≤ d.length) : (newD d o l).length = if d.length < o + l.length then o + l.length else d.length := by
  unfold newD
  rw [List.length_append, List.length_append, List.length_take, List.length_drop]
  split <;> omega
theorem newD_isB {d l : List Int} {o : Nat} (h1 : IsB d) (h2 : IsB l) : IsB (newD d o l) := by
  intro x hx
  unfold newD at hx
  rcases List.mem_append.1 hx with hx | hx
  · rcases List.mem_append.1 hx with hx | hx
    · exact h1 x (List.mem_of_mem_take hx)
    · exact h2 x hx
  · exact h1 x (List.mem_of_mem_drop hx)
/-- The two copies. -/
theorem splice_newD {d l : List Int} {o n : Nat} (h : o ≤ d.length) (hn : n = if d.length < o + l.length then o + l.length else d.length) :
    splice (splice (List.replicate n (Value.int .u8 0)) 0 (d.map (Value.int .u8))) o (l.map (Value.int .u8)) = (newD d o l).map (Value.int .u8) := by
  have e1 : splice (List.replicate n (Value.int .u8 0)) 0 (d.map (Value.int .u8)) = d.map (Value.int .u8) ++ List.replicate (n - d.length) (Value.int .u8 0) := by
    unfold splice
    simp
  rw [e1]
  unfold splice newD
  rw [List.map_append, List.map_append, List.map_take, List.map_drop, List.take_append, List.drop_append]
  simp only [List.length_map, List.take_replicate, List.drop_replicate]
  rw [show min (o - d.length) (n - d.length) = 0 by omega, show n - d.length - (o + l.length - d.length) = 0 by split at hn <;> omega]
  simp
/-- The block g holds these bytes. -/
def Bt31 (w : World) (g : Nat) (l : List Int) : Prop := IsB l ∧ w.heap[g]? = some (.cells (l.map (Value.int .u8)).toArray 5 (0, 0))
theorem Bt31.bsl {w : World} {g : Nat} {l : List Int} (h : Bt31 w g l) (hm : l.length ≤ maxLen) : BSl w (fun k => k = g) (.slice (some ⟨g, 0, none⟩) l.length l.length) l :=
  ⟨some ⟨g, 0, none⟩, l.length, rfl, Nat.le_refl _, hm, (fun h => by cases h), h.1, fun _ => ⟨g, 0, rfl, rfl, heap_lt h.2, fun j hj => by
    rw [Nat.zero_add, cell_of_row w g j _ _ _ h.2]
    simp [List.getElem?_eq_getElem hj]⟩⟩
theorem info_u8_31 : (Tryz.prog.info? 5).map (fun i => (i.zero, i.size, i.bytes)) = some (some (.int .u8 0), 1, 1) := by kernel_rfl
theorem made_zero31 (n : Nat) : madeCells #[Value.int .u8 0] n = Array.replicate n (Value.int .u8 0) := by
  apply Array.ext'
  rw [toList_madeCells_one]
  simp
theorem add31 (b o j : Nat) : (⟨b, o, none⟩ : Addr).add j = ⟨b, o + j, none⟩ := by unfold Addr.add; split <;> simp_all
/-- Where bytes are read that are copied. -/
theorem src31 {w : World} {F : Nat → Prop} {a : Option Addr} {n c : Nat} {l : List Int} (h : BSl w F (.slice a n c) l) (h0 : 0 < (l.map (Value.int .u8)).length) : ∃ ad, a = some ad ∧ ∀ j u, (l.map (Value.int .u8))[j]? = some u → w.cell? (ad.add j) = some u := by
  obtain ⟨a', c', he, _, _, _, hr⟩ := h
  injection he with h1 h2 h3
  subst h1
  rw [List.length_map] at h0
  obtain ⟨b, o, rfl, hF, hb, hcell⟩ := hr.2 h0
  refine ⟨_, rfl, fun j u hu => ?_⟩
  have hj : j < l.length := by
    rcases Nat.lt_or_ge j l.length with h | h
    · exact h
    · rw [List.getElem?_eq_none (by rw [List.length_map]; omega)] at hu; cases hu
  rw [add31, hcell j hj]
  simp [List.getElem?_eq_getElem hj] at hu ⊢
  exact hu
/-- An item with other bytes. -/
def set31 (p : List UInt8) (d : List Int) (G : Nat → Prop) (x : It) : It := if x.p = p then { x with d := d, G := G } else x
def setD (L : List It) (p : List UInt8) (d : List Int) (G : Nat → Prop) : List It := L.map (set31 p d G)
theorem set31_same (p : List UInt8) (d : List Int) (G : Nat → Prop) (x : It) : (set31 p d G x).p = x.p ∧ (set31 p d G x).b = x.b ∧ (set31 p d G x).n = x.n ∧ (set31 p d G x).dir = x.dir := by
  unfold set31
  split <;> exact ⟨rfl, rfl, rfl, rfl⟩
theorem setD_mem {L : List It} {p : List UInt8} {d : List Int} {G : Nat → Prop} {y : It} (h : y ∈ setD L p d G) : ∃ x ∈ L, y = set31 p d G x := by
  unfold setD at h
  obtain ⟨x, hx, rfl⟩ := List.mem_map.1 h
  exact ⟨x, hx, rfl⟩
theorem setD_foot {bm k : Nat} {L : List It} {p : List UInt8} {d : List Int} {G : Nat → Prop} (h : Foot31 bm (setD L p d G) k) : Foot31 bm L k := by
  rcases h with rfl | ⟨y, hy, rfl⟩
  · exact .inl rfl
  · obtain ⟨x, hx, rfl⟩ := setD_mem hy
    rw [(set31_same p d G x).2.1]
    exact .inr ⟨x, hx, rfl⟩
/-- The item has other bytes, which lie in a block of their own. -/
theorem TrAt.data {w : World} {g bm nb : Nat} {I B : Int} {L : List It} {x : It} {d : List Int} (h : TrAt w g bm I B L) (hx : x ∈ L) (hd : d.length ≤ 512) (hb : Bt31 w nb d) (hf : ¬ Foot31 bm L nb) :
    TrAt (w.setCell ⟨x.b, 1, none⟩ (.slice (some ⟨nb, 0, none⟩) d.length d.length)) g bm I B (setD L x.p d (fun k => k = nb)) := by
  have hs := h.mp.1
  have hbb : ∀ y ∈ L, y.b ≠ bm := fun y hy e => by
    obtain ⟨_, _, hc, _⟩ := h.it y hy
    exact h.mp.ne hc e.symm
  have hk2 : Kept (fun k => k = x.b) w (w.setCell ⟨x.b, 1, none⟩ (.slice (some ⟨nb, 0, none⟩) d.length d.length)) := (Kept.refl (fun k => k = x.b) w).setCell (p := ⟨x.b, 1, none⟩) (.inl rfl) _
  have hnx : nb ≠ x.b := fun e => hf (.inr ⟨x, hx, e⟩)
  have hlt := heap_lt hb.2
  refine ⟨?_, ?_, ?_, ?_, ?_, ?_, ?_, h.sh⟩
  · exact hk2.heap (fun e => by
      have e : g = x.b := e
      exact h.g_foot (.inr ⟨x, hx, e⟩)) h.c
  · refine (h.mp.kept hk2 (fun e => hbb x hx (Eq.symm e))).retell ?_ ?_
    · unfold SrtT setD
      rw [List.pairwise_map]
      refine hs.imp (fun {y z} hyz => ?_)
      rw [(set31_same _ _ _ y).1, (set31_same _ _ _ z).1]
      exact hyz
    · unfold setD
      rw [List.map_map]
      refine List.map_congr_left (fun y _ => ?_)
      obtain ⟨h1, h2, _⟩ := set31_same x.p d (fun k => k = nb) y
      show (Lit.string (set31 x.p d (fun k => k = nb) y).p, DataW.held (itv (set31 x.p d (fun k => k = nb) y))) = _
      rw [h1]
      unfold itv
      rw [h2]
      rfl
  · intro y hy
    obtain ⟨z, hz, rfl⟩ := setD_mem hy
    by_cases hzx : z.p = x.p
    · obtain rfl := srt_inj hs hz hx hzx
      obtain ⟨a1, c1, hc, _⟩ := h.it z hz
      unfold set31
      rw [if_pos rfl]
      refine ⟨some ⟨nb, 0, none⟩, d.length, ?_, ?_⟩
      · have := heap_setCell_same w z.b 1 _ _ (.slice (some ⟨nb, 0, none⟩) d.length d.length) hc
        rw [this]
        rfl
      · exact (hb.bsl (by unfold maxLen; omega)).kept hk2 (fun k hG e => by
          have hG : k = nb := hG
          have e : k = z.b := e
          omega)
    · unfold set31
      rw [if_neg hzx]
      exact (h.it z hz).kept hk2 (fun e => hzx (by rw [h.uq z hz x hx e])) (fun k hG e => (h.own z hz k hG).1 (.inr ⟨x, hx, e⟩))
  · intro y hy z hz e
    obtain ⟨y1, hy1, rfl⟩ := setD_mem hy
    obtain ⟨z1, hz1, rfl⟩ := setD_mem hz
    rw [(set31_same _ _ _ y1).2.1, (set31_same _ _ _ z1).2.1] at e
    rw [h.uq y1 hy1 z1 hz1 e]
  · intro y hy k hG
    obtain ⟨z, hz, rfl⟩ := setD_mem hy
    refine ⟨fun hf2 => ?_, ?_⟩
    · have hf2 := setD_foot hf2
      unfold set31 at hG
      split at hG
      · have hG : k = nb := hG
        exact hf (hG ▸ hf2)
      · exact (h.own z hz k hG).1 hf2
    · have := hk2.size
      unfold set31 at hG
      split at hG
      · have hG : k = nb := hG
        omega
      · have := (h.own z hz k hG).2
        omega
  · intro y hy
    obtain ⟨z, hz, rfl⟩ := setD_mem hy
    have := h.bd z hz
    unfold set31
    split
    · exact ⟨hd, this.2⟩
    · exact this
  · unfold setD
    rw [List.length_map]
    exact h.len
/-- What Put answers. -/
def pu31 (B : Int) (L : List It) (r : It) (p : List UInt8) (o : Int) (l : List Int) : Int :=
  if o < 0 ∨ 128 < l.length then 1 else
    match (fl31 L r p o).2 with
    | none => (fl31 L r p o).1
    | some x => if 512 < o + l.length then 17 else if ¬ (blkT L + more31 x (((newD x.d o.toNat l).length : Int) - x.d.length) ≤ B) then 16 else 0
/-- What Put answers, and leaves. -/
def PuE (g bm : Nat) (I B : Int) (L : List It) (r : It) (p : List UInt8) (o : Int) (l : List Int) (w : World) (e : Ending) (w' : World) : Prop :=
  e = .returned (ansV (pu31 B L r p o l)) ∧ (pu31 B L r p o l ≠ 0 → Kept NoB w w') ∧
    (pu31 B L r p o l = 0 → ∃ x ∈ L, ∃ nb, w.heap.size ≤ nb ∧ (fl31 L r p o).2 = some x ∧ TrAt w' g bm I B (setD L x.p (newD x.d o.toNat l) (fun k => k = nb)) ∧ Kept (Foot31 bm L) w w')
theorem PuE.bad {g bm : Nat} {I B : Int} {L : List It} {r : It} {p : List UInt8} {o : Int} {l : List Int} {w w' : World} {c : Int} (h : pu31 B L r p o l = c) (hc : c ≠ 0) (hk : Kept NoB w w') : PuE g bm I B L r p o l w (.returned (ansV c)) w' :=
  ⟨by rw [h], fun _ => hk, fun h0 => absurd (h.symm.trans h0) hc⟩
end Go.Proofs.YtokafgleejcbgaaGreatDoor
