/-
  Layer 31: answer; an item is made.
-/
import Derived.Test.YtokafgleejcbgaaGreatDoorTreE
namespace Go.Proofs.YtokafgleejcbgaaGreatDoor
open Go.RowKit
set_option linter.unusedVariables false
set_option maxRecDepth 100000

/-- An answer that has nothing but its code. -/
def ansV (e : Int) : Value := .agg #[.int .i64 e, .slice none 0 0, .slice none 0 0, .int .i64 0, .bool false]
theorem cells5_31 {w : World} {b : Nat} {v0 v1 v2 v3 v4 : Value} {t : TypeId} (h : w.heap[b]? = some (.cells #[v0, v1, v2, v3, v4] t (0, 0))) : w.cell? ⟨b, 0, none⟩ = some v0 ∧ w.cell? ⟨b, 1, none⟩ = some v1 ∧ w.cell? ⟨b, 2, none⟩ = some v2 ∧ w.cell? ⟨b, 3, none⟩ = some v3 ∧ w.cell? ⟨b, 4, none⟩ = some v4 :=
  ⟨cell_of_row _ _ 0 _ _ _ h, cell_of_row _ _ 1 _ _ _ h, cell_of_row _ _ 2 _ _ _ h, cell_of_row _ _ 3 _ _ _ h, cell_of_row _ _ 4 _ _ _ h⟩
theorem answer31_any (e0 : Int) (w : World) : Calls Tryz.prog 13 #[.int .i64 e0] w fun e w' => e = .returned (ansV e0) ∧ Kept NoB w w' := by
  go_enter Tryz.func13, Tryz.ntmps13
  go_wp2_with fail
  have hb := heap_alloc_new w (.cells #[.int .i64 e0, .slice none 0 0, .slice none 0 0, .int .i64 0, .bool false] 29)
  have hk := (Kept.refl NoB w).alloc (.cells #[.int .i64 e0, .slice none 0 0, .slice none 0 0, .int .i64 0, .bool false] 29)
  obtain ⟨r0, r1, r2, r3, r4⟩ := cells5_31 hb
  clear hb
  generalize hW : World.alloc _ _ = W at r0 r1 r2 r3 r4 hk ⊢
  exact bodyPost_ret (v := ansV e0) (by simp [results, ansV, Tryz.results13, go_sem, r0, r1, r2, r3, r4]) rfl ⟨rfl, hk⟩
def inc31 (p : List UInt8) (x : It) : It := if x.p = p then { x with n := x.n + 1 } else x
def incT (L : List It) (p : List UInt8) : List It := L.map (inc31 p)
theorem inc31_same (p : List UInt8) (x : It) : (inc31 p x).p = x.p ∧ (inc31 p x).b = x.b ∧ (inc31 p x).G = x.G ∧ (inc31 p x).d = x.d ∧ (inc31 p x).dir = x.dir := by
  unfold inc31
  split <;> exact ⟨rfl, rfl, rfl, rfl, rfl⟩
theorem incT_ent (L : List It) (p : List UInt8) : (incT L p).map entT = L.map entT := by
  unfold incT
  rw [List.map_map]
  refine List.map_congr_left (fun x _ => ?_)
  obtain ⟨h1, h2, _⟩ := inc31_same p x
  show (Lit.string (inc31 p x).p, DataW.held (itv (inc31 p x))) = _
  rw [h1]
  unfold itv
  rw [h2]
  rfl
theorem incT_srt {L : List It} (p : List UInt8) (h : SrtT L) : SrtT (incT L p) := by
  unfold SrtT incT
  rw [List.pairwise_map]
  refine h.imp (fun {x y} hxy => ?_)
  rw [(inc31_same p x).1, (inc31_same p y).1]
  exact hxy
theorem srt_inj {L : List It} (h : SrtT L) {x y : It} (hx : x ∈ L) (hy : y ∈ L) (e : x.p = y.p) : x = y := by
  have h1 := atT_mem h hx
  have h2 := atT_mem h hy
  rw [e, h2] at h1
  exact (Option.some.inj h1).symm
theorem putT_mem_iff {L : List It} {v x : It} (hn : atT L v.p = none) (hs : SrtT L) : x ∈ putT L v ↔ x = v ∨ x ∈ L := by
  constructor
  · exact putT_mem
  · intro h
    induction L with
    | nil =>
      rcases h with rfl | h
      · simp [putT]
      · cases h
    | cons y r ih =>
      rw [atT_cons] at hn
      have hyv : ¬ y.p = v.p := fun e => by rw [if_pos e] at hn; cases hn
      rw [if_neg hyv] at hn
      have ih := ih hn (List.pairwise_cons.1 hs).2
      unfold putT
      split
      · rcases h with rfl | h
        · exact List.mem_cons_of_mem _ (ih (.inl rfl))
        · rcases List.mem_cons.1 h with rfl | h
          · simp
          · exact List.mem_cons_of_mem _ (ih (.inr h))
      · rcases h with rfl | h
        · simp
        · exact List.mem_cons_of_mem _ h
theorem incT_mem {L : List It} {p : List UInt8} {y : It} (h : y ∈ incT L p) : ∃ x ∈ L, y = inc31 p x := by
  unfold incT at h
  obtain ⟨x, hx, rfl⟩ := List.mem_map.1 h
  exact ⟨x, hx, rfl⟩
/-- The item is in the tree, and what is above it has one entry more. -/
theorem TrAt.created {w w1 : World} {g bm : Nat} {I B : Int} {L : List It} {a v : It} (h : TrAt w g bm I B L) (ha : a ∈ L) (hn : a.n + 1 ≤ 32) (hv : ItC w v) (hvn : v.n = 0) (hvd : v.d = []) (hvG : ∀ k, ¬ v.G k) (hvb : ¬ Foot31 bm L v.b) (hvo : ∀ x ∈ L, ¬ x.G v.b) (hno : atT L v.p = none) (hl : L.length + 1 ≤ 1000)
    (hm : MapT w1 bm (putT L v)) (hk : Kept (fun k => k = bm) w w1) :
    TrAt (w1.setCell ⟨a.b, 2, none⟩ (.int .i64 ((a.n : Int) + 1))) g bm I B (incT (putT L v) a.p) := by
  have hs := h.mp.1
  have hap : v.p ≠ a.p := fun e => by rw [e, atT_mem hs ha] at hno; cases hno
  have hvbm : v.b ≠ bm := fun e => hvb (.inl e)
  have hgv : v.b ≠ g := fun e => by
    obtain ⟨x, y, hc, _⟩ := hv
    have := h.c
    rw [← e, hc] at this
    injection this with this
    injection this with _ this
    exact absurd this (by decide)
  have hbb : ∀ x ∈ L, x.b ≠ bm := fun x hx e => by
    obtain ⟨_, _, hc, _⟩ := h.it x hx
    exact h.mp.ne hc e.symm
  have hk2 : Kept (fun k => k = a.b) w1 (w1.setCell ⟨a.b, 2, none⟩ (.int .i64 ((a.n : Int) + 1))) := (Kept.refl (fun k => k = a.b) w1).setCell (p := ⟨a.b, 2, none⟩) (.inl rfl) _
  have hmi := fun x => putT_mem_iff (x := x) hno hs
  have hfo : ∀ k, Foot31 bm (incT (putT L v) a.p) k → Foot31 bm L k ∨ k = v.b := by
    rintro k (rfl | ⟨y, hy, rfl⟩)
    · exact .inl (.inl rfl)
    · obtain ⟨x, hx, rfl⟩ := incT_mem hy
      rw [(inc31_same a.p x).2.1]
      rcases (hmi x).1 hx with rfl | hx
      · exact .inr rfl
      · exact .inl (.inr ⟨x, hx, rfl⟩)
  have hit1 : ∀ x ∈ putT L v, ItC w1 x := fun x hx => by
    rcases (hmi x).1 hx with rfl | hx
    · exact hv.kept hk hvbm (fun k hG => absurd hG (hvG k))
    · exact (h.it x hx).kept hk (hbb x hx) (fun k hG e => (h.own x hx k hG).1 (.inl e))
  have hub : ∀ x ∈ putT L v, ∀ y ∈ putT L v, x.b = y.b → x = y := fun x hx y hy e => by
    rcases (hmi x).1 hx with hx1 | hx1
    · rcases (hmi y).1 hy with hy1 | hy1
      · rw [hx1, hy1]
      · rw [hx1] at e
        exact absurd (.inr ⟨y, hy1, e⟩) hvb
    · rcases (hmi y).1 hy with hy1 | hy1
      · rw [hy1] at e
        exact absurd (.inr ⟨x, hx1, e.symm⟩) hvb
      · exact h.uq x hx1 y hy1 e
  have hsz := hk.size
  refine ⟨?_, ?_, ?_, ?_, ?_, ?_, ?_, h.sh⟩
  · exact hk2.heap (fun e => by
      have e : g = a.b := e
      exact h.g_foot (.inr ⟨a, ha, e⟩)) (hk.heap (fun e => h.mp.ne h.c (Eq.symm e)) h.c)
  · exact (hm.kept hk2 (fun e => hbb a ha (Eq.symm e))).retell (incT_srt _ hm.1) (incT_ent _ _)
  · intro y hy
    obtain ⟨x, hx, rfl⟩ := incT_mem hy
    by_cases hxa : x.p = a.p
    · have hxl : x = a := by
        rcases (hmi x).1 hx with rfl | hx
        · exact absurd hxa hap
        · exact srt_inj hs hx ha hxa
      subst hxl
      obtain ⟨a1, c1, hc, hb⟩ := hit1 x hx
      unfold inc31
      rw [if_pos rfl]
      refine ⟨a1, c1, ?_, ?_⟩
      · have := heap_setCell_same w1 x.b 2 _ _ (.int .i64 ((x.n : Int) + 1)) hc
        rw [this]
        rfl
      · exact hb.kept hk2 (fun k hG e => (h.own x ha k hG).1 (.inr ⟨x, ha, e⟩))
    · unfold inc31
      rw [if_neg hxa]
      refine (hit1 x hx).kept hk2 (fun e => ?_) (fun k hG e => ?_)
      · have e : x.b = a.b := e
        have := hub x hx a ((hmi a).2 (.inr ha)) e
        exact hxa (by rw [this])
      · rcases (hmi x).1 hx with rfl | hx
        · exact hvG k hG
        · exact (h.own x hx k hG).1 (.inr ⟨a, ha, e⟩)
  · intro y hy z hz e
    obtain ⟨x, hx, rfl⟩ := incT_mem hy
    obtain ⟨u, hu, rfl⟩ := incT_mem hz
    rw [(inc31_same a.p x).2.1, (inc31_same a.p u).2.1] at e
    rw [hub x hx u hu e]
  · intro y hy k hG
    obtain ⟨x, hx, rfl⟩ := incT_mem hy
    rw [(inc31_same a.p x).2.2.1] at hG
    rcases (hmi x).1 hx with rfl | hx
    · exact absurd hG (hvG k)
    · refine ⟨fun hf => ?_, by have := (h.own x hx k hG).2; have := hk2.size; omega⟩
      rcases hfo k hf with hf | rfl
      · exact (h.own x hx k hG).1 hf
      · exact hvo x hx hG
  · intro y hy
    obtain ⟨x, hx, rfl⟩ := incT_mem hy
    have hxb : x.d.length ≤ 512 ∧ x.n ≤ 32 := by
      rcases (hmi x).1 hx with rfl | hx
      · rw [hvn, hvd]; exact ⟨by simp, by omega⟩
      · exact h.bd x hx
    rw [(inc31_same a.p x).2.2.2.1]
    refine ⟨hxb.1, ?_⟩
    unfold inc31
    split
    · rename_i hxa
      have hxl : x = a := by
        rcases (hmi x).1 hx with rfl | hx
        · exact absurd hxa hap
        · exact srt_inj hs hx ha hxa
      rw [hxl]
      exact hn
    · exact hxb.2
  · unfold incT
    rw [List.length_map]
    have := putT_len (L := L) v
    omega
end Go.Proofs.YtokafgleejcbgaaGreatDoor
