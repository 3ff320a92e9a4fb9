/-
  Package store: Last, Clean, Pick, Dirty, Judge and Row over what 'block' and 'table' tell; the calls of no store. A map from uint32 to addresses: a plain list of its entries by rising keys; its laws (written by mkstob.py out of AccA). A store in memory; New, block, table, End. Package store: put. Package store: execute. Package store: Row over what 'table' tells; Row and Apply of no store. Package store: Apply: what it refuses. Package store: Apply of the next update.
-/
import Derived.Test.YtnnmkmipeoajjaaGreatDoorVer2
import Derived.Test.YtnnmkmipeoajjaaGreatDoorVer1
import Derived.Test.YtnnmkmipeoajjaaGreatDoorSes1
import Derived.Maps.OwnSet
import Derived.WalkKit
import Derived.RegionTactic
import Derived.Lib.Hide
import Derived.Deep.Cut
import Derived.BigQuiet
import Derived.Test.YtnnmkmipeoajjaaGreatDoorLtrQ
import Derived.Test.YtnnmkmipeoajjaaGreatDoorUpdH
import Derived.Test.YtnnmkmipeoajjaaGreatDoorLtrJ
namespace Go.Proofs.YtnnmkmipeoajjaaGreatDoor
open Go.RowKit
set_option linter.unusedVariables false
set_option linter.unusedSimpArgs false

theorem TBlock_nil (w : World) (k : Int) : Calls Tryz.prog 99 #[.pointer none, .int .u32 k] w fun e w' => e = .returned (.pointer none) ∧ w = w' := by
  go_enter Tryz.func99, Tryz.ntmps99
  go_wp2
  go_ret
  exact ⟨rfl, rfl⟩
theorem TTable_nil (w : World) : Calls Tryz.prog 125 #[.pointer none] w fun e w' => e = .returned (.pointer none) ∧ w = w' := by
  go_enter Tryz.func125, Tryz.ntmps125
  go_wp2
  go_ret
  exact ⟨rfl, rfl⟩
theorem TEnd_nil (w : World) : Calls Tryz.prog 26 #[.pointer none] w fun e w' => e = .returned (.int .u64 0) ∧ w = w' := by
  go_enter Tryz.func26, Tryz.ntmps26
  go_wp2
  go_ret
  exact ⟨rfl, rfl⟩
theorem TTrim_nil (w : World) (done : Int) : Calls Tryz.prog 29 #[.pointer none, .int .u64 done] w fun e w' => e = .returned (.int .i64 0) ∧ w = w' := by
  go_enter Tryz.func29, Tryz.ntmps29
  go_wp2
  go_ret
  exact ⟨rfl, rfl⟩
theorem TKeys_nil (w : World) : Calls Tryz.prog 47 #[.pointer none] w fun e w' => e = .returned (.slice none 0 0) ∧ w = w' := by
  go_enter Tryz.func47, Tryz.ntmps47
  go_wp2
  go_ret
  exact ⟨rfl, rfl⟩
theorem TPicture_nil (w : World) : Calls Tryz.prog 43 #[.pointer none] w fun e w' => e = .returned (.slice none 0 0) ∧ w = w' := by
  go_enter Tryz.func43, Tryz.ntmps43
  go_wp2
  go_ret
  exact ⟨rfl, rfl⟩
/-- What the store's 'block' tells of a key, here and wherever nothing of it has changed. -/
def TBlk (w : World) (s : Value) (k : Int) (x : Value) : Prop := ∀ w', Kept NoB w w' → Calls Tryz.prog 99 #[s, .int .u32 k] w' fun e w'' => e = .returned x ∧ w' = w''
theorem TBlk.nil (w : World) (k : Int) : TBlk w (.pointer none) k (.pointer none) := fun w' _ => TBlock_nil w' k
/-- What the store's 'table' tells. -/
def TTab (w : World) (s x : Value) : Prop := ∀ w', Kept NoB w w' → Calls Tryz.prog 125 #[s] w' fun e w'' => e = .returned x ∧ w' = w''
theorem TTab.nil (w : World) : TTab w (.pointer none) (.pointer none) := fun w' _ => TTable_nil w'
theorem TDirty_any (w : World) (s : Value) (k done : Int) (x v : Value) (l : List Vn) (F : Nat → Prop) (hs : TBlk w s k x) (ht : TellsV w x v) (h : VsAt w F v l) : Calls Tryz.prog 52 #[s, .int .u32 k, .int .u64 done] w fun e w' => e = .returned (.bool (dirtyB l done)) ∧ Kept NoB w w' := by
  have HS := Lib.hid (hs w (Kept.refl _ _))
  have HV := Lib.hid (VDirty_any w x v l done F ht h)
  clear hs ht h
  go_enter Tryz.func52, Tryz.ntmps52
  go_wp2_with fail
  refine HS.out.mono ?_
  rintro e w1 ⟨rfl, rfl⟩
  go_wp2_with fail
  refine HV.out.mono ?_
  rintro e w2 ⟨rfl, hk2⟩
  go_wp2
  go_ret
  exact ⟨rfl, hk2⟩
theorem TJudge_nil (w : World) (s n : Int) : Calls Tryz.prog 54 #[.pointer none, .int .i64 s, .int .u64 n] w fun e w' => e = .returned (.int .i64 2) ∧ w = w' := by
  have HS := Lib.hid (TTable_nil w)
  have HV := Lib.hid (SJudge_nil w s n)
  go_enter Tryz.func54, Tryz.ntmps54
  go_wp2_with fail
  refine HS.out.mono ?_
  rintro e w1 ⟨rfl, rfl⟩
  go_wp2_with fail
  refine HV.out.mono ?_
  rintro e w2 ⟨rfl, rfl⟩
  go_wp2
  go_ret
  exact ⟨rfl, rfl⟩
theorem TJudge_any (w : World) (st : Value) (g : Nat) (s n : Int) (L : List Rw) (hs : TTab w st (.pointer (some ⟨g, 0, none⟩))) (h : TabAt w g L) (hn : 0 ≤ n) : Calls Tryz.prog 54 #[st, .int .i64 s, .int .u64 n] w fun e w' => e = .returned (.int .i64 (judR L s n)) ∧ w = w' := by
  have HS := Lib.hid (hs w (Kept.refl _ _))
  have HV := Lib.hid (SJudge_any w g s n L h hn)
  clear hs h
  go_enter Tryz.func54, Tryz.ntmps54
  go_wp2_with fail
  refine HS.out.mono ?_
  rintro e w1 ⟨rfl, rfl⟩
  go_wp2_with fail
  refine HV.out.mono ?_
  rintro e w2 ⟨rfl, rfl⟩
  go_wp2
  go_ret
  exact ⟨rfl, rfl⟩
set_option maxRecDepth 100000 in
theorem TLast_any (w : World) (s : Value) (k : Int) (x v : Value) (l : List Vn) (F : Nat → Prop) (hs : TBlk w s k x) (ht : TellsV w x v) (h : VsAt w F v l) (hl : (lastV l).d.length ≤ 1000000) : Calls Tryz.prog 37 #[s, .int .u32 k] w fun e w' => ∃ v', e = .returned v' ∧ VnO w' (fun k => w.heap.size < k) v' (lastV l) ∧ Kept NoB w w' := by
  have hk0 := (Kept.refl NoB w).alloc (.cells #[.int .u64 0, .int .u64 0, .slice none 0 0] 75)
  have HS := Lib.hid (hs _ hk0)
  have HL := Lib.hid (VLast_any _ x v l F (ht.no hk0) (h.no hk0) hl)
  have HK := Lib.hid hk0
  have HB := Lib.hid (heap_alloc_new w (.cells #[.int .u64 0, .int .u64 0, .slice none 0 0] 75))
  have HZ : Hid ((w.alloc (.cells #[.int .u64 0, .int .u64 0, .slice none 0 0] 75)).heap.size = w.heap.size + 1) := Lib.hid (by simp)
  clear hs h ht hk0
  go_enter Tryz.func37, Tryz.ntmps37
  go_wp2_with fail
  refine HS.out.mono ?_
  rintro e w1 ⟨rfl, rfl⟩
  go_wp2_with fail
  refine HL.out.mono ?_
  rintro e w3 ⟨v3, rfl, hv3, hk3⟩
  have HK3 := Lib.hid (HK.out.trans hk3 (fun _ _ h => h))
  have HB3 := Lib.hid (hk3.heap (fun h => h) HB.out)
  have hv3 := hv3.mono (G := fun k => w.heap.size < k) (fun k _ h => by have := HZ.out; omega)
  obtain ⟨⟨y0, y1, y2⟩, hy⟩ : ∃ y, y = lastV l := ⟨_, rfl⟩
  have HY := Lib.hid hy
  rw [← hy] at hv3
  obtain ⟨u, rfl, hu⟩ := hv3
  obtain ⟨va, vc, rfl⟩ := own_form hu.2.1
  have HU := Lib.hid hu
  obtain ⟨r0, r1, r2⟩ := cells3v HB3.out
  have z := blkV_frozen HB3.out
  clear hk3 hu hy
  go_wp2
  clear r0 r1 r2 z
  obtain ⟨r0, r1, r2, hO, hK⟩ := fin15 HB3.out (Nat.le_refl _) HK3.out (fun k h e => by omega) ⟨y0, y1, y2⟩ _ rfl HU.out
  unfold three15 at r0 r1 r2 hK hO
  simp only [Nat.zero_add] at r0 r1 r2 hK hO
  generalize hW : World.setCell _ _ _ = W3 at r0 r1 r2 hK hO ⊢
  exact bodyPost_ret (v := .agg #[.int .u64 y0, .int .u64 y1, .slice va y2.length vc]) (by simp [results, Tryz.results37, go_sem, r0, r1, r2]) rfl ⟨_, rfl, HY.out ▸ hO, hK⟩
set_option maxRecDepth 100000 in
theorem TClean_any (w : World) (s : Value) (k : Int) (done : Int) (x v : Value) (l : List Vn) (F : Nat → Prop) (hs : TBlk w s k x) (ht : TellsV w x v) (h : VsAt w F v l) (hasc : Asc l) (hl : l.length ≤ 100000) : Calls Tryz.prog 51 #[s, .int .u32 k, .int .u64 done] w fun e w' => ∃ v', e = .returned v' ∧ VnO w' (fun k => w.heap.size < k) v' (cleanV l done) ∧ Kept NoB w w' := by
  have hk0 := (Kept.refl NoB w).alloc (.cells #[.int .u64 0, .int .u64 0, .slice none 0 0] 75)
  have HS := Lib.hid (hs _ hk0)
  have HL := Lib.hid (VClean_any _ x v l done F (ht.no hk0) (h.no hk0) hasc hl)
  have HK := Lib.hid hk0
  have HB := Lib.hid (heap_alloc_new w (.cells #[.int .u64 0, .int .u64 0, .slice none 0 0] 75))
  have HZ : Hid ((w.alloc (.cells #[.int .u64 0, .int .u64 0, .slice none 0 0] 75)).heap.size = w.heap.size + 1) := Lib.hid (by simp)
  clear hs h ht hk0
  go_enter Tryz.func51, Tryz.ntmps51
  go_wp2_with fail
  refine HS.out.mono ?_
  rintro e w1 ⟨rfl, rfl⟩
  go_wp2_with fail
  refine HL.out.mono ?_
  rintro e w3 ⟨v3, rfl, hv3, hk3⟩
  have HK3 := Lib.hid (HK.out.trans hk3 (fun _ _ h => h))
  have HB3 := Lib.hid (hk3.heap (fun h => h) HB.out)
  have hv3 := hv3.mono (G := fun k => w.heap.size < k) (fun k _ h => by have := HZ.out; omega)
  obtain ⟨⟨y0, y1, y2⟩, hy⟩ : ∃ y, y = cleanV l done := ⟨_, rfl⟩
  have HY := Lib.hid hy
  rw [← hy] at hv3
  obtain ⟨u, rfl, hu⟩ := hv3
  obtain ⟨va, vc, rfl⟩ := own_form hu.2.1
  have HU := Lib.hid hu
  obtain ⟨r0, r1, r2⟩ := cells3v HB3.out
  have z := blkV_frozen HB3.out
  clear hk3 hu hy
  go_wp2
  clear r0 r1 r2 z
  obtain ⟨r0, r1, r2, hO, hK⟩ := fin15 HB3.out (Nat.le_refl _) HK3.out (fun k h e => by omega) ⟨y0, y1, y2⟩ _ rfl HU.out
  unfold three15 at r0 r1 r2 hK hO
  simp only [Nat.zero_add] at r0 r1 r2 hK hO
  generalize hW : World.setCell _ _ _ = W3 at r0 r1 r2 hK hO ⊢
  exact bodyPost_ret (v := .agg #[.int .u64 y0, .int .u64 y1, .slice va y2.length vc]) (by simp [results, Tryz.results51, go_sem, r0, r1, r2]) rfl ⟨_, rfl, HY.out ▸ hO, hK⟩
set_option maxRecDepth 100000 in
theorem TPick_any (w : World) (s : Value) (k : Int) (ver : Int) (done : Int) (x v : Value) (l : List Vn) (F : Nat → Prop) (hs : TBlk w s k x) (ht : TellsV w x v) (h : VsAt w F v l) (hasc : Asc l) (hl : l.length ≤ 100000) : Calls Tryz.prog 53 #[s, .int .u32 k, .int .u64 ver, .int .u64 done] w fun e w' => ∃ v', e = .returned v' ∧ VnO w' (fun k => w.heap.size < k) v' (pickV l ver done) ∧ Kept NoB w w' := by
  have hk0 := (Kept.refl NoB w).alloc (.cells #[.int .u64 0, .int .u64 0, .slice none 0 0] 75)
  have HS := Lib.hid (hs _ hk0)
  have HL := Lib.hid (VPick_any _ x v l ver done F (ht.no hk0) (h.no hk0) hasc hl)
  have HK := Lib.hid hk0
  have HB := Lib.hid (heap_alloc_new w (.cells #[.int .u64 0, .int .u64 0, .slice none 0 0] 75))
  have HZ : Hid ((w.alloc (.cells #[.int .u64 0, .int .u64 0, .slice none 0 0] 75)).heap.size = w.heap.size + 1) := Lib.hid (by simp)
  clear hs h ht hk0
  go_enter Tryz.func53, Tryz.ntmps53
  go_wp2_with fail
  refine HS.out.mono ?_
  rintro e w1 ⟨rfl, rfl⟩
  go_wp2_with fail
  refine HL.out.mono ?_
  rintro e w3 ⟨v3, rfl, hv3, hk3⟩
  have HK3 := Lib.hid (HK.out.trans hk3 (fun _ _ h => h))
  have HB3 := Lib.hid (hk3.heap (fun h => h) HB.out)
  have hv3 := hv3.mono (G := fun k => w.heap.size < k) (fun k _ h => by have := HZ.out; omega)
  obtain ⟨⟨y0, y1, y2⟩, hy⟩ : ∃ y, y = pickV l ver done := ⟨_, rfl⟩
  have HY := Lib.hid hy
  rw [← hy] at hv3
  obtain ⟨u, rfl, hu⟩ := hv3
  obtain ⟨va, vc, rfl⟩ := own_form hu.2.1
  have HU := Lib.hid hu
  obtain ⟨r0, r1, r2⟩ := cells3v HB3.out
  have z := blkV_frozen HB3.out
  clear hk3 hu hy
  go_wp2
  clear r0 r1 r2 z
  obtain ⟨r0, r1, r2, hO, hK⟩ := fin15 HB3.out (Nat.le_refl _) HK3.out (fun k h e => by omega) ⟨y0, y1, y2⟩ _ rfl HU.out
  unfold three15 at r0 r1 r2 hK hO
  simp only [Nat.zero_add] at r0 r1 r2 hK hO
  generalize hW : World.setCell _ _ _ = W3 at r0 r1 r2 hK hO ⊢
  exact bodyPost_ret (v := .agg #[.int .u64 y0, .int .u64 y1, .slice va y2.length vc]) (by simp [results, Tryz.results53, go_sem, r0, r1, r2]) rfl ⟨_, rfl, HY.out ▸ hO, hK⟩
end Go.Proofs.YtnnmkmipeoajjaaGreatDoor
namespace Go.Proofs.YtnnmkmipeoajjaaGreatDoor
open Go.RowKit
set_option linter.unusedVariables false

/-- An entry: its key, the block that it points to, its versions, and where they lie. -/
structure Ke where
  s : Int
  b : Nat
  G : Nat → Prop
  l : List Vn
def kev (x : Ke) : Value := .pointer (some ⟨x.b, 0, none⟩)
/-- Entries by rising keys. -/
def SrtK (L : List Ke) : Prop := L.Pairwise (fun x y => x.s < y.s)
def atK (L : List Ke) (s : Int) : Option Ke := L.find? (fun v => v.s == s)
def putK : List Ke → Ke → List Ke
  | [], v => [v]
  | x :: r, v => if x.s < v.s then x :: putK r v else if x.s = v.s then v :: r else v :: x :: r
theorem putK_mem {L : List Ke} {v x : Ke} (h : x ∈ putK L v) : x = v ∨ x ∈ L := by
  induction L with
  | nil => simp [putK] at h; exact .inl h
  | cons y r ih =>
    unfold putK at h
    split at h
    · rcases List.mem_cons.1 h with rfl | h
      · exact .inr (by simp)
      · rcases ih h with h | h
        · exact .inl h
        · exact .inr (by simp [h])
    · split at h
      · rcases List.mem_cons.1 h with rfl | h
        · exact .inl rfl
        · exact .inr (by simp [h])
      · rcases List.mem_cons.1 h with rfl | h
        · exact .inl rfl
        · exact .inr h
theorem putK_srt {L : List Ke} (v : Ke) (h : SrtK L) : SrtK (putK L v) := by
  induction L with
  | nil => exact List.pairwise_singleton _ _
  | cons y r ih =>
    obtain ⟨h1, h2⟩ := List.pairwise_cons.1 h
    unfold putK
    split
    · rename_i hlt
      refine List.pairwise_cons.2 ⟨fun z hz => ?_, ih h2⟩
      rcases putK_mem hz with rfl | hz
      · exact hlt
      · exact h1 z hz
    · split
      · rename_i he
        exact List.pairwise_cons.2 ⟨fun z hz => by have := h1 z hz; omega, h2⟩
      · exact List.pairwise_cons.2 ⟨fun z hz => by
          rcases List.mem_cons.1 hz with rfl | hz
          · omega
          · have := h1 z hz; omega, h⟩
theorem putK_len {L : List Ke} (v : Ke) : (putK L v).length ≤ L.length + 1 ∧ L.length ≤ (putK L v).length := by
  induction L with
  | nil => simp [putK]
  | cons y r ih =>
    unfold putK
    split
    · simp only [List.length_cons]; omega
    · split <;> simp
theorem atK_cons (x : Ke) (r : List Ke) (s : Int) : atK (x :: r) s = if x.s = s then some x else atK r s := by
  unfold atK
  rw [List.find?_cons]
  by_cases h : x.s = s
  · rw [if_pos h]; simp [h]
  · rw [if_neg h]
    have : (x.s == s) = false := by simpa using h
    rw [this]
theorem atK_slot {L : List Ke} {s : Int} {v : Ke} (h : atK L s = some v) : v.s = s ∧ v ∈ L := by
  have h1 := List.find?_some h
  exact ⟨by simpa using h1, List.mem_of_find?_eq_some h⟩
theorem atK_none {L : List Ke} {s : Int} (h : ∀ v ∈ L, v.s ≠ s) : atK L s = none := by
  unfold atK
  rw [List.find?_eq_none]
  intro v hv
  simpa using h v hv
theorem atK_mem {L : List Ke} {v : Ke} (hs : SrtK L) (h : v ∈ L) : atK L v.s = some v := by
  induction L with
  | nil => cases h
  | cons x r ih =>
    obtain ⟨h1, h2⟩ := List.pairwise_cons.1 hs
    rw [atK_cons]
    rcases List.mem_cons.1 h with rfl | h
    · rw [if_pos rfl]
    · have := h1 v h
      rw [if_neg (by omega)]
      exact ih h2 h
theorem atK_put_same {L : List Ke} (v : Ke) : atK (putK L v) v.s = some v := by
  induction L with
  | nil => simp [putK, atK]
  | cons x r ih =>
    unfold putK
    split
    · rw [atK_cons, if_neg (by omega)]; exact ih
    · split <;> rw [atK_cons, if_pos rfl]
theorem atK_put_other {L : List Ke} (v : Ke) {s : Int} (hs : s ≠ v.s) : atK (putK L v) s = atK L s := by
  induction L with
  | nil => simp only [putK]; rw [atK_cons, if_neg (by omega)]
  | cons x r ih =>
    unfold putK
    split
    · rw [atK_cons, atK_cons, ih]
    · split
      · rename_i h
        rw [atK_cons, atK_cons, if_neg (by omega), if_neg (by omega)]
      · rw [atK_cons, if_neg (by omega)]

/-! ### the map's datum -/
def entK (f : Ke → Value) (v : Ke) : Lit × DataW Value := (.int .u32 v.s, .held (f v))
def datK (f : Ke → Value) (L : List Ke) : DataW Value := .map (L.map (entK f))
theorem same_u32k (a b : Int) : (Lit.int .u32 a).sameKey (.int .u32 b) = decide (a = b) := by simp [Lit.sameKey]
theorem before_u32k (a b : Int) : (Lit.int .u32 a).before (.int .u32 b) = decide (a < b) := by simp [Lit.before]
theorem filter_highK (f : Ke → Value) (r : List Ke) (s : Int) (h : ∀ z ∈ r, s < z.s) : (r.map (entK f)).filter (fun p => !p.1.sameKey (.int .u32 s)) = r.map (entK f) := by
  rw [List.filter_eq_self]
  intro p hp
  obtain ⟨z, hz, rfl⟩ := List.mem_map.1 hp
  have := h z hz
  show (!(Lit.int .u32 z.s).sameKey (.int .u32 s)) = true
  rw [same_u32k]
  simp
  omega
theorem insert_lowK (f : Ke → Value) (r : List Ke) (v : Ke) (h : ∀ z ∈ r, v.s < z.s) : DataW.insert (entK f v) (r.map (entK f)) = (v :: r).map (entK f) := by
  cases r with
  | nil => rfl
  | cons y r =>
    show (if (Lit.int .u32 v.s).before (.int .u32 y.s) then entK f v :: entK f y :: r.map (entK f) else _) = _
    rw [before_u32k, if_pos (by simpa using h y (by simp))]
    rfl
theorem datK_put (f : Ke → Value) {L : List Ke} (v : Ke) (h : SrtK L) : (datK f L).put (.int .u32 v.s) (.held (f v)) = datK f (putK L v) := by
  show DataW.map (DataW.insert (entK f v) ((L.map (entK f)).filter fun p => !p.1.sameKey (.int .u32 v.s))) = .map ((putK L v).map (entK f))
  congr 1
  induction L with
  | nil => rfl
  | cons x r ih =>
    obtain ⟨h1, h2⟩ := List.pairwise_cons.1 h
    rw [List.map_cons, List.filter_cons]
    have e : (entK f x).1.sameKey (.int .u32 v.s) = decide (x.s = v.s) := same_u32k _ _
    rw [e]
    unfold putK
    by_cases hlt : x.s < v.s
    · rw [if_pos hlt, decide_eq_false (by omega), if_pos (show (!false) = true from rfl)]
      show (if (Lit.int .u32 v.s).before (.int .u32 x.s) then _ else entK f x :: DataW.insert (entK f v) _) = _
      rw [before_u32k, decide_eq_false (by omega), ih h2]
      rfl
    · rw [if_neg hlt]
      by_cases he : x.s = v.s
      · rw [if_pos he, decide_eq_true he, if_neg (by simp), filter_highK f r v.s (fun z hz => by have := h1 z hz; omega)]
        exact insert_lowK f r v (fun z hz => by have := h1 z hz; omega)
      · rw [if_neg he, decide_eq_false he, if_pos (show (!false) = true from rfl), filter_highK f r v.s (fun z hz => by have := h1 z hz; omega)]
        exact insert_lowK f (x :: r) v (fun z hz => by
          rcases List.mem_cons.1 hz with rfl | hz
          · omega
          · have := h1 z hz; omega)
theorem datK_find (f : Ke → Value) (L : List Ke) (s : Int) : (L.map (entK f)).find? (fun p => p.1.sameKey (.int .u32 s)) = (atK L s).map (entK f) := by
  induction L with
  | nil => rfl
  | cons x r ih =>
    rw [List.map_cons, List.find?_cons, atK_cons]
    have e : (entK f x).1.sameKey (.int .u32 s) = decide (x.s = s) := same_u32k _ _
    rw [e]
    by_cases h : x.s = s
    · rw [decide_eq_true h, if_pos h]; rfl
    · rw [decide_eq_false h, if_neg h]; exact ih
theorem datK_at (f : Ke → Value) (L : List Ke) (s : Int) (z : Value) : (datK f L).atKey (.int .u32 s) (.held z) = .held (((atK L s).map f).getD z) := by
  unfold datK DataW.atKey
  simp only [datK_find]
  cases atK L s <;> rfl
theorem datK_has (f : Ke → Value) (L : List Ke) (s : Int) : Maps.has (datK f L) (.int .u32 s) = (atK L s).isSome := by
  have h := datK_find f L s
  show (L.map (entK f)).any (fun p => p.1.sameKey (.int .u32 s)) = _
  have e : ∀ l : List (Lit × DataW Value), l.any (fun p => p.1.sameKey (.int .u32 s)) = (l.find? (fun p => p.1.sameKey (.int .u32 s))).isSome := by
    intro l
    induction l with
    | nil => rfl
    | cons x l ih =>
      rw [List.any_cons, List.find?_cons]
      cases x.1.sameKey (.int .u32 s)
      · simpa using ih
      · rfl
  rw [e, h]
  cases atK L s <;> rfl
/-- How an element reads: as itself. -/
def heldK (v : Value) : Option (DataW Value × List MemPlace) := some (.held v, [])
/-- Block bm is a map with these entries. -/
def MapK (P : Program) (k : TypeId) (f : Ke → Value) (w : World) (bm : Nat) (L : List Ke) : Prop := SrtK L ∧ w.ownsMap P k heldK bm L.length (datK f L)
theorem own_exactK {P : Program} {k : TypeId} {f : Ke → Value} {w : World} {bm n : Nat} {L : List Ke} (h : w.ownsMap P k heldK bm n (datK f L)) : w.ownsMap P k heldK bm L.length (datK f L) := by
  obtain ⟨es, clock, hb, F, hs, hD⟩ := h
  refine ⟨es, clock, hb, F, ?_, hD⟩
  have e : L.map (entK f) = (es.toList.map (WideElems.rg P k heldK)).foldr DataW.insert [] := by
    have := hD
    unfold datK at this
    injection this
  have e2 := congrArg List.length e
  rw [length_sorted] at e2
  simp at e2
  omega
theorem MapK.lt {P : Program} {k : TypeId} {f : Ke → Value} {w : World} {bm : Nat} {L : List Ke} (h : MapK P k f w bm L) : bm < w.heap.size := h.2.lt
theorem MapK.isMap {P : Program} {k : TypeId} {f : Ke → Value} {w : World} {bm : Nat} {L : List Ke} (h : MapK P k f w bm L) : ∃ es clock, w.heap[bm]? = some (.map es clock) := by
  obtain ⟨es, clock, hb, _⟩ := h.2
  exact ⟨es, clock, hb⟩
theorem MapK.ne {P : Program} {k : TypeId} {f : Ke → Value} {w : World} {bm g : Nat} {L : List Ke} (h : MapK P k f w bm L) {cs : Array Value} {t : TypeId} {fr : Nat × Nat} (hg : w.heap[g]? = some (.cells cs t fr)) : bm ≠ g := by
  obtain ⟨es, clock, hb⟩ := h.isMap
  intro e
  subst e
  rw [hb] at hg
  cases hg
theorem MapK.kept {P : Program} {k : TypeId} {f : Ke → Value} {S : Nat → Prop} {w w' : World} {bm : Nat} {L : List Ke} (h : MapK P k f w bm L) (hk : Kept S w w') (hs : ¬ S bm) : MapK P k f w' bm L := by
  refine ⟨h.1, ?_⟩
  obtain ⟨es, clock, hb, r⟩ := h.2
  exact ⟨es, clock, hk.heap hs hb, r⟩
theorem MapK.made (P : Program) (k : TypeId) (f : Ke → Value) (w : World) : MapK P k f (w.alloc (.map #[] 0)) w.heap.size [] :=
  ⟨List.Pairwise.nil, World.ownsMap_made w P k heldK⟩

section
variable {P : Program} (w : World) {ops : Array Oper} {rest : List Oper} {o : Oper} {a : Act} {Q : Exit → Act → World → Prop}
/-- 'm[s]'. -/
theorem run_look_mk (t : TypeId) (k e : TypeId) (hk : P.underlying k = some (.int .u32)) (ht : P.underlying t = some (.map k e))
    (z : Value) (hz : (zeroValue e).run P w = .ok z w) (bm : Nat) (f : Ke → Value) (L : List Ke) (s : Int) (hown : MapK P k f w bm L) (hwf : (Lit.int .u32 s).wf = true) :
    (Instr.lookup t (.map (some bm)) (.int .u32 s) false).run P w = .ok (((atK L s).map f).getD z) w := by
  obtain ⟨v, ps, h1, h2⟩ := hown.2.lookup (t := t) (Maps.int_keyed hk) ht hz (zd := .held z) (zp := []) rfl (Maps.keyOf_int_mk hk hwf)
  rw [datK_at] at h2
  unfold heldK at h2
  injection h2 with h2
  injection h2 with h3 h4
  injection h3 with h3
  rw [h1, h3]
theorem run_store_mk (t : TypeId) (k e : TypeId) (hk : P.underlying k = some (.int .u32)) (ht : P.underlying t = some (.map k e))
    (bm : Nat) (f : Ke → Value) (L : List Ke) (v : Ke) (hown : MapK P k f w bm L) (hwf : (Lit.int .u32 v.s).wf = true) (hl : L.length ≤ 100000) :
    ∃ w', (Instr.mapUpdate t (.map (some bm)) (.int .u32 v.s) (f v)).run P w = .ok () w' ∧ MapK P k f w' bm (putK L v) ∧ w.grownBy w' (some bm) := by
  obtain ⟨w', h1, h2, h3⟩ := hown.2.update (t := t) (Maps.int_keyed hk) ht (by unfold maxLen; omega) (Maps.keyOf_int_mk hk hwf) (val := f v) (d := .held (f v)) (ps := []) rfl
  rw [datK_put f v hown.1] at h2
  exact ⟨w', h1, ⟨putK_srt v hown.1, own_exactK h2⟩, h3⟩
/-- 'm[s] = v'. -/
theorem wp_store_mk {K : Act → World → Prop} (m x y : Operand) (t : TypeId) (hop : o.op = Op.mapUpdate t m x y) (k e : TypeId) (hk : P.underlying k = some (.int .u32)) (ht : P.underlying t = some (.map k e))
    (bm : Nat) (f : Ke → Value) (L : List Ke) (v : Ke) (hm : a.eval m = .map (some bm)) (hx : a.eval x = .int .u32 v.s) (hy : a.eval y = f v) (hown : MapK P k f w bm L) (hwf : (Lit.int .u32 v.s).wf = true) (hl : L.length ≤ 100000)
    (hK : ∀ w', MapK P k f w' bm (putK L v) → w.grownBy w' (some bm) → K (a.put o.dst undef) w') : o.wp P a w K Q := by
  obtain ⟨w', hrun, r1, r2⟩ := run_store_mk w t k e hk ht bm f L v hown hwf hl
  unfold Oper.wp
  simp [execOp, hop, hm, hx, hy, hrun, Result.andThen]
  exact hK w' r1 r2
theorem wpList_store_mk (hg : o.guard = none) (m x y : Operand) (t : TypeId) (hop : o.op = Op.mapUpdate t m x y) (k e : TypeId) (hk : P.underlying k = some (.int .u32)) (ht : P.underlying t = some (.map k e))
    (bm : Nat) (f : Ke → Value) (L : List Ke) (v : Ke) (hm : a.eval m = .map (some bm)) (hx : a.eval x = .int .u32 v.s) (hy : a.eval y = f v) (hown : MapK P k f w bm L) (hwf : (Lit.int .u32 v.s).wf = true) (hl : L.length ≤ 100000)
    (hK : ∀ w', MapK P k f w' bm (putK L v) → w.grownBy w' (some bm) → wpList P ops Q rest (a.put o.dst undef) w') : wpList P ops Q (o :: rest) a w :=
  wpList_plain hg fun K' hK' => wp_store_mk w m x y t hop k e hk ht bm f L v hm hx hy hown hwf hl fun w' h1 h2 => hK' _ _ (hK w' h1 h2)
theorem step_store_mk {K : Act → World → Prop} {E : Prop} (hgd : o.guard = none) (m x y : Operand) (t : TypeId) (hop : o.op = Op.mapUpdate t m x y) (k e : TypeId) (hk : P.underlying k = some (.int .u32)) (ht : P.underlying t = some (.map k e))
    (bm : Nat) (f : Ke → Value) (L : List Ke) (v : Ke) (hm : a.eval m = .map (some bm)) (hx : a.eval x = .int .u32 v.s) (hy : a.eval y = f v) (hown : MapK P k f w bm L) (hwf : (Lit.int .u32 v.s).wf = true) (hl : L.length ≤ 100000)
    (hK : ∀ w', MapK P k f w' bm (putK L v) → w.grownBy w' (some bm) → K (a.put o.dst undef) w') : if Region.wanted o (yielded ops a.tmps) = true then Oper.wp P o a w K Q else E := by
  have hw : Region.wanted o (yielded ops a.tmps) = true := by simp [Region.wanted, hgd]
  rw [if_pos hw]
  exact wp_store_mk w m x y t hop k e hk ht bm f L v hm hx hy hown hwf hl hK
/-- 'len(m)'. -/
theorem wpList_len_mk (hg : o.guard = none) (m : Operand) (t : TypeId) (hop : o.op = Op.call { callee := Callee.builtin Builtin.len, args := #[m], argTypes := #[t] }) (k e : TypeId) (ht : P.underlying t = some (.map k e))
    (bm : Nat) (f : Ke → Value) (L : List Ke) (hm : a.eval m = .map (some bm)) (hown : MapK P k f w bm L) (hK : wpList P ops Q rest (a.put o.dst (.int .i64 L.length)) w) : wpList P ops Q (o :: rest) a w :=
  wpList_len_own w hg m t hop k e ht heldK bm L.length (datK f L) hm hown.2 (by
    have : Maps.size (datK f L) = L.length := by simp [datK, Maps.size]
    rw [this]
    exact hK)
end
end Go.Proofs.YtnnmkmipeoajjaaGreatDoor
namespace Go.Proofs.YtnnmkmipeoajjaaGreatDoor
open Go.RowKit
set_option linter.unusedVariables false
set_option linter.unusedSimpArgs false

/-- Block g is a store: its blocks by their keys, its rows, its end. -/
structure StAt (w : World) (g bm t : Nat) (en : Int) (M : List Ke) (R : List Rw) : Prop where
  cells : w.heap[g]? = some (.cells #[.map (some bm), .pointer (some ⟨t, 0, none⟩), .int .u64 en] 143 (0, 0))
  mp : MapK Tryz.prog 29 kev w bm M
  tab : TabAt w t R
  tm : t ≠ bm
  tg : t ≠ g
  blk : ∀ x ∈ M, BkAt w x.b x.G x.l
  apart : ∀ x ∈ M, ∀ y ∈ M, x.s ≠ y.s → ∀ k, x.G k → ¬ y.G k
  fin : ∀ x ∈ M, ∀ k, x.G k → k < w.heap.size
  own : ∀ x ∈ M, ¬ x.G g ∧ ¬ x.G bm ∧ ¬ x.G t
  rng : ∀ x ∈ M, 0 ≤ x.s ∧ x.s ≤ 4294967295
  e0 : 0 ≤ en
  e1 : en ≤ 18446744073709551615
/-- Its own blocks. -/
def StB (g bm t : Nat) (M : List Ke) : Nat → Prop := fun k => k = g ∨ k = bm ∨ k = t ∨ ∃ x ∈ M, x.G k
theorem StAt.kept {S : Nat → Prop} {w w' : World} {g bm t : Nat} {en : Int} {M : List Ke} {R : List Rw} (h : StAt w g bm t en M R) (hk : Kept S w w') (hs : ∀ k, StB g bm t M k → ¬ S k) : StAt w' g bm t en M R :=
  ⟨hk.heap (hs g (.inl rfl)) h.cells, h.mp.kept hk (hs bm (.inr (.inl rfl))), h.tab.kept hk (hs t (.inr (.inr (.inl rfl)))), h.tm, h.tg, fun x hx => (h.blk x hx).kept hk (fun k hg => hs k (.inr (.inr (.inr ⟨x, hx, hg⟩)))), h.apart, (fun x hx k hg => Nat.lt_of_lt_of_le (h.fin x hx k hg) hk.size), h.own, h.rng, h.e0, h.e1⟩
theorem StAt.no {w w' : World} {g bm t : Nat} {en : Int} {M : List Ke} {R : List Rw} (h : StAt w g bm t en M R) (hk : Kept NoB w w') : StAt w' g bm t en M R := h.kept hk (fun _ _ h => h)
theorem StAt.c {w : World} {g bm t : Nat} {en : Int} {M : List Ke} {R : List Rw} (h : StAt w g bm t en M R) : w.cell? ⟨g, 0, none⟩ = some (.map (some bm)) ∧ w.cell? ⟨g, 1, none⟩ = some (.pointer (some ⟨t, 0, none⟩)) ∧ w.cell? ⟨g, 2, none⟩ = some (.int .u64 en) :=
  ⟨cell_of_row _ _ 0 _ _ _ h.cells, cell_of_row _ _ 1 _ _ _ h.cells, cell_of_row _ _ 2 _ _ _ h.cells⟩
theorem TEnd_any (w : World) (g bm t : Nat) (en : Int) (M : List Ke) (R : List Rw) (h : StAt w g bm t en M R) : Calls Tryz.prog 26 #[.pointer (some ⟨g, 0, none⟩)] w fun e w' => e = .returned (.int .u64 en) ∧ w = w' := by
  obtain ⟨c0, c1, c2⟩ := h.c
  clear h
  go_enter Tryz.func26, Tryz.ntmps26
  go_wp2
  go_ret
  exact ⟨rfl, rfl⟩
theorem TTable_any (w : World) (g bm t : Nat) (en : Int) (M : List Ke) (R : List Rw) (h : StAt w g bm t en M R) : Calls Tryz.prog 125 #[.pointer (some ⟨g, 0, none⟩)] w fun e w' => e = .returned (.pointer (some ⟨t, 0, none⟩)) ∧ w = w' := by
  obtain ⟨c0, c1, c2⟩ := h.c
  clear h
  go_enter Tryz.func125, Tryz.ntmps125
  go_wp2
  go_ret
  exact ⟨rfl, rfl⟩
theorem StAt.ttab {w : World} {g bm t : Nat} {en : Int} {M : List Ke} {R : List Rw} (h : StAt w g bm t en M R) : TTab w (.pointer (some ⟨g, 0, none⟩)) (.pointer (some ⟨t, 0, none⟩)) := fun w' hk => TTable_any w' g bm t en M R (h.no hk)
/-- What 'block' tells of a key. -/
def bkv (M : List Ke) (k : Int) : Value := ((atK M k).map kev).getD (.pointer none)
theorem TBlock_any (w : World) (g bm t : Nat) (en k : Int) (M : List Ke) (R : List Rw) (h : StAt w g bm t en M R) (h0 : 0 ≤ k) (h1 : k ≤ 4294967295) : Calls Tryz.prog 99 #[.pointer (some ⟨g, 0, none⟩), .int .u32 k] w fun e w' => e = .returned (bkv M k) ∧ w = w' := by
  obtain ⟨c0, c1, c2⟩ := h.c
  have hl := run_look_mk (P := Tryz.prog) w 139 29 161 (by kernel_rfl) (by kernel_rfl) (.pointer none) (by kernel_rfl) bm kev M k h.mp (WalkArith.wf_u32 ⟨h0, h1⟩)
  replace hl : (Instr.lookup 139 (.map (some bm)) (.int .u32 k) false).run Tryz.prog w = .ok (bkv M k) w := hl
  generalize bkv M k = z at hl ⊢
  clear h
  go_enter Tryz.func99, Tryz.ntmps99
  go_wp2
  go_ret
  exact ⟨rfl, rfl⟩
/-- The versions of a key. -/
def lsK (M : List Ke) (k : Int) : List Vn := ((atK M k).map (·.l)).getD []
theorem StAt.block {w : World} {g bm t : Nat} {en k : Int} {M : List Ke} {R : List Rw} (h : StAt w g bm t en M R) (h0 : 0 ≤ k) (h1 : k ≤ 4294967295) :
    ∃ x v F, TBlk w (.pointer (some ⟨g, 0, none⟩)) k x ∧ TellsV w x v ∧ VsAt w F v (lsK M k) ∧ Asc (lsK M k) := by
  have hb : TBlk w (.pointer (some ⟨g, 0, none⟩)) k (bkv M k) := fun w' hk => TBlock_any w' g bm t en k M R (h.no hk) h0 h1
  unfold bkv at hb
  unfold lsK
  cases ha : atK M k with
  | none =>
    rw [ha] at hb
    exact ⟨_, _, NoB, hb, TellsV.nil w, VsAt.nil w NoB, Asc.nil⟩
  | some x =>
    rw [ha] at hb
    have hB := h.blk x (atK_slot ha).2
    obtain ⟨a, c, hc, hv⟩ := hB.vs
    exact ⟨_, _, x.G, hb, TellsV.of hc, hv, hB.asc⟩
theorem TNew_any (w : World) : Calls Tryz.prog 25 #[] w fun e w' => ∃ g bm t, e = .returned (.pointer (some ⟨g, 0, none⟩)) ∧ StAt w' g bm t 0 [] [] ∧ w.heap.size ≤ g ∧ w.heap.size ≤ bm ∧ w.heap.size ≤ t ∧ Kept NoB w w' := by
  have hmm := @run_makeMap Tryz.prog
  have hk0 := (Kept.refl NoB w).alloc (.map #[] 0)
  have HK := Lib.hid hk0
  have HM := Lib.hid (MapK.made Tryz.prog 29 kev w)
  have HZ : Hid ((w.alloc (.map #[] 0)).heap.size = w.heap.size + 1) := Lib.hid (by simp)
  have HN := Lib.hid (SNew_any (w.alloc (.map #[] 0)))
  clear hk0
  go_enter Tryz.func25, Tryz.ntmps25
  go_wp2_with fail
  refine HN.out.mono ?_
  rintro e w1 ⟨rfl, ht, hk1⟩
  rw [HZ.out] at ht ⊢
  have HT := Lib.hid ht
  have HK1 := Lib.hid hk1
  clear ht hk1
  go_wp2
  go_ret
  have hz1 := HK1.out.size
  have hz0 := HZ.out
  have hk2 := (Kept.refl NoB w1).alloc (.cells #[.map (some w.heap.size), .pointer (some ⟨w.heap.size + 1, 0, none⟩), .int .u64 0] 143)
  have htl := HT.out.lt
  exact ⟨w1.heap.size, w.heap.size, w.heap.size + 1, rfl, ⟨heap_alloc_new w1 _, (HM.out.kept HK1.out (fun h => h)).kept hk2 (fun h => h), HT.out.no hk2, by omega, by omega, (fun x hx => by cases hx), (fun x hx => by cases hx), (fun x hx => by cases hx), (fun x hx => by cases hx), (fun x hx => by cases hx), by omega, by omega⟩, by omega, by omega, by omega, (HK.out.trans HK1.out (fun _ _ h => h)).trans hk2 (fun _ _ h => h)⟩
end Go.Proofs.YtnnmkmipeoajjaaGreatDoor
namespace Go.Proofs.YtnnmkmipeoajjaaGreatDoor
open Go.RowKit
set_option linter.unusedVariables false
set_option linter.unusedSimpArgs false

theorem putK_self {L : List Ke} (v : Ke) : v ∈ putK L v := (atK_slot (atK_put_same (L := L) v)).2
theorem srtK_one {L : List Ke} (h : SrtK L) {x y : Ke} (hx : x ∈ L) (hy : y ∈ L) (he : x.s = y.s) : x = y := by
  have h1 := atK_mem h hx
  have h2 := atK_mem h hy
  rw [he, h2] at h1
  exact (Option.some.inj h1).symm
theorem putK_else {L : List Ke} {v y : Ke} (h : SrtK L) (hy : y ∈ putK L v) : y = v ∨ (y ∈ L ∧ y.s ≠ v.s) := by
  rcases putK_mem hy with rfl | hm
  · exact .inl rfl
  · by_cases e : y.s = v.s
    · exact .inl (srtK_one (putK_srt v h) hy (putK_self v) e)
    · exact .inr ⟨hm, e⟩
theorem atK_no {L : List Ke} {s : Int} (h : atK L s = none) : ∀ y ∈ L, y.s ≠ s := by
  intro y hy e
  unfold atK at h
  have := List.find?_eq_none.1 h y hy
  simp at this
  exact this e
theorem StAt.stored {w w2 w3 : World} {g bm t b : Nat} {en key : Int} {M : List Ke} {R : List Rw} {G0 G : Nat → Prop} {l' : List Vn} (h : StAt w g bm t en M R) (hk : Kept G0 w w2) (hG0 : ∀ k, G0 k → ∃ x, atK M key = some x ∧ x.G k)
    (hb : BkAt w2 b G l') (hG : ∀ k, G k → G0 k ∨ w.heap.size ≤ k) (hgr : w2.grownBy w3 (some bm)) (hm : MapK Tryz.prog 29 kev w3 bm (putK M ⟨key, b, fun k => G k ∧ k < w2.heap.size, l'⟩)) (h0 : 0 ≤ key) (h1 : key ≤ 4294967295) :
    StAt w3 g bm t en (putK M ⟨key, b, fun k => G k ∧ k < w2.heap.size, l'⟩) R := by
  have hmem : ∀ y ∈ putK M ⟨key, b, fun k => G k ∧ k < w2.heap.size, l'⟩, y = ⟨key, b, fun k => G k ∧ k < w2.heap.size, l'⟩ ∨ (y ∈ M ∧ y.s ≠ key) := fun y hy => putK_else h.mp.1 hy
  have hk3 : Kept (fun k => G0 k ∨ k = bm) w w3 := (hk.mono (fun _ _ h => Or.inl h)).grown hgr (fun k e => .inl (.inr (by injection e with e; exact e.symm)))
  have hgrk : Kept (fun k => k = bm) w2 w3 := (Kept.refl _ w2).grown hgr (fun k e => .inl (by injection e with e; exact e.symm))
  have hbm := h.mp.ne h.cells
  have hbl := h.mp.lt
  have hgl := heap_lt h.cells
  have htl := h.tab.lt
  have hno : ∀ k, G0 k → k ≠ g ∧ k ≠ bm ∧ k ≠ t := by
    intro k hk0
    obtain ⟨x, hx, hxk⟩ := hG0 k hk0
    obtain ⟨o1, o2, o3⟩ := h.own x (atK_slot hx).2
    exact ⟨fun e => o1 (e ▸ hxk), fun e => o2 (e ▸ hxk), fun e => o3 (e ▸ hxk)⟩
  have hGn : ∀ k, G k → k ≠ g ∧ k ≠ bm ∧ k ≠ t := by
    intro k hk0
    rcases hG k hk0 with hh | hh
    · exact hno k hh
    · exact ⟨by omega, by omega, by omega⟩
  have hoth : ∀ y ∈ M, y.s ≠ key → ∀ k, y.G k → ¬ G0 k := by
    intro y hy hne k hyk hk0
    obtain ⟨x, hx, hxk⟩ := hG0 k hk0
    have hs := atK_slot hx
    exact h.apart y hy x hs.2 (by rw [hs.1]; exact hne) k hyk hxk
  have hothG : ∀ y ∈ M, y.s ≠ key → ∀ k, y.G k → ¬ G k := by
    intro y hy hne k hyk hk0
    have := h.fin y hy k hyk
    rcases hG k hk0 with hh | hh
    · exact hoth y hy hne k hyk hh
    · omega
  have hb3 : BkAt w3 b (fun k => G k ∧ k < w2.heap.size) l' := (hb.mono (fun k hk hg => ⟨hg, hk⟩)).kept hgrk (fun k hg e => (hGn k hg.1).2.1 e)
  refine ⟨hk3.heap (fun e => e.elim (fun e => (hno g e).1 rfl) (fun e => hbm e.symm)) h.cells, hm, h.tab.kept hk3 (fun e => e.elim (fun e => (hno t e).2.2 rfl) (fun e => h.tm e)), h.tm, h.tg, ?_, ?_, ?_, ?_, ?_, h.e0, h.e1⟩
  · intro y hy
    rcases hmem y hy with rfl | ⟨hyM, hne⟩
    · exact hb3
    · exact (h.blk y hyM).kept hk3 (fun k hg e => e.elim (fun e => hoth y hyM hne k hg e) (fun e => (h.own y hyM).2.1 (e ▸ hg)))
  · intro x hx y hy hne k hxk hyk
    rcases hmem x hx with rfl | ⟨hxM, hxn⟩
    · rcases hmem y hy with rfl | ⟨hyM, hyn⟩
      · exact hne rfl
      · exact hothG y hyM hyn k hyk hxk.1
    · rcases hmem y hy with rfl | ⟨hyM, hyn⟩
      · exact hothG x hxM hxn k hxk hyk.1
      · exact h.apart x hxM y hyM hne k hxk hyk
  · intro y hy k hg
    rcases hmem y hy with rfl | ⟨hyM, hne⟩
    · exact Nat.lt_of_lt_of_le hg.2 hgrk.size
    · exact Nat.lt_of_lt_of_le (h.fin y hyM k hg) hk3.size
  · intro y hy
    rcases hmem y hy with rfl | ⟨hyM, hne⟩
    · exact ⟨fun e => (hGn g e.1).1 rfl, fun e => (hGn bm e.1).2.1 rfl, fun e => (hGn t e.1).2.2 rfl⟩
    · exact h.own y hyM
  · intro y hy
    rcases hmem y hy with rfl | ⟨hyM, hne⟩
    · exact ⟨h0, h1⟩
    · exact h.rng y hyM
/-- What put leaves. -/
def TPutE (w : World) (g bm t : Nat) (en key : Int) (M : List Ke) (R : List Rw) (n : Vn) (e : Ending) (w' : World) : Prop :=
  e = .returned (.int .i64 (putXV (lsK M key) n)) ∧ Kept (StB g bm t M) w w' ∧ (putXV (lsK M key) n = 0 → ∃ b G, StAt w' g bm t en (putK M ⟨key, b, G, lsK M key ++ [n]⟩) R ∧ ∀ k, G k → StB g bm t M k ∨ w.heap.size ≤ k)
set_option maxRecDepth 100000 in
set_option maxHeartbeats 1000000 in
theorem TPut_any (w : World) (g bm t : Nat) (en key : Int) (M : List Ke) (R : List Rw) (v : Value) (n : Vn) (F : Nat → Prop) (h : StAt w g bm t en M R) (h0 : 0 ≤ key) (h1 : key ≤ 4294967295) (hx : VnV w F v n) (hf : FitV n) (hl : (lsK M key).length ≤ 1000) (hM : M.length ≤ 1000) (hdl : n.d.length ≤ 1000000) :
    Calls Tryz.prog 155 #[.pointer (some ⟨g, 0, none⟩), .int .u32 key, v] w (TPutE w g bm t en key M R n) := by
  obtain ⟨u, rfl, hd⟩ := hx
  obtain ⟨y0, y1, y2⟩ := n
  simp only at hd hdl ⊢
  have HD := Lib.hid hd
  obtain ⟨va, vc, rfl, _⟩ := hd
  have hk0 := (Kept.refl NoB w).alloc (.cells #[.int .u64 y0, .int .u64 y1, .slice va y2.length vc] 75)
  have HB := Lib.hid (heap_alloc_new w (.cells #[.int .u64 y0, .int .u64 y1, .slice va y2.length vc] 75))
  have hwz : (w.alloc (.cells #[.int .u64 y0, .int .u64 y1, .slice va y2.length vc] 75)).heap.size = w.heap.size + 1 := by simp
  obtain ⟨W, hW⟩ : ∃ W, W = w.alloc (.cells #[.int .u64 y0, .int .u64 y1, .slice va y2.length vc] 75) := ⟨_, rfl⟩
  rw [← hW] at hk0 HB hwz
  have HW := Lib.hid hW
  have HK0 := Lib.hid hk0
  have HH := Lib.hid h
  have HL := Lib.hid hl
  have HMl := Lib.hid hM
  have HDL := Lib.hid hdl
  have HF := Lib.hid hf
  have HS := Lib.hid (TBlock_any W g bm t en key M R (h.no hk0) h0 h1)
  obtain ⟨ao, hao⟩ : ∃ ao, ao = atK M key := ⟨_, rfl⟩
  have HAO := Lib.hid hao
  have HV : Hid (VnV W F (.agg #[.int .u64 y0, .int .u64 y1, .slice va y2.length vc]) ⟨y0, y1, y2⟩) := Lib.hid ⟨_, rfl, HD.out.kept hk0 (fun _ _ h => h)⟩
  have hgl := heap_lt h.cells
  have hbl := h.mp.lt
  have HX := Lib.hid (show w.heap.size + 1 = W.heap.size from hwz.symm)
  clear hao hW h hl hM hdl hf hk0
  cases ao with
  | none =>
    have ha := HAO.out.symm
    have hls : lsK M key = [] := by unfold lsK; rw [ha]; rfl
    rw [show bkv M key = .pointer none by unfold bkv; rw [ha]; rfl] at HS
    obtain ⟨z, hz⟩ : ∃ z, z = putXV ([] : List Vn) ⟨y0, y1, y2⟩ := ⟨_, rfl⟩
    have HZ := Lib.hid hz
    have HLS := Lib.hid hls
    clear ha hls hz hwz
    go_enter Tryz.func155, Tryz.ntmps155
    go_upto_region 1 with fail
    rw [← HW.out]
    go_wp2_with fail
    refine HS.out.mono ?_
    rintro e w1 ⟨rfl, rfl⟩
    go_wp2_with fail
    refine (VNew_any _).mono ?_
    rintro e w1 ⟨rfl, hb1, hk1⟩
    have HB1 := Lib.hid hb1
    have HK1 := Lib.hid (HK0.out.trans hk1 (fun _ _ h => h))
    obtain ⟨r0, r1, r2⟩ := cells3v (hk1.heap (fun h => h) HB.out)
    have HV1 := Lib.hid (HV.out.no hk1)
    clear hb1 hk1
    go_wp2_with fail
    refine (VPut_any w1 _ _ F [] _ ⟨y0, y1, y2⟩ HB1.out HV1.out HF.out (by simp) HDL.out).mono ?_
    rintro e w2 ⟨rfl, hb2, hk2⟩
    rw [← HZ.out]
    have HB2 := Lib.hid hb2
    have HK2 : Hid (Kept NoB w w2) := Lib.hid (HK1.out.trans hk2 (fun i hi h => by have := HX.out; have h : i = W.heap.size := h; omega))
    obtain ⟨c0, c1, c2⟩ := (HH.out.no HK2.out).c
    clear hb2 hk2 r0 r1 r2
    by_cases hz : z = 0
    · subst hz
      obtain ⟨w3, hrun, hm3, hg3⟩ := run_store_mk (P := Tryz.prog) w2 139 29 161 (by kernel_rfl) (by kernel_rfl) bm kev M ⟨key, W.heap.size, fun k => (k = W.heap.size ∨ w1.heap.size ≤ k) ∧ k < w2.heap.size, putLV [] ⟨y0, y1, y2⟩⟩ (HH.out.no HK2.out).mp (WalkArith.wf_u32 ⟨h0, h1⟩) (by have := HMl.out; omega)
      have hrun : (Instr.mapUpdate 139 (.map (some bm)) (.int .u32 key) (.pointer (some ⟨W.heap.size, 0, none⟩))).run Tryz.prog w2 = .ok () w3 := hrun
      have HM3 := Lib.hid hm3
      have HG3 := Lib.hid hg3
      clear hm3 hg3
      go_wp2
      go_ret
      have hst := HH.out.stored HK2.out (key := key) (fun k h => h.elim) HB2.out (fun k hk => .inr (by have := HX.out; have := HK1.out.size; rcases hk with rfl | hk <;> omega)) HG3.out HM3.out h0 h1
      refine ⟨by rw [HLS.out, ← HZ.out]; rfl, (HK2.out.mono (fun _ _ h => h.elim)).grown HG3.out (fun k e => .inl (by injection e with e; exact .inr (.inl e.symm))), fun _ => ⟨W.heap.size, fun k => (k = W.heap.size ∨ w1.heap.size ≤ k) ∧ k < w2.heap.size, ?_, fun k hk => .inr (by have := HX.out; have := HK1.out.size; rcases hk.1 with rfl | hk <;> omega)⟩⟩
      rw [HLS.out]
      have e : putLV [] ⟨y0, y1, y2⟩ = [] ++ [⟨y0, y1, y2⟩] := by unfold putLV; rw [if_pos HZ.out.symm]
      rw [← e]
      exact hst
    · have hze : (z == 0) = false := by simpa using hz
      go_wp2
      go_ret
      exact ⟨by rw [HLS.out, ← HZ.out]; rfl, HK2.out.mono (fun _ _ h => h.elim), fun h => absurd (by rw [HLS.out, ← HZ.out] at h; exact h) hz⟩
  | some x =>
    have ha := HAO.out.symm
    have hsl := atK_slot ha
    have hls : lsK M key = x.l := by unfold lsK; rw [ha]; rfl
    rw [show bkv M key = .pointer (some ⟨x.b, 0, none⟩) by unfold bkv; rw [ha]; rfl] at HS
    obtain ⟨z, hz⟩ : ∃ z, z = putXV x.l ⟨y0, y1, y2⟩ := ⟨_, rfl⟩
    have HZ := Lib.hid hz
    have HLS := Lib.hid hls
    have HA := Lib.hid ha
    have HBX := Lib.hid ((HH.out.no HK0.out).blk x hsl.2)
    have HXM := Lib.hid hsl.2
    have HLX : Hid (x.l.length ≤ 1000) := Lib.hid (by have := HL.out; rw [hls] at this; exact this)
    obtain ⟨r0, r1, r2⟩ := cells3v HB.out
    clear ha hls hz hwz hsl
    go_enter Tryz.func155, Tryz.ntmps155
    go_upto_region 1 with fail
    rw [← HW.out]
    go_wp2_with fail
    refine HS.out.mono ?_
    rintro e w1 ⟨rfl, rfl⟩
    go_wp2_with fail
    refine (VPut_any _ _ _ F x.l _ ⟨y0, y1, y2⟩ HBX.out HV.out HF.out HLX.out HDL.out).mono ?_
    rintro e w2 ⟨rfl, hb2, hk2⟩
    rw [← HZ.out]
    have HB2 := Lib.hid hb2
    have HK2 : Hid (Kept x.G w w2) := Lib.hid ((HK0.out.mono (fun _ _ h => h.elim)).trans hk2 (fun i hi h => h))
    have ho := HH.out.own x HXM.out
    obtain ⟨c0, c1, c2⟩ := HH.out.c
    replace c0 := HK2.out.cell (p := ⟨g, 0, none⟩) ho.1 c0
    replace c1 := HK2.out.cell (p := ⟨g, 1, none⟩) ho.1 c1
    have HMP := Lib.hid (HH.out.mp.kept HK2.out ho.2.1)
    clear hb2 hk2 r0 r1 r2 c2 ho
    by_cases hz : z = 0
    · subst hz
      obtain ⟨w3, hrun, hm3, hg3⟩ := run_store_mk (P := Tryz.prog) w2 139 29 161 (by kernel_rfl) (by kernel_rfl) bm kev M ⟨key, x.b, fun k => (x.G k ∨ W.heap.size ≤ k) ∧ k < w2.heap.size, putLV x.l ⟨y0, y1, y2⟩⟩ HMP.out (WalkArith.wf_u32 ⟨h0, h1⟩) (by have := HMl.out; omega)
      have hrun : (Instr.mapUpdate 139 (.map (some bm)) (.int .u32 key) (.pointer (some ⟨x.b, 0, none⟩))).run Tryz.prog w2 = .ok () w3 := hrun
      have HM3 := Lib.hid hm3
      have HG3 := Lib.hid hg3
      clear hm3 hg3
      go_wp2
      go_ret
      have hst := HH.out.stored HK2.out (key := key) (fun k h => ⟨x, HA.out, h⟩) HB2.out (fun k hk => hk.elim .inl (fun hk => .inr (by have := HX.out; omega))) HG3.out HM3.out h0 h1
      refine ⟨by rw [HLS.out, ← HZ.out]; rfl, (HK2.out.mono (fun i _ h => .inr (.inr (.inr ⟨x, HXM.out, h⟩)))).grown HG3.out (fun k e => .inl (by injection e with e; exact .inr (.inl e.symm))), fun _ => ⟨x.b, fun k => (x.G k ∨ W.heap.size ≤ k) ∧ k < w2.heap.size, ?_, fun k hk => hk.1.elim (fun hk => .inl (.inr (.inr (.inr ⟨x, HXM.out, hk⟩)))) (fun hk => .inr (by have := HX.out; omega))⟩⟩
      rw [HLS.out]
      have e : putLV x.l ⟨y0, y1, y2⟩ = x.l ++ [⟨y0, y1, y2⟩] := by unfold putLV; rw [if_pos HZ.out.symm]
      rw [← e]
      exact hst
    · have hze : (z == 0) = false := by simpa using hz
      go_wp2
      go_ret
      exact ⟨by rw [HLS.out, ← HZ.out]; rfl, HK2.out.mono (fun i _ h => .inr (.inr (.inr ⟨x, HXM.out, h⟩))), fun h => absurd (by rw [HLS.out, ← HZ.out] at h; exact h) hz⟩
end Go.Proofs.YtnnmkmipeoajjaaGreatDoor
namespace Go.Proofs.YtnnmkmipeoajjaaGreatDoor
open Go.RowKit
set_option linter.unusedVariables false
set_option linter.unusedSimpArgs false

section
variable {P : Program} (w : World) {o : Oper} {a : Act} {Q : Exit → Act → World → Prop}
theorem wp_len_mk {K : Act → World → Prop} (m : Operand) (t : TypeId) (hop : o.op = Op.call { callee := Callee.builtin Builtin.len, args := #[m], argTypes := #[t] }) (k e : TypeId) (ht : P.underlying t = some (.map k e))
    (bm : Nat) (f : Ke → Value) (L : List Ke) (hm : a.eval m = .map (some bm)) (hown : MapK P k f w bm L) (hK : K (a.put o.dst (.int .i64 L.length)) w) : o.wp P a w K Q := by
  have e : Maps.size (datK f L) = L.length := by simp [datK, Maps.size]
  unfold Oper.wp
  simp [execOp, hop, resolve, invoke, builtin, hm, hown.2.len ht o.type, Result.andThen, e]
  exact hK
end
/-- What execute leaves. -/
def TExE (w : World) (g bm t : Nat) (en : Int) (M : List Ke) (R : List Rw) (x : Up) (r : Int × Int × Bool) (e : Ending) (w' : World) : Prop :=
  e = .returned (.tuple #[.int .i64 r.1, .int .u64 r.2.1]) ∧ Kept (StB g bm t M) w w' ∧ (r.2.2 = false → StAt w' g bm t en M R) ∧
    (r.2.2 = true → ∃ b G, StAt w' g bm t en (putK M ⟨x.key, b, G, lsK M x.key ++ [⟨r.2.1, x.q, x.d⟩]⟩) R ∧ ∀ k, G k → StB g bm t M k ∨ w.heap.size ≤ k)
set_option maxRecDepth 100000 in
set_option maxHeartbeats 2000000 in
theorem TExec_any (w : World) (g bm t : Nat) (en : Int) (M : List Ke) (R : List Rw) (v : Value) (x : Up) (F : Nat → Prop) (h : StAt w g bm t en M R) (hx : UpV w F v x) (h0 : 0 ≤ x.key) (h1 : x.key ≤ 4294967295) (hq0 : 0 ≤ x.q) (hq1 : x.q ≤ 18446744073709551615) (hl : (lsK M x.key).length ≤ 1000) (hM : M.length ≤ 1000) (hdl : x.d.length ≤ 1000000)
    (hll : (lastV (lsK M x.key)).d.length ≤ 1000000) (hv0 : 0 ≤ (lastV (lsK M x.key)).r) (hv1 : (lastV (lsK M x.key)).r ≤ 18446744073709551615) (r : Int × Int × Bool) (hr : r = outU x (lastV (lsK M x.key)).r (decide ((M.length : Int) < 192))) (hr0 : 0 ≤ r.2.1) (hr1 : r.2.1 ≤ 18446744073709551615)
    (hp : r.2.2 = true → putXV (lsK M x.key) ⟨r.2.1, x.q, x.d⟩ = 0) :
    Calls Tryz.prog 84 #[.pointer (some ⟨g, 0, none⟩), v] w (TExE w g bm t en M R x r) := by
  obtain ⟨u, rfl, hd⟩ := hx
  obtain ⟨y0, y1, y2, y3, y4, y5, y6⟩ := x
  obtain ⟨r0, r1, r2⟩ := r
  simp only at *
  have HD := Lib.hid hd
  obtain ⟨va, vc, rfl, _⟩ := hd
  have hk0 := (Kept.refl NoB w).alloc (.cells #[.int .u64 y0, .int .i64 y1, .int .u64 y2, .int .i64 y3, .int .u32 y4, .int .u64 y5, .slice va y6.length vc] 62)
  have HB := Lib.hid (heap_alloc_new w (.cells #[.int .u64 y0, .int .i64 y1, .int .u64 y2, .int .i64 y3, .int .u32 y4, .int .u64 y5, .slice va y6.length vc] 62))
  have hwz : (w.alloc (.cells #[.int .u64 y0, .int .i64 y1, .int .u64 y2, .int .i64 y3, .int .u32 y4, .int .u64 y5, .slice va y6.length vc] 62)).heap.size = w.heap.size + 1 := by simp
  obtain ⟨W, hW⟩ : ∃ W, W = w.alloc (.cells #[.int .u64 y0, .int .i64 y1, .int .u64 y2, .int .i64 y3, .int .u32 y4, .int .u64 y5, .slice va y6.length vc] 62) := ⟨_, rfl⟩
  rw [← hW] at hk0 HB hwz
  have HW := Lib.hid hW
  have HK0 := Lib.hid hk0
  have HX := Lib.hid (show w.heap.size + 1 = W.heap.size from hwz.symm)
  have HH := Lib.hid (h.no hk0)
  have HR := Lib.hid hr
  have HP := Lib.hid hp
  have HLL := Lib.hid hll
  have HV : Hid (UpV W F (.agg #[.int .u64 y0, .int .i64 y1, .int .u64 y2, .int .i64 y3, .int .u32 y4, .int .u64 y5, .slice va y6.length vc]) ⟨y0, y1, y2, y3, y4, y5, y6⟩) := Lib.hid ⟨_, rfl, HD.out.kept hk0 (fun _ _ h => h)⟩
  obtain ⟨lv, hlv⟩ : ∃ lv, lv = lastV (lsK M y4) := ⟨_, rfl⟩
  have HLV := Lib.hid hlv
  have hblk := HH.out.block (k := y4) h0 h1
  obtain ⟨bx, bv, BF, hb1, hb2, hb3, hb4⟩ := hblk
  have HLA := Lib.hid (fun w' (hk : Kept NoB W w') => TLast_any w' (.pointer (some ⟨g, 0, none⟩)) y4 bx bv (lsK M y4) BF (fun w2 hk2 => hb1 w2 (hk.trans hk2 (fun _ _ h => h))) (hb2.no hk) (hb3.no hk) HLL.out)
  obtain ⟨c0, c1, c2⟩ := HH.out.c
  obtain ⟨d0, d1, d2, d3, d4, d5, d6⟩ := cells7 HB.out
  have HC0 := Lib.hid c0
  have HOUT := Lib.hid (fun w' (hk : Kept NoB W w') => Outcome_any w' _ ⟨y0, y1, y2, y3, y4, y5, y6⟩ (lastV (lsK M y4)).r (decide ((M.length : Int) < 192)) F (HV.out.no hk) hv0 hv1)
  rw [← hr] at HOUT
  rw [← hlv] at HLA HOUT hv0 hv1 
  have HHK := Lib.hid h
  have HPL := Lib.hid hl
  have HPM := Lib.hid hM
  have HDL := Lib.hid hdl
  clear hb1 hb2 hb3 hb4 hk0 hwz hW h hr hp hll hlv c1 c2 hl hM hdl
  obtain ⟨z0, z1, z2⟩ := lv
  simp only at hv0 hv1 HLA HOUT
  go_enter Tryz.func84, Tryz.ntmps84
  go_upto_region 1 with fail
  rw [← HW.out]
  have HTEN : Hid (∀ w', Kept NoB W w' → w'.cell? ⟨g, 0, none⟩ = some (.map (some bm)) ∧ w'.cell? ⟨w.heap.size, 0, none⟩ = some (.int .u64 y0) ∧ w'.cell? ⟨w.heap.size, 1, none⟩ = some (.int .i64 y1) ∧ w'.cell? ⟨w.heap.size, 2, none⟩ = some (.int .u64 y2) ∧ w'.cell? ⟨w.heap.size, 3, none⟩ = some (.int .i64 y3) ∧ w'.cell? ⟨w.heap.size, 4, none⟩ = some (.int .u32 y4) ∧ w'.cell? ⟨w.heap.size, 5, none⟩ = some (.int .u64 y5) ∧ w'.cell? ⟨w.heap.size, 6, none⟩ = some (.slice va y6.length vc)) := Lib.hid (fun w' hk => ⟨hk.cell (p := ⟨g, 0, none⟩) (fun h => h) HC0.out, cell_of_row _ _ 0 _ _ _ (hk.heap (fun h => h) HB.out), cell_of_row _ _ 1 _ _ _ (hk.heap (fun h => h) HB.out), cell_of_row _ _ 2 _ _ _ (hk.heap (fun h => h) HB.out), cell_of_row _ _ 3 _ _ _ (hk.heap (fun h => h) HB.out), cell_of_row _ _ 4 _ _ _ (hk.heap (fun h => h) HB.out), cell_of_row _ _ 5 _ _ _ (hk.heap (fun h => h) HB.out), cell_of_row _ _ 6 _ _ _ (hk.heap (fun h => h) HB.out)⟩)
  have HKe := Lib.hid (Kept.refl NoB W).drew
  have HT := Lib.hid (HTEN.out _ HKe.out)
  refine wp_region_noPanic ?_
  refine wp_region_held_drew (S := (fun w' => w'.cell? ⟨g, 0, none⟩ = some (.map (some bm)) ∧ w'.cell? ⟨w.heap.size, 0, none⟩ = some (.int .u64 y0) ∧ w'.cell? ⟨w.heap.size, 1, none⟩ = some (.int .i64 y1) ∧ w'.cell? ⟨w.heap.size, 2, none⟩ = some (.int .u64 y2) ∧ w'.cell? ⟨w.heap.size, 3, none⟩ = some (.int .i64 y3) ∧ w'.cell? ⟨w.heap.size, 4, none⟩ = some (.int .u32 y4) ∧ w'.cell? ⟨w.heap.size, 5, none⟩ = some (.int .u64 y5) ∧ w'.cell? ⟨w.heap.size, 6, none⟩ = some (.slice va y6.length vc))) (by kernel_rfl) ?_ (fun hHeld => ?_)
  · (try dsimp only); with_reducible exact HT.out
  refine wpAnyH_take (i := 0) (oi := { dst := some 10, op := Op.load 62 (Operand.tmp 3), type := 62, pos := "store.go:107", after := #[], guard := none }) (v := ?_) rfl (by kernel_rfl) (by kernel_rfl) (by kernel_rfl) (fun _ _ _ h => h) (Or.inl ⟨by rfl, ?_⟩) (by assumption) ?_
  rotate_left
  · (intro w hSw; (try dsimp only at hSw); go_simp; (try simp only [hfl, Result.andThen]); try with_reducible rfl)
  try simp only [Act.put, List.setIfInBounds_toArray, List.set_cons_zero, List.set_cons_succ]
  refine wpAnyH_take (i := 1) (oi := { dst := some 11, op := Op.move (Operand.tmp 0), type := 54, pos := "store.go:107", after := #[], guard := none }) (v := ?_) rfl (by kernel_rfl) (by kernel_rfl) (by kernel_rfl) (fun _ _ _ h => h) (Or.inl ⟨by rfl, ?_⟩) (by assumption) ?_
  rotate_left
  · (intro w hSw; (try dsimp only at hSw); go_simp; (try simp only [hfl, Result.andThen]); try with_reducible rfl)
  try simp only [Act.put, List.setIfInBounds_toArray, List.set_cons_zero, List.set_cons_succ]
  refine wpAnyH_take (i := 2) (oi := { dst := some 12, op := Op.fieldAddr 62 (Operand.tmp 3) 4, type := 0, pos := "store.go:107", after := #[], guard := none }) (v := ?_) rfl (by kernel_rfl) (by kernel_rfl) (by kernel_rfl) (fun _ _ _ h => h) (Or.inl ⟨by rfl, ?_⟩) (by assumption) ?_
  rotate_left
  · (intro w hSw; (try dsimp only at hSw); go_simp; (try simp only [hfl, Result.andThen]); try with_reducible rfl)
  try simp only [Act.put, List.setIfInBounds_toArray, List.set_cons_zero, List.set_cons_succ]
  refine wpAnyH_take (i := 3) (oi := { dst := some 13, op := Op.load 29 (Operand.tmp 12), type := 29, pos := "store.go:107", after := #[{ on := 2, ground := Ground.data }], guard := none }) (v := ?_) rfl (by kernel_rfl) (by kernel_rfl) (by kernel_rfl) (fun _ _ _ h => h) (Or.inl ⟨by rfl, ?_⟩) (by assumption) ?_
  rotate_left
  · (intro w hSw; (try dsimp only at hSw); go_simp; (try simp only [hfl, Result.andThen]); try with_reducible rfl)
  try simp only [Act.put, List.setIfInBounds_toArray, List.set_cons_zero, List.set_cons_succ]
  refine wpAnyH_take (i := 6) (oi := { dst := some 16, op := Op.move (Operand.tmp 0), type := 54, pos := "store.go:107", after := #[], guard := none }) (v := ?_) rfl (by kernel_rfl) (by kernel_rfl) (by kernel_rfl) (fun _ _ _ h => h) (Or.inl ⟨by rfl, ?_⟩) (by assumption) ?_
  rotate_left
  · (intro w hSw; (try dsimp only at hSw); go_simp; (try simp only [hfl, Result.andThen]); try with_reducible rfl)
  try simp only [Act.put, List.setIfInBounds_toArray, List.set_cons_zero, List.set_cons_succ]
  refine wpAnyH_take (i := 7) (oi := { dst := some 17, op := Op.nilCheck (Operand.tmp 16), type := 0, pos := "store.go:107", after := #[{ on := 6, ground := Ground.data }], guard := none }) (v := ?_) rfl (by kernel_rfl) (by kernel_rfl) (by kernel_rfl) (fun _ _ _ h => h) (Or.inl ⟨by rfl, ?_⟩) (by assumption) ?_
  rotate_left
  · (intro w hSw; (try dsimp only at hSw); go_simp; (try simp only [hfl, Result.andThen]); try with_reducible rfl)
  try simp only [Act.put, List.setIfInBounds_toArray, List.set_cons_zero, List.set_cons_succ]
  refine wpAnyH_take (i := 8) (oi := { dst := some 18, op := Op.fieldAddr 143 (Operand.tmp 17) 0, type := 0, pos := "store.go:107", after := #[{ on := 7, ground := Ground.data }], guard := none }) (v := ?_) rfl (by kernel_rfl) (by kernel_rfl) (by kernel_rfl) (fun _ _ _ h => h) (Or.inl ⟨by rfl, ?_⟩) (by assumption) ?_
  rotate_left
  · (intro w hSw; (try dsimp only at hSw); go_simp; (try simp only [hfl, Result.andThen]); try with_reducible rfl)
  try simp only [Act.put, List.setIfInBounds_toArray, List.set_cons_zero, List.set_cons_succ]
  refine wpAnyH_take (i := 9) (oi := { dst := some 19, op := Op.load 139 (Operand.tmp 18), type := 139, pos := "store.go:107", after := #[{ on := 8, ground := Ground.data }], guard := none }) (v := ?_) rfl (by kernel_rfl) (by kernel_rfl) (by kernel_rfl) (fun _ _ _ h => h) (Or.inl ⟨by rfl, ?_⟩) (by assumption) ?_
  rotate_left
  · (intro w hSw; (try dsimp only at hSw); go_simp; (try simp only [hfl, Result.andThen]); try with_reducible rfl)
  try simp only [Act.put, List.setIfInBounds_toArray, List.set_cons_zero, List.set_cons_succ]
  refine wpAnyH_ready (rs := [4]) (by kernel_rfl) (by simp) ?_
  refine AllReadyH.cons (o := { dst := some 14, op := Op.call { callee := Callee.value (Operand.func 37), args := #[Operand.tmp 11, Operand.tmp 13], argTypes := #[54, 29] }, type := 75, pos := "store.go:107", after := #[{ on := 1, ground := Ground.data }, { on := 3, ground := Ground.data }], guard := none }) rfl (fun K hK => ?_) AllReadyH.nil
  go_simp
  (with_reducible refine (HLA.out _ HKe.out).mono ?_)
  rintro e z ⟨v3, rfl, hv3, hkz⟩
  obtain ⟨u3, rfl, hu3⟩ := hv3
  obtain ⟨ua3, uc3, rfl⟩ := own_form hu3.2.1
  replace HKe := Lib.hid (HKe.out.trans hkz (fun _ _ h => h))
  clear hkz hu3
  have hfl := fld15_r z0 z1 (.slice ua3 z2.length uc3)
  replace HT := Lib.hid (HTEN.out _ HKe.out)
  first | (with_reducible refine hK.out _ _ ?_ (fun hHeld => ?_)) | (go_wp2_with fail; with_reducible refine hK.out _ _ ?_ (fun hHeld => ?_))
  · (try dsimp only); with_reducible exact HT.out
  clear hK K
  try simp only [Act.put, List.setIfInBounds_toArray, List.set_cons_zero, List.set_cons_succ]
  refine wpAnyH_take (i := 5) (oi := { dst := some 15, op := Op.field 75 (Operand.tmp 14) 0, type := 25, pos := "store.go:107", after := #[{ on := 4, ground := Ground.data }], guard := none }) (v := ?_) rfl (by kernel_rfl) (by kernel_rfl) (by kernel_rfl) (fun _ _ _ h => h) (Or.inl ⟨by rfl, ?_⟩) (by assumption) ?_
  rotate_left
  · (intro w hSw; (try dsimp only at hSw); go_simp; (try simp only [hfl, Result.andThen]); try with_reducible rfl)
  try simp only [Act.put, List.setIfInBounds_toArray, List.set_cons_zero, List.set_cons_succ]
  refine wpAnyH_ready (rs := [10]) (by kernel_rfl) (by simp) ?_
  refine AllReadyH.cons (o := { dst := some 20, op := Op.call { callee := Callee.builtin Builtin.len, args := #[Operand.tmp 19], argTypes := #[139] }, type := 3, pos := "store.go:107", after := #[{ on := 9, ground := Ground.data }, { on := 4, ground := Ground.chain }], guard := none }) rfl (fun K hK => ?_) AllReadyH.nil
  go_simp
  rw [(HH.out.no HKe.out).mp.2.len Tryz.underlying139 3, show Maps.size (datK kev M) = M.length by simp [datK, Maps.size]]
  dsimp only [Result.andThen, Oper.upon]
  replace HT := Lib.hid (HTEN.out _ HKe.out)
  first | (with_reducible refine hK.out _ _ ?_ (fun hHeld => ?_)) | (go_wp2_with fail; with_reducible refine hK.out _ _ ?_ (fun hHeld => ?_))
  · (try dsimp only); with_reducible exact HT.out
  clear hK K
  try simp only [Act.put, List.setIfInBounds_toArray, List.set_cons_zero, List.set_cons_succ]
  refine wpAnyH_take (i := 11) (oi := { dst := some 21, op := Op.binOp BinOp.lss 3 (Operand.tmp 20) (Operand.const (Value.int IntKind.i64 192)) 3, type := 4, pos := "store.go:107", after := #[{ on := 10, ground := Ground.data }], guard := none }) (v := ?_) rfl (by kernel_rfl) (by kernel_rfl) (by kernel_rfl) (fun _ _ _ h => h) (Or.inl ⟨by rfl, ?_⟩) (by assumption) ?_
  rotate_left
  · (intro w hSw; (try dsimp only at hSw); go_simp; (try simp only [hfl, Result.andThen]); try with_reducible rfl)
  try simp only [Act.put, List.setIfInBounds_toArray, List.set_cons_zero, List.set_cons_succ]
  refine wpAnyH_ready (rs := [12]) (by kernel_rfl) (by simp) ?_
  refine AllReadyH.cons (o := { dst := some 22, op := Op.call { callee := Callee.value (Operand.func 154), args := #[Operand.tmp 10, Operand.tmp 15, Operand.tmp 21], argTypes := #[62, 25, 4] }, type := 151, pos := "store.go:107", after := #[{ on := 0, ground := Ground.data }, { on := 5, ground := Ground.data }, { on := 11, ground := Ground.data }, { on := 10, ground := Ground.chain }], guard := none }) rfl (fun K hK => ?_) AllReadyH.nil
  go_simp
  (with_reducible refine (HOUT.out _ HKe.out).mono ?_)
  rintro e z4 ⟨rfl, hkz⟩
  replace HKe := Lib.hid (HKe.out.trans hkz (fun _ _ h => h))
  clear hkz
  replace HT := Lib.hid (HTEN.out _ HKe.out)
  first | (with_reducible refine hK.out _ _ ?_ (fun hHeld => ?_)) | (go_wp2_with fail; with_reducible refine hK.out _ _ ?_ (fun hHeld => ?_))
  · (try dsimp only); with_reducible exact HT.out
  clear hK K
  try simp only [Act.put, List.setIfInBounds_toArray, List.set_cons_zero, List.set_cons_succ]
  refine wpAnyH_take (i := 13) (oi := { dst := some 9, op := Op.move (Operand.tmp 22), type := 151, pos := "store.go:107", after := #[{ on := 12, ground := Ground.data }], guard := none }) (v := ?_) rfl (by kernel_rfl) (by kernel_rfl) (by kernel_rfl) (fun _ _ _ h => h) (Or.inl ⟨by rfl, ?_⟩) (by assumption) ?_
  rotate_left
  · (intro w hSw; (try dsimp only at hSw); go_simp; (try simp only [hfl, Result.andThen]); try with_reducible rfl)
  try simp only [Act.put, List.setIfInBounds_toArray, List.set_cons_zero, List.set_cons_succ]
  refine wpAnyH_take (i := 14) (oi := { dst := some 23, op := Op.extract (Operand.tmp 9) 0, type := 34, pos := "store.go:107", after := #[{ on := 13, ground := Ground.data }], guard := none }) (v := ?_) rfl (by kernel_rfl) (by kernel_rfl) (by kernel_rfl) (fun _ _ _ h => h) (Or.inl ⟨by rfl, ?_⟩) (by assumption) ?_
  rotate_left
  · (intro w hSw; (try dsimp only at hSw); go_simp; (try simp only [hfl, Result.andThen]); try with_reducible rfl)
  try simp only [Act.put, List.setIfInBounds_toArray, List.set_cons_zero, List.set_cons_succ]
  refine wpAnyH_take (i := 15) (oi := { dst := some 24, op := Op.extract (Operand.tmp 9) 1, type := 25, pos := "store.go:107", after := #[{ on := 13, ground := Ground.data }, { on := 17, ground := Ground.gcOnly Departure.lateStores }], guard := none }) (v := ?_) rfl (by kernel_rfl) (by kernel_rfl) (by kernel_rfl) (fun _ _ _ h => h) (Or.inl ⟨by rfl, ?_⟩) (by assumption) ?_
  rotate_left
  · (intro w hSw; (try dsimp only at hSw); go_simp; (try simp only [hfl, Result.andThen]); try with_reducible rfl)
  try simp only [Act.put, List.setIfInBounds_toArray, List.set_cons_zero, List.set_cons_succ]
  refine wpAnyH_take (i := 16) (oi := { dst := some 25, op := Op.extract (Operand.tmp 9) 2, type := 4, pos := "store.go:107", after := #[{ on := 13, ground := Ground.data }, { on := 18, ground := Ground.gcOnly Departure.lateStores }], guard := none }) (v := ?_) rfl (by kernel_rfl) (by kernel_rfl) (by kernel_rfl) (fun _ _ _ h => h) (Or.inl ⟨by rfl, ?_⟩) (by assumption) ?_
  rotate_left
  · (intro w hSw; (try dsimp only at hSw); go_simp; (try simp only [hfl, Result.andThen]); try with_reducible rfl)
  try simp only [Act.put, List.setIfInBounds_toArray, List.set_cons_zero, List.set_cons_succ]
  refine wpAnyH_take (i := 17) (oi := { dst := some 6, op := Op.assign (Operand.tmp 23), type := 34, pos := "store.go:107", after := #[{ on := 14, ground := Ground.data }, { on := 12, ground := Ground.chain }, { on := 0, ground := Ground.phase }, { on := 1, ground := Ground.phase }, { on := 2, ground := Ground.phase }, { on := 3, ground := Ground.phase }, { on := 4, ground := Ground.phase }, { on := 5, ground := Ground.phase }, { on := 6, ground := Ground.phase }, { on := 7, ground := Ground.phase }, { on := 8, ground := Ground.phase }, { on := 9, ground := Ground.phase }, { on := 10, ground := Ground.phase }, { on := 11, ground := Ground.phase }, { on := 12, ground := Ground.phase }, { on := 13, ground := Ground.phase }, { on := 14, ground := Ground.phase }, { on := 15, ground := Ground.textOnly Departure.lateStores }, { on := 16, ground := Ground.textOnly Departure.lateStores }], guard := none }) (v := ?_) rfl (by kernel_rfl) (by kernel_rfl) (by kernel_rfl) (fun _ _ _ h => h) (Or.inl ⟨by rfl, ?_⟩) (by assumption) ?_
  rotate_left
  · (intro w hSw; (try dsimp only at hSw); go_simp; (try simp only [hfl, Result.andThen]); try with_reducible rfl)
  try simp only [Act.put, List.setIfInBounds_toArray, List.set_cons_zero, List.set_cons_succ]
  refine wpAnyH_take (i := 18) (oi := { dst := some 7, op := Op.assign (Operand.tmp 24), type := 25, pos := "store.go:107", after := #[{ on := 15, ground := Ground.data }, { on := 17, ground := Ground.chain }, { on := 0, ground := Ground.phase }, { on := 1, ground := Ground.phase }, { on := 2, ground := Ground.phase }, { on := 3, ground := Ground.phase }, { on := 4, ground := Ground.phase }, { on := 5, ground := Ground.phase }, { on := 6, ground := Ground.phase }, { on := 7, ground := Ground.phase }, { on := 8, ground := Ground.phase }, { on := 9, ground := Ground.phase }, { on := 10, ground := Ground.phase }, { on := 11, ground := Ground.phase }, { on := 12, ground := Ground.phase }, { on := 13, ground := Ground.phase }, { on := 14, ground := Ground.phase }, { on := 15, ground := Ground.phase }, { on := 16, ground := Ground.textOnly Departure.lateStores }, { on := 17, ground := Ground.phase }], guard := none }) (v := ?_) rfl (by kernel_rfl) (by kernel_rfl) (by kernel_rfl) (fun _ _ _ h => h) (Or.inl ⟨by rfl, ?_⟩) (by assumption) ?_
  rotate_left
  · (intro w hSw; (try dsimp only at hSw); go_simp; (try simp only [hfl, Result.andThen]); try with_reducible rfl)
  try simp only [Act.put, List.setIfInBounds_toArray, List.set_cons_zero, List.set_cons_succ]
  refine wpAnyH_take (i := 19) (oi := { dst := some 8, op := Op.assign (Operand.tmp 25), type := 4, pos := "store.go:107", after := #[{ on := 16, ground := Ground.data }, { on := 18, ground := Ground.chain }, { on := 0, ground := Ground.phase }, { on := 1, ground := Ground.phase }, { on := 2, ground := Ground.phase }, { on := 3, ground := Ground.phase }, { on := 4, ground := Ground.phase }, { on := 5, ground := Ground.phase }, { on := 6, ground := Ground.phase }, { on := 7, ground := Ground.phase }, { on := 8, ground := Ground.phase }, { on := 9, ground := Ground.phase }, { on := 10, ground := Ground.phase }, { on := 11, ground := Ground.phase }, { on := 12, ground := Ground.phase }, { on := 13, ground := Ground.phase }, { on := 14, ground := Ground.phase }, { on := 15, ground := Ground.phase }, { on := 16, ground := Ground.phase }, { on := 17, ground := Ground.phase }, { on := 18, ground := Ground.phase }], guard := none }) (v := ?_) rfl (by kernel_rfl) (by kernel_rfl) (by kernel_rfl) (fun _ _ _ h => h) (Or.inl ⟨by rfl, ?_⟩) (by assumption) ?_
  rotate_left
  · (intro w hSw; (try dsimp only at hSw); go_simp; (try simp only [hfl, Result.andThen]); try with_reducible rfl)
  try simp only [Act.put, List.setIfInBounds_toArray, List.set_cons_zero, List.set_cons_succ]
  refine wpAnyH_done (by kernel_rfl) ?_ _
  refine NoPanic.normal ?_
  have HKw := Lib.hid (HK0.out.trans HKe.out (fun _ _ h => h))
  have HHz := Lib.hid (HHK.out.no HKw.out)
  cases r2
  · go_wp2
    go_ret2
    exact ⟨rfl, HKw.out.mono (fun _ _ h => h.elim), fun _ => HHz.out, fun h => by cases h⟩
  · have HBz := Lib.hid (HKe.out.heap (fun h => h) HB.out)
    have HVz := Lib.hid (HV.out.no HKe.out)
    have HZS := Lib.hid (show w.heap.size + 1 ≤ z4.heap.size by have := HX.out; have := HKe.out.size; omega)
    have HMA := Lib.hid (fun w' (hk : Kept NoB z4 w') => UMade_any w' _ ⟨y0, y1, y2, y3, y4, y5, y6⟩ r1 F (HVz.out.no hk) HDL.out)
    have HBX : Hid (¬ StB g bm t M w.heap.size) := Lib.hid (by
      have h1 := heap_lt HHK.out.cells
      have h2 := HHK.out.mp.lt
      have h3 := HHK.out.tab.lt
      rintro (h | h | h | ⟨x, hx, h⟩)
      · omega
      · omega
      · omega
      · have := HHK.out.fin x hx _ h
        omega)
    have HPU := Lib.hid (fun w' v' (hk : Kept NoB z4 w') (hv : VnV w' (fun k => z4.heap.size ≤ k) v' ⟨r1, y0, y6⟩) => TPut_any w' g bm t en y4 M R v' ⟨r1, y0, y6⟩ _ (HHz.out.no hk) h0 h1 hv ⟨hr0, hr1, hq0, hq1⟩ HPL.out HPM.out HDL.out)
    clear HT HTEN HLA HOUT HD HV HB HC0 hHeld
    go_upto_region 3 with fail
    have HTEN : Hid (∀ w', Kept (StB g bm t M) z4 w' → w'.cell? ⟨w.heap.size, 0, none⟩ = some (.int .u64 y0) ∧ w'.cell? ⟨w.heap.size, 1, none⟩ = some (.int .i64 y1) ∧ w'.cell? ⟨w.heap.size, 2, none⟩ = some (.int .u64 y2) ∧ w'.cell? ⟨w.heap.size, 3, none⟩ = some (.int .i64 y3) ∧ w'.cell? ⟨w.heap.size, 4, none⟩ = some (.int .u32 y4) ∧ w'.cell? ⟨w.heap.size, 5, none⟩ = some (.int .u64 y5) ∧ w'.cell? ⟨w.heap.size, 6, none⟩ = some (.slice va y6.length vc)) := Lib.hid (fun w' hk => ⟨cell_of_row _ _ 0 _ _ _ (hk.heap HBX.out HBz.out), cell_of_row _ _ 1 _ _ _ (hk.heap HBX.out HBz.out), cell_of_row _ _ 2 _ _ _ (hk.heap HBX.out HBz.out), cell_of_row _ _ 3 _ _ _ (hk.heap HBX.out HBz.out), cell_of_row _ _ 4 _ _ _ (hk.heap HBX.out HBz.out), cell_of_row _ _ 5 _ _ _ (hk.heap HBX.out HBz.out), cell_of_row _ _ 6 _ _ _ (hk.heap HBX.out HBz.out)⟩)
    have HKe := Lib.hid (Kept.refl NoB z4).drew
    have HT := Lib.hid (by first | exact HTEN.out _ HKe.out | exact HTEN.out _ (HKe.out.mono (fun _ _ h => h.elim)))
    refine wp_region_noPanic ?_
    refine wp_region_held_drew (S := (fun w' => w'.cell? ⟨w.heap.size, 0, none⟩ = some (.int .u64 y0) ∧ w'.cell? ⟨w.heap.size, 1, none⟩ = some (.int .i64 y1) ∧ w'.cell? ⟨w.heap.size, 2, none⟩ = some (.int .u64 y2) ∧ w'.cell? ⟨w.heap.size, 3, none⟩ = some (.int .i64 y3) ∧ w'.cell? ⟨w.heap.size, 4, none⟩ = some (.int .u32 y4) ∧ w'.cell? ⟨w.heap.size, 5, none⟩ = some (.int .u64 y5) ∧ w'.cell? ⟨w.heap.size, 6, none⟩ = some (.slice va y6.length vc))) (by kernel_rfl) ?_ (fun hHeld => ?_)
    · (try dsimp only); with_reducible exact HT.out
    refine wpAnyH_take (i := 0) (oi := { dst := some 27, op := Op.move (Operand.tmp 0), type := 54, pos := "store.go:109", after := #[], guard := none }) (v := ?_) rfl (by kernel_rfl) (by kernel_rfl) (by kernel_rfl) (fun _ _ _ h => h) (Or.inl ⟨by rfl, ?_⟩) (by assumption) ?_
    rotate_left
    · (intro w hSw; (try dsimp only at hSw); go_simp; try with_reducible rfl)
    try simp only [Act.put, List.setIfInBounds_toArray, List.set_cons_zero, List.set_cons_succ]
    refine wpAnyH_take (i := 1) (oi := { dst := some 28, op := Op.fieldAddr 62 (Operand.tmp 3) 4, type := 0, pos := "store.go:109", after := #[], guard := none }) (v := ?_) rfl (by kernel_rfl) (by kernel_rfl) (by kernel_rfl) (fun _ _ _ h => h) (Or.inl ⟨by rfl, ?_⟩) (by assumption) ?_
    rotate_left
    · (intro w hSw; (try dsimp only at hSw); go_simp; try with_reducible rfl)
    try simp only [Act.put, List.setIfInBounds_toArray, List.set_cons_zero, List.set_cons_succ]
    refine wpAnyH_take (i := 2) (oi := { dst := some 29, op := Op.load 29 (Operand.tmp 28), type := 29, pos := "store.go:109", after := #[{ on := 1, ground := Ground.data }], guard := none }) (v := ?_) rfl (by kernel_rfl) (by kernel_rfl) (by kernel_rfl) (fun _ _ _ h => h) (Or.inl ⟨by rfl, ?_⟩) (by assumption) ?_
    rotate_left
    · (intro w hSw; (try dsimp only at hSw); go_simp; try with_reducible rfl)
    try simp only [Act.put, List.setIfInBounds_toArray, List.set_cons_zero, List.set_cons_succ]
    refine wpAnyH_take (i := 3) (oi := { dst := some 30, op := Op.load 62 (Operand.tmp 3), type := 62, pos := "store.go:109", after := #[], guard := none }) (v := ?_) rfl (by kernel_rfl) (by kernel_rfl) (by kernel_rfl) (fun _ _ _ h => h) (Or.inl ⟨by rfl, ?_⟩) (by assumption) ?_
    rotate_left
    · (intro w hSw; (try dsimp only at hSw); go_simp; try with_reducible rfl)
    try simp only [Act.put, List.setIfInBounds_toArray, List.set_cons_zero, List.set_cons_succ]
    refine wpAnyH_take (i := 4) (oi := { dst := some 31, op := Op.move (Operand.tmp 7), type := 25, pos := "store.go:109", after := #[], guard := none }) (v := ?_) rfl (by kernel_rfl) (by kernel_rfl) (by kernel_rfl) (fun _ _ _ h => h) (Or.inl ⟨by rfl, ?_⟩) (by assumption) ?_
    rotate_left
    · (intro w hSw; (try dsimp only at hSw); go_simp; try with_reducible rfl)
    try simp only [Act.put, List.setIfInBounds_toArray, List.set_cons_zero, List.set_cons_succ]
    refine wpAnyH_ready (rs := [5]) (by kernel_rfl) (by simp) ?_
    refine AllReadyH.cons (o := { dst := some 32, op := Op.call { callee := Callee.value (Operand.func 156), args := #[Operand.tmp 30, Operand.tmp 31], argTypes := #[62, 25] }, type := 75, pos := "store.go:109", after := #[{ on := 3, ground := Ground.data }, { on := 4, ground := Ground.data }], guard := none }) rfl (fun K hK => ?_) AllReadyH.nil
    go_simp
    (with_reducible refine (HMA.out _ HKe.out).mono ?_)
    rintro e z5 ⟨v5, rfl, hv5, hkz⟩
    have HV5 := Lib.hid (hv5.v.mono (G := fun k => z4.heap.size ≤ k) (fun k _ h => Nat.le_trans HKe.out.size h))
    obtain ⟨u5, rfl, hu5⟩ := hv5
    obtain ⟨ua5, uc5, rfl⟩ := own_form hu5.2.1
    replace HKe := Lib.hid (HKe.out.trans hkz (fun _ _ h => h))
    clear hkz hu5
    replace HT := Lib.hid (by first | exact HTEN.out _ HKe.out | exact HTEN.out _ (HKe.out.mono (fun _ _ h => h.elim)))
    first | (with_reducible refine hK.out _ _ ?_ (fun hHeld => ?_)) | (go_wp2_with fail; with_reducible refine hK.out _ _ ?_ (fun hHeld => ?_))
    · (try dsimp only); with_reducible exact HT.out
    clear hK K
    try simp only [Act.put, List.setIfInBounds_toArray, List.set_cons_zero, List.set_cons_succ]
    refine wpAnyH_ready (rs := [6]) (by kernel_rfl) (by simp) ?_
    refine AllReadyH.cons (o := { dst := some 33, op := Op.call { callee := Callee.value (Operand.func 155), args := #[Operand.tmp 27, Operand.tmp 29, Operand.tmp 32], argTypes := #[54, 29, 75] }, type := 34, pos := "store.go:109", after := #[{ on := 0, ground := Ground.data }, { on := 2, ground := Ground.data }, { on := 5, ground := Ground.data }, { on := 5, ground := Ground.chain }], guard := none }) rfl (fun K hK => ?_) AllReadyH.nil
    go_simp
    (with_reducible refine (HPU.out _ _ HKe.out HV5.out).mono ?_)
    intro e z6 hpe
    obtain ⟨rfl, hkp, hst⟩ := hpe
    have HPE := Lib.hid (show True ∧ True ∧ (putXV (lsK M y4) ⟨r1, y0, y6⟩ = 0 → _) from ⟨trivial, trivial, hst⟩)
    have HKM := HKe
    replace HKe := Lib.hid ((HKe.out.mono (T := StB g bm t M) (fun _ _ h => h.elim)).trans hkp (fun _ _ h => h))
    clear hkp hst
    replace HT := Lib.hid (by first | exact HTEN.out _ HKe.out | exact HTEN.out _ (HKe.out.mono (fun _ _ h => h.elim)))
    first | (with_reducible refine hK.out _ _ ?_ (fun hHeld => ?_)) | (go_wp2_with fail; with_reducible refine hK.out _ _ ?_ (fun hHeld => ?_))
    · (try dsimp only); with_reducible exact HT.out
    clear hK K
    try simp only [Act.put, List.setIfInBounds_toArray, List.set_cons_zero, List.set_cons_succ]
    refine wpAnyH_done (by kernel_rfl) ?_ _
    refine NoPanic.normal ?_
    go_wp2
    go_ret2
    obtain ⟨p1, p2, p3⟩ := HPE.out
    obtain ⟨b, G, hs, hG⟩ := p3 (HP.out trivial)
    exact ⟨rfl, (HKw.out.mono (fun _ _ h => h.elim)).trans HKe.out (fun _ _ h => h), fun h => (nomatch (show true = false from h)), fun _ => ⟨b, G, hs, fun k hk => (hG k hk).imp id (fun h => by have := HZS.out; have := HKM.out.size; omega)⟩⟩
end Go.Proofs.YtnnmkmipeoajjaaGreatDoor
namespace Go.Proofs.YtnnmkmipeoajjaaGreatDoor
open Go.RowKit
set_option linter.unusedVariables false
set_option linter.unusedSimpArgs false

set_option maxRecDepth 100000 in
theorem TRow_by (w : World) (st x : Value) (s : Int) (r : Rw) (b : Bool) (hs : TTab w st x) (hG : ∀ w', Kept NoB w w' → Calls Tryz.prog 126 #[x, .int .i64 s] w' fun e w'' => e = .returned (.tuple #[rvv r, .bool b]) ∧ Kept NoB w' w'') :
    Calls Tryz.prog 48 #[st, .int .i64 s] w fun e w' => e = .returned (.tuple #[rvv r, .bool b]) ∧ Kept NoB w w' := by
  obtain ⟨y0, y1, y2, y3, y4⟩ := r
  simp only [rvv] at hG ⊢
  have hk0 := (Kept.refl NoB w).alloc (.cells #[.int .i64 0, .int .u64 0, .int .u64 0, .int .i64 0, .int .u64 0] 65)
  have HS := Lib.hid (hs _ hk0)
  have HG := Lib.hid (hG _ hk0)
  have HB := Lib.hid (heap_alloc_new w (.cells #[.int .i64 0, .int .u64 0, .int .u64 0, .int .i64 0, .int .u64 0] 65))
  have HK := Lib.hid hk0
  clear hs hG hk0
  go_enter Tryz.func48, Tryz.ntmps48
  go_wp2_with fail
  refine HS.out.mono ?_
  rintro e w1 ⟨rfl, rfl⟩
  go_wp2_with fail
  refine HG.out.mono ?_
  rintro e w2 ⟨rfl, hk2⟩
  have HK2 := Lib.hid (HK.out.trans hk2 (fun _ _ h => h))
  have HB2 := Lib.hid (hk2.heap (fun h => h) HB.out)
  clear hk2
  obtain ⟨r0, r1, r2, r3, r4⟩ := cells5r (v := rw0) HB2.out
  have z0 := blkR_frozen HB2.out
  go_wp2
  have hF := five16_at HB2.out ⟨y0, y1, y2, y3, y4⟩
  have hK := HK2.out.five16 (b := w.heap.size) (.inr (Nat.le_refl _)) 0 ⟨y0, y1, y2, y3, y4⟩
  clear r0 r1 r2 r3 r4 z0
  obtain ⟨r0, r1, r2, r3, r4⟩ := cells5r (v := ⟨y0, y1, y2, y3, y4⟩) hF
  clear hF
  unfold five16 at r0 r1 r2 r3 r4 hK
  simp only [Nat.zero_add] at r0 r1 r2 r3 r4 hK
  generalize hW : World.setCell _ _ _ = W3 at r0 r1 r2 r3 r4 hK ⊢
  exact bodyPost_ret (v := .tuple #[.agg #[.int .i64 y0, .int .u64 y1, .int .u64 y2, .int .i64 y3, .int .u64 y4], .bool b]) (by simp [results, Tryz.results48, go_sem, r0, r1, r2, r3, r4]) rfl ⟨rfl, hK⟩
theorem TRow_nil (w : World) (s : Int) : Calls Tryz.prog 48 #[.pointer none, .int .i64 s] w fun e w' => e = .returned (.tuple #[rvv rw0, .bool false]) ∧ Kept NoB w w' :=
  TRow_by w _ _ s rw0 false (TTab.nil w) (fun w' _ => SGet_nil w' s)
theorem TRow_any (w : World) (g bm t : Nat) (en s : Int) (M : List Ke) (R : List Rw) (h : StAt w g bm t en M R) : Calls Tryz.prog 48 #[.pointer (some ⟨g, 0, none⟩), .int .i64 s] w fun e w' => e = .returned (.tuple #[rvv ((atR R s).getD rw0), .bool (hasB R s)]) ∧ Kept NoB w w' :=
  TRow_by w _ _ s _ _ h.ttab (fun w' hk => SGet_any w' t s R (h.no hk).tab)
set_option maxRecDepth 100000 in
theorem TApply_nil (w : World) (F : Nat → Prop) (v : Value) (x : Up) (hx : UpV w F v x) : Calls Tryz.prog 27 #[.pointer none, v] w fun e w' => e = .returned (.tuple #[rvv rw0, .int .i64 2]) ∧ Kept NoB w w' := by
  obtain ⟨u, rfl, hd⟩ := hx
  obtain ⟨y0, y1, y2, y3, y4, y5, y6⟩ := x
  simp only at hd ⊢
  obtain ⟨va, vc, rfl, _⟩ := hd
  have hr := heap_alloc_new (w.alloc (.cells #[.int .u64 y0, .int .i64 y1, .int .u64 y2, .int .i64 y3, .int .u32 y4, .int .u64 y5, .slice va y6.length vc] 62)) (.cells #[.int .i64 0, .int .u64 0, .int .u64 0, .int .i64 0, .int .u64 0] 65)
  have hk := ((Kept.refl NoB w).alloc (.cells #[.int .u64 y0, .int .i64 y1, .int .u64 y2, .int .i64 y3, .int .u32 y4, .int .u64 y5, .slice va y6.length vc] 62)).alloc (.cells #[.int .i64 0, .int .u64 0, .int .u64 0, .int .i64 0, .int .u64 0] 65)
  have hz : (w.alloc (.cells #[.int .u64 y0, .int .i64 y1, .int .u64 y2, .int .i64 y3, .int .u32 y4, .int .u64 y5, .slice va y6.length vc] 62)).heap.size = w.heap.size + 1 := by simp
  rw [hz] at hr
  obtain ⟨W, hW⟩ : ∃ W, W = (w.alloc (.cells #[.int .u64 y0, .int .i64 y1, .int .u64 y2, .int .i64 y3, .int .u32 y4, .int .u64 y5, .slice va y6.length vc] 62)).alloc (.cells #[.int .i64 0, .int .u64 0, .int .u64 0, .int .i64 0, .int .u64 0] 65) := ⟨_, rfl⟩
  have HWW := Lib.hid hW
  rw [← hW] at hr hk
  have HR := Lib.hid hr
  have HK := Lib.hid hk
  clear hr hk hW hz
  go_enter Tryz.func27, Tryz.ntmps27
  go_upto_region 1 with fail
  rw [← HWW.out]
  obtain ⟨r0, r1, r2, r3, r4⟩ := cells5r (v := rw0) HR.out
  have z0 := blkR_frozen HR.out
  go_wp2
  have hF := five16_at HR.out rw0
  have hK := HK.out.five16 (b := w.heap.size + 1) (.inr (Nat.le_succ _)) 0 rw0
  clear r0 r1 r2 r3 r4 z0
  obtain ⟨r0, r1, r2, r3, r4⟩ := cells5r (v := rw0) hF
  clear hF
  unfold five16 at r0 r1 r2 r3 r4 hK
  simp only [Nat.zero_add, rw0] at r0 r1 r2 r3 r4 hK
  generalize hW : World.setCell _ _ _ = W3 at r0 r1 r2 r3 r4 hK ⊢
  exact bodyPost_ret (v := .tuple #[.agg #[.int .i64 0, .int .u64 0, .int .u64 0, .int .i64 0, .int .u64 0], .int .i64 2]) (by simp [results, Tryz.results27, go_sem, r0, r1, r2, r3, r4]) rfl ⟨rfl, hK⟩
end Go.Proofs.YtnnmkmipeoajjaaGreatDoor
namespace Go.Proofs.YtnnmkmipeoajjaaGreatDoor
open Go.RowKit
set_option linter.unusedVariables false
set_option linter.unusedSimpArgs false

theorem chk0 {x : Up} (h : chkU areUs x = 0) : 1 ≤ x.q ∧ 1 ≤ x.c ∧ x.c ≤ 6 ∧ 1 ≤ x.n ∧ x.d.length ≤ 2048 ∧ (x.k = 2 ∨ x.k = 3) := by
  unfold chkU at h
  split at h
  · cases h
  · split at h
    · cases h
    · split at h
      · rename_i h1 h2 h3
        simp only [areUs, List.any_cons, List.any_nil, Bool.or_false, isUp, Bool.and_eq_true, Bool.not_eq_true', Bool.or_eq_false_iff, Bool.not_eq_false', decide_eq_true_eq, decide_eq_false_iff_not] at h3
        obtain ⟨_, h4, ⟨h5, h6⟩, h7, h8, h9⟩ := h3
        exact ⟨by omega, h5, h6, h8, h9, Classical.not_not.1 h1⟩
      · cases h
theorem StAt.ended {w : World} {g bm t : Nat} {en q : Int} {M : List Ke} {R : List Rw} (h : StAt w g bm t en M R) (h0 : 0 ≤ q) (h1 : q ≤ 18446744073709551615) : StAt (w.setCell ⟨g, 2, none⟩ (.int .u64 q)) g bm t q M R := by
  have hk : Kept (fun k => k = g) w (w.setCell ⟨g, 2, none⟩ (.int .u64 q)) := (Kept.refl (fun k => k = g) w).setCell (p := ⟨g, 2, none⟩) (.inl rfl) _
  have hc := blkV_set h.cells 2 (.int .u64 q)
  exact ⟨hc, h.mp.kept hk (h.mp.ne h.cells), h.tab.kept hk h.tg, h.tm, h.tg, fun x hx => (h.blk x hx).kept hk (fun k hg e => (h.own x hx).1 (e ▸ hg)), h.apart, (fun x hx k hg => Nat.lt_of_lt_of_le (h.fin x hx k hg) hk.size), h.own, h.rng, h0, h1⟩
theorem StAt.rows {w w' : World} {g bm t : Nat} {en : Int} {M : List Ke} {R R' : List Rw} (h : StAt w g bm t en M R) (ht : TabAt w' t R') (hk : Kept (fun k => k = t) w w') : StAt w' g bm t en M R' :=
  ⟨hk.heap (fun e => h.tg e.symm) h.cells, h.mp.kept hk (fun e => h.tm e.symm), ht, h.tm, h.tg, fun x hx => (h.blk x hx).kept hk (fun k hg e => (h.own x hx).2.2 (e ▸ hg)), h.apart, (fun x hx k hg => Nat.lt_of_lt_of_le (h.fin x hx k hg) hk.size), h.own, h.rng, h.e0, h.e1⟩
/-- The row of an update with this result. -/
def rowU (x : Up) (r : Int × Int × Bool) : Rw := ⟨x.c, x.n, x.q, r.1, r.2.1⟩
set_option maxRecDepth 100000 in
set_option maxHeartbeats 2000000 in
/-- Apply refuses: a wrong update, or one that is not the next. -/
theorem TApply_bad (w : World) (g bm t : Nat) (en : Int) (M : List Ke) (R : List Rw) (v : Value) (x : Up) (F : Nat → Prop) (h : StAt w g bm t en M R) (hx : UpV w F v x) (hF : ∀ k, F k → k < w.heap.size) (ht : Tab10 w) (hq : 0 ≤ x.q) (hq1 : x.q ≤ 18446744073709551615) (hb : chkU areUs x ≠ 0 ∨ x.q ≠ en + 1) :
    Calls Tryz.prog 27 #[.pointer (some ⟨g, 0, none⟩), v] w fun e w' => e = .returned (.tuple #[rvv rw0, .int .i64 (if chkU areUs x ≠ 0 then chkU areUs x else 12)]) ∧ Kept NoB w w' := by
  obtain ⟨u, rfl, hd⟩ := hx
  obtain ⟨y0, y1, y2, y3, y4, y5, y6⟩ := x
  simp only at *
  have HD := Lib.hid hd
  obtain ⟨va, vc, rfl, _⟩ := hd
  have hr := heap_alloc_new (w.alloc (.cells #[.int .u64 y0, .int .i64 y1, .int .u64 y2, .int .i64 y3, .int .u32 y4, .int .u64 y5, .slice va y6.length vc] 62)) (.cells #[.int .i64 0, .int .u64 0, .int .u64 0, .int .i64 0, .int .u64 0] 65)
  have hz : (w.alloc (.cells #[.int .u64 y0, .int .i64 y1, .int .u64 y2, .int .i64 y3, .int .u32 y4, .int .u64 y5, .slice va y6.length vc] 62)).heap.size = w.heap.size + 1 := by simp
  rw [hz] at hr
  have hk := ((Kept.refl NoB w).alloc (.cells #[.int .u64 y0, .int .i64 y1, .int .u64 y2, .int .i64 y3, .int .u32 y4, .int .u64 y5, .slice va y6.length vc] 62)).alloc (.cells #[.int .i64 0, .int .u64 0, .int .u64 0, .int .i64 0, .int .u64 0] 65)
  have hu := blkV_alloc (heap_alloc_new w (.cells #[.int .u64 y0, .int .i64 y1, .int .u64 y2, .int .i64 y3, .int .u32 y4, .int .u64 y5, .slice va y6.length vc] 62)) (.cells #[.int .i64 0, .int .u64 0, .int .u64 0, .int .i64 0, .int .u64 0] 65)
  have hzz : ((w.alloc (.cells #[.int .u64 y0, .int .i64 y1, .int .u64 y2, .int .i64 y3, .int .u32 y4, .int .u64 y5, .slice va y6.length vc] 62)).alloc (.cells #[.int .i64 0, .int .u64 0, .int .u64 0, .int .i64 0, .int .u64 0] 65)).heap.size = w.heap.size + 2 := by simp
  obtain ⟨W, hW⟩ : ∃ W, W = (w.alloc (.cells #[.int .u64 y0, .int .i64 y1, .int .u64 y2, .int .i64 y3, .int .u32 y4, .int .u64 y5, .slice va y6.length vc] 62)).alloc (.cells #[.int .i64 0, .int .u64 0, .int .u64 0, .int .i64 0, .int .u64 0] 65) := ⟨_, rfl⟩
  have HWW := Lib.hid hW
  rw [← hW] at hr hk hu hzz
  have HR := Lib.hid hr
  have HK := Lib.hid hk
  have HU := Lib.hid hu
  have HCK := Lib.hid (UCheck_any W _ ⟨y0, y1, y2, y3, y4, y5, y6⟩ F (show UpV W F (.agg #[.int .u64 y0, .int .i64 y1, .int .u64 y2, .int .i64 y3, .int .u32 y4, .int .u64 y5, .slice va y6.length vc]) _ from ⟨_, rfl, HD.out.kept hk (fun _ _ h => h)⟩) (fun k hf => Nat.lt_of_lt_of_le (hF k hf) hk.size) (ht.kept hk (fun h => h)))
  have HH := Lib.hid (h.no hk)
  have HE0 := Lib.hid h.e0
  have HE1 := Lib.hid h.e1
  obtain ⟨ck, hck⟩ : ∃ ck, ck = chkU areUs ⟨y0, y1, y2, y3, y4, y5, y6⟩ := ⟨_, rfl⟩
  have HC := Lib.hid hck
  have HBB := Lib.hid hb
  rw [← hck] at HCK HBB ⊢
  obtain ⟨an, han⟩ : ∃ an, an = (if ck ≠ 0 then ck else 12) := ⟨_, rfl⟩
  have HAN := Lib.hid han
  rw [← han]
  clear hr hk hW hz hu hzz hck h hF ht hb han
  obtain ⟨d0, d1, d2, d3, d4, d5, d6⟩ := cells7 HU.out
  go_enter Tryz.func27, Tryz.ntmps27
  go_upto_region 1 with fail
  rw [← HWW.out]
  go_wp2_with fail
  refine HCK.out.mono ?_
  rintro e w1 ⟨rfl, hk1⟩
  have HK1 := Lib.hid (HK.out.trans hk1 (fun _ _ h => h))
  have HR1 := Lib.hid (hk1.heap (fun h => h) HR.out)
  have HU1 := Lib.hid (hk1.heap (fun h => h) HU.out)
  have HH1 := Lib.hid (HH.out.no hk1)
  clear hk1 d0 d1 d2 d3 d4 d5 d6
  obtain ⟨r0, r1, r2, r3, r4⟩ := cells5r (v := rw0) HR1.out
  have z0 := blkR_frozen HR1.out
  by_cases hc : ck = 0
  · have hce : (ck != 0) = false := by simpa using hc
    have hne : y0 ≠ en + 1 := HBB.out.elim (fun h => absurd hc h) id
    have HA2 : Hid (an = 12) := Lib.hid (by rw [HAN.out, if_neg (by simpa using hc)])
    have hf := chk0 (by rw [← HC.out]; exact hc)
    have hy1 : 1 ≤ y0 := hf.1
    have hwr : IntKind.u64.wrap (y0 - 1) = y0 - 1 := IntWalk.u64_in _ (by omega)
    have hnb : ((y0 - 1) != en) = true := by simp; omega
    obtain ⟨c0, c1, c2⟩ := HH1.out.c
    obtain ⟨d0, d1, d2, d3, d4, d5, d6⟩ := cells7 HU1.out
    clear hf hne
    go_upto_region 6 with fail
    go_quiet (fail)
    go_wp2
    have hF := five16_at (w := w1.drewN nq) HR1.out rw0
    have hK := (HK1.out.drewN nq).five16 (b := w.heap.size + 1) (.inr (Nat.le_succ _)) 0 rw0
    clear r0 r1 r2 r3 r4 z0
    obtain ⟨r0, r1, r2, r3, r4⟩ := cells5r (v := rw0) hF
    clear hF
    unfold five16 at r0 r1 r2 r3 r4 hK
    simp only [Nat.zero_add, rw0] at r0 r1 r2 r3 r4 hK
    generalize hW : World.setCell _ _ _ = W3 at r0 r1 r2 r3 r4 hK ⊢
    exact bodyPost_ret (v := .tuple #[.agg #[.int .i64 0, .int .u64 0, .int .u64 0, .int .i64 0, .int .u64 0], .int .i64 12]) (by simp [results, Tryz.results27, go_sem, r0, r1, r2, r3, r4]) rfl ⟨by rw [HA2.out]; rfl, hK⟩
  · have hce : (ck != 0) = true := by simpa using hc
    have HA2 : Hid (an = ck) := Lib.hid (by rw [HAN.out, if_pos hc])
    go_wp2
    have hF := five16_at HR1.out rw0
    have hK := HK1.out.five16 (b := w.heap.size + 1) (.inr (Nat.le_succ _)) 0 rw0
    clear r0 r1 r2 r3 r4 z0
    obtain ⟨r0, r1, r2, r3, r4⟩ := cells5r (v := rw0) hF
    clear hF
    unfold five16 at r0 r1 r2 r3 r4 hK
    simp only [Nat.zero_add, rw0] at r0 r1 r2 r3 r4 hK
    generalize hW : World.setCell _ _ _ = W3 at r0 r1 r2 r3 r4 hK ⊢
    exact bodyPost_ret (v := .tuple #[.agg #[.int .i64 0, .int .u64 0, .int .u64 0, .int .i64 0, .int .u64 0], .int .i64 ck]) (by simp [results, Tryz.results27, go_sem, r0, r1, r2, r3, r4]) rfl ⟨by rw [HA2.out]; rfl, hK⟩
end Go.Proofs.YtnnmkmipeoajjaaGreatDoor
namespace Go.Proofs.YtnnmkmipeoajjaaGreatDoor
open Go.RowKit
set_option linter.unusedVariables false
set_option linter.unusedSimpArgs false

theorem StAt.bnd {w : World} {g bm t : Nat} {en : Int} {M : List Ke} {R : List Rw} (h : StAt w g bm t en M R) : ∀ k, StB g bm t M k → k < w.heap.size := by
  have h1 := heap_lt h.cells
  have h2 := h.mp.lt
  have h3 := h.tab.lt
  rintro k (e | e | e | ⟨x, hx, e⟩)
  · omega
  · omega
  · omega
  · exact h.fin x hx _ e
set_option maxRecDepth 100000 in
set_option maxHeartbeats 2000000 in
/-- An update whose number is not fresh for its client: the end rises, and nothing else. -/
theorem TApply_old (w : World) (g bm t : Nat) (en : Int) (M : List Ke) (R : List Rw) (v : Value) (x : Up) (F : Nat → Prop) (h : StAt w g bm t en M R) (hx : UpV w F v x) (hF : ∀ k, F k → k < w.heap.size ∧ ¬ StB g bm t M k) (ht : Tab10 w) (hfit : FitU x) (hc : chkU areUs x = 0) (he : x.q = en + 1) (hj : judR R x.c x.n ≠ 0) :
    Calls Tryz.prog 27 #[.pointer (some ⟨g, 0, none⟩), v] w (fun e w' => e = .returned (.tuple #[rvv rw0, .int .i64 0]) ∧ StAt w' g bm t x.q M R ∧ Kept (StB g bm t M) w w') := by
  obtain ⟨u, rfl, hd⟩ := hx
  obtain ⟨y0, y1, y2, y3, y4, y5, y6⟩ := x
  have hf := chk0 hc
  obtain ⟨hq0, hq1, hn0, hn1, hy0, hy1, _, _⟩ := hfit
  simp only at *
  have HD := Lib.hid hd
  obtain ⟨va, vc, rfl, _⟩ := hd
  have hr := heap_alloc_new (w.alloc (.cells #[.int .u64 y0, .int .i64 y1, .int .u64 y2, .int .i64 y3, .int .u32 y4, .int .u64 y5, .slice va y6.length vc] 62)) (.cells #[.int .i64 0, .int .u64 0, .int .u64 0, .int .i64 0, .int .u64 0] 65)
  have hz : (w.alloc (.cells #[.int .u64 y0, .int .i64 y1, .int .u64 y2, .int .i64 y3, .int .u32 y4, .int .u64 y5, .slice va y6.length vc] 62)).heap.size = w.heap.size + 1 := by simp
  rw [hz] at hr
  have hk := ((Kept.refl NoB w).alloc (.cells #[.int .u64 y0, .int .i64 y1, .int .u64 y2, .int .i64 y3, .int .u32 y4, .int .u64 y5, .slice va y6.length vc] 62)).alloc (.cells #[.int .i64 0, .int .u64 0, .int .u64 0, .int .i64 0, .int .u64 0] 65)
  have hu := blkV_alloc (heap_alloc_new w (.cells #[.int .u64 y0, .int .i64 y1, .int .u64 y2, .int .i64 y3, .int .u32 y4, .int .u64 y5, .slice va y6.length vc] 62)) (.cells #[.int .i64 0, .int .u64 0, .int .u64 0, .int .i64 0, .int .u64 0] 65)
  have hzz : ((w.alloc (.cells #[.int .u64 y0, .int .i64 y1, .int .u64 y2, .int .i64 y3, .int .u32 y4, .int .u64 y5, .slice va y6.length vc] 62)).alloc (.cells #[.int .i64 0, .int .u64 0, .int .u64 0, .int .i64 0, .int .u64 0] 65)).heap.size = w.heap.size + 2 := by simp
  obtain ⟨W, hW⟩ : ∃ W, W = (w.alloc (.cells #[.int .u64 y0, .int .i64 y1, .int .u64 y2, .int .i64 y3, .int .u32 y4, .int .u64 y5, .slice va y6.length vc] 62)).alloc (.cells #[.int .i64 0, .int .u64 0, .int .u64 0, .int .i64 0, .int .u64 0] 65) := ⟨_, rfl⟩
  have HWW := Lib.hid hW
  rw [← hW] at hr hk hu hzz
  have HR := Lib.hid hr
  have HK := Lib.hid hk
  have HU := Lib.hid hu
  have HSZ := Lib.hid hzz
  have HV : Hid (UpV W F (.agg #[.int .u64 y0, .int .i64 y1, .int .u64 y2, .int .i64 y3, .int .u32 y4, .int .u64 y5, .slice va y6.length vc]) ⟨y0, y1, y2, y3, y4, y5, y6⟩) := Lib.hid ⟨_, rfl, HD.out.kept hk (fun _ _ h => h)⟩
  have hck := UCheck_any W _ ⟨y0, y1, y2, y3, y4, y5, y6⟩ F HV.out (fun k hf => Nat.lt_of_lt_of_le (hF k hf).1 hk.size) (ht.kept hk (fun h => h))
  rw [hc] at hck
  have HCK := Lib.hid hck
  have HH := Lib.hid (h.no hk)
  have HFF := Lib.hid hF
  have HCH := Lib.hid hf
  have HBD := Lib.hid h.bnd
  have hgl : g < w.heap.size := heap_lt h.cells
  have hwr : IntKind.u64.wrap (y0 - 1) = y0 - 1 := IntWalk.u64_in _ (by have := hf.1; omega)
  have hnb : ((y0 - 1) != en) = false := by simp; omega
  obtain ⟨j, hjj⟩ : ∃ j, j = judR R y1 y2 := ⟨_, rfl⟩
  have hjb : (j != 0) = true := by rw [hjj]; simpa using hj
  have HJJ := Lib.hid hjj
  clear hr hk hW hz hu hzz hck h hF ht hc hf he hj hjj
  obtain ⟨d0, d1, d2, d3, d4, d5, d6⟩ := cells7 HU.out
  go_enter Tryz.func27, Tryz.ntmps27
  go_upto_region 1 with fail
  rw [← HWW.out]
  go_wp2_with fail
  refine HCK.out.mono ?_
  rintro e w1 ⟨rfl, hk1⟩
  have HK1 := Lib.hid (HK.out.trans hk1 (fun _ _ h => h))
  have HR1 := Lib.hid (hk1.heap (fun h => h) HR.out)
  have HU1 := Lib.hid (hk1.heap (fun h => h) HU.out)
  have HH1 := Lib.hid (HH.out.no hk1)
  have HV1 := Lib.hid (HV.out.no hk1)
  have HSZ1 := Lib.hid (show w.heap.size + 2 ≤ w1.heap.size by have := hk1.size; have := HSZ.out; omega)
  clear hk1 d0 d1 d2 d3 d4 d5 d6
  obtain ⟨c0, c1, c2⟩ := HH1.out.c
  obtain ⟨d0, d1, d2, d3, d4, d5, d6⟩ := cells7 HU1.out
  have zg := blkV_frozen HH1.out.cells 2
  go_upto_region 6 with fail
  go_quiet (fail)
  go_upto_region 9 with fail
  have HH2 := Lib.hid ((HH1.out.no ((Kept.refl NoB w1).drewN nq)).ended hq0 hq1)
  have HK2 := Lib.hid (((HK1.out.drewN nq).mono (T := StB g bm t M) (fun _ _ h => h.elim)).setCell (p := ⟨g, 2, none⟩) (.inl (.inl rfl)) (.int .u64 y0))
  have HU2 := Lib.hid (blkV_set_other (w := w1.drewN nq) HU1.out 2 (.int .u64 y0) (show g ≠ w.heap.size by omega))
  have HR2 := Lib.hid (blkV_set_other (w := w1.drewN nq) HR1.out 2 (.int .u64 y0) (show g ≠ w.heap.size + 1 by omega))
  have HV2 := Lib.hid ((HV1.out.no ((Kept.refl NoB w1).drewN nq)).kept ((Kept.refl (fun k => k = g) (w1.drewN nq)).setCell (p := ⟨g, 2, none⟩) (.inl rfl) (.int .u64 y0)) (fun k hf e => (HFF.out k hf).2 (.inl e)))
  have HSZ2 := Lib.hid (Nat.le_trans HSZ1.out ((Kept.refl (fun k => k = g) (w1.drewN nq)).setCell (p := ⟨g, 2, none⟩) (.inl rfl) (.int .u64 y0)).size)
  clear c0 c1 c2 d0 d1 d2 d3 d4 d5 d6 zg
  generalize hW2 : World.setCell _ _ _ = W2 at HH2 HK2 HU2 HR2 HV2 HSZ2 ⊢
  clear hW2 HH1 HK1 HU1 HR1 HV1
  obtain ⟨d0, d1, d2, d3, d4, d5, d6⟩ := cells7 HU2.out
  have HJ := Lib.hid (TJudge_any W2 _ t y1 y2 R HH2.out.ttab HH2.out.tab hn0)
  go_wp2_with fail
  refine HJ.out.mono ?_
  rintro e w3 ⟨rfl, rfl⟩
  rw [← HJJ.out]
  obtain ⟨r0, r1, r2, r3, r4⟩ := cells5r (v := rw0) HR2.out
  have z0 := blkR_frozen HR2.out
  go_wp2
  have hF := five16_at HR2.out rw0
  have hK := HK2.out.five16 (b := w.heap.size + 1) (.inr (Nat.le_succ _)) 0 rw0
  have hS := HH2.out.kept ((Kept.refl (fun k => k = w.heap.size + 1) W2).five16 (b := w.heap.size + 1) (.inl rfl) 0 rw0) (fun k hk e => by have := HBD.out k hk; omega)
  clear r0 r1 r2 r3 r4 z0
  obtain ⟨r0, r1, r2, r3, r4⟩ := cells5r (v := rw0) hF
  clear hF
  unfold five16 at r0 r1 r2 r3 r4 hK hS
  simp only [Nat.zero_add, rw0] at r0 r1 r2 r3 r4 hK hS
  generalize hW : World.setCell _ _ _ = W3 at r0 r1 r2 r3 r4 hK hS ⊢
  exact bodyPost_ret (v := .tuple #[.agg #[.int .i64 0, .int .u64 0, .int .u64 0, .int .i64 0, .int .u64 0], .int .i64 0]) (by simp [results, Tryz.results27, go_sem, r0, r1, r2, r3, r4]) rfl ⟨rfl, hS, hK⟩
set_option maxRecDepth 100000 in
set_option maxHeartbeats 2000000 in
/-- An update whose number is fresh: it is executed, and its client's row is the new one. -/
theorem TApply_fresh (w : World) (g bm t : Nat) (en : Int) (M : List Ke) (R : List Rw) (v : Value) (x : Up) (F : Nat → Prop) (h : StAt w g bm t en M R) (hx : UpV w F v x) (hF : ∀ k, F k → k < w.heap.size ∧ ¬ StB g bm t M k) (ht : Tab10 w) (hfit : FitU x) (hc : chkU areUs x = 0) (he : x.q = en + 1) (hj : judR R x.c x.n = 0) (hl : (lsK M x.key).length ≤ 1000) (hM : M.length ≤ 1000) (hll : (lastV (lsK M x.key)).d.length ≤ 1000000) (hv0 : 0 ≤ (lastV (lsK M x.key)).r) (hv1 : (lastV (lsK M x.key)).r ≤ 18446744073709551615) (r : Int × Int × Bool) (hrr : r = outU x (lastV (lsK M x.key)).r (decide ((M.length : Int) < 192))) (hr0 : 0 ≤ r.2.1) (hr1 : r.2.1 ≤ 18446744073709551615) (hrc : 0 ≤ r.1 ∧ r.1 ≤ 255) (hp : r.2.2 = true → putXV (lsK M x.key) ⟨r.2.1, x.q, x.d⟩ = 0) :
    Calls Tryz.prog 27 #[.pointer (some ⟨g, 0, none⟩), v] w (fun e w' => e = .returned (.tuple #[rvv (rowU x r), .int .i64 0]) ∧ Kept (StB g bm t M) w w' ∧ ∃ M', StAt w' g bm t x.q M' (putR R (rowU x r)) ∧ (r.2.2 = false → M' = M) ∧ (r.2.2 = true → ∃ b G, M' = putK M ⟨x.key, b, G, lsK M x.key ++ [⟨r.2.1, x.q, x.d⟩]⟩ ∧ ∀ k, G k → StB g bm t M k ∨ w.heap.size ≤ k)) := by
  obtain ⟨u, rfl, hd⟩ := hx
  obtain ⟨y0, y1, y2, y3, y4, y5, y6⟩ := x
  obtain ⟨ra, rb, rc⟩ := r
  have hf := chk0 hc
  obtain ⟨hq0, hq1, hn0, hn1, hy0, hy1, _, _⟩ := hfit
  simp only at *
  have HD := Lib.hid hd
  obtain ⟨va, vc, rfl, _⟩ := hd
  have hr := heap_alloc_new (w.alloc (.cells #[.int .u64 y0, .int .i64 y1, .int .u64 y2, .int .i64 y3, .int .u32 y4, .int .u64 y5, .slice va y6.length vc] 62)) (.cells #[.int .i64 0, .int .u64 0, .int .u64 0, .int .i64 0, .int .u64 0] 65)
  have hz : (w.alloc (.cells #[.int .u64 y0, .int .i64 y1, .int .u64 y2, .int .i64 y3, .int .u32 y4, .int .u64 y5, .slice va y6.length vc] 62)).heap.size = w.heap.size + 1 := by simp
  rw [hz] at hr
  have hk := ((Kept.refl NoB w).alloc (.cells #[.int .u64 y0, .int .i64 y1, .int .u64 y2, .int .i64 y3, .int .u32 y4, .int .u64 y5, .slice va y6.length vc] 62)).alloc (.cells #[.int .i64 0, .int .u64 0, .int .u64 0, .int .i64 0, .int .u64 0] 65)
  have hu := blkV_alloc (heap_alloc_new w (.cells #[.int .u64 y0, .int .i64 y1, .int .u64 y2, .int .i64 y3, .int .u32 y4, .int .u64 y5, .slice va y6.length vc] 62)) (.cells #[.int .i64 0, .int .u64 0, .int .u64 0, .int .i64 0, .int .u64 0] 65)
  have hzz : ((w.alloc (.cells #[.int .u64 y0, .int .i64 y1, .int .u64 y2, .int .i64 y3, .int .u32 y4, .int .u64 y5, .slice va y6.length vc] 62)).alloc (.cells #[.int .i64 0, .int .u64 0, .int .u64 0, .int .i64 0, .int .u64 0] 65)).heap.size = w.heap.size + 2 := by simp
  obtain ⟨W, hW⟩ : ∃ W, W = (w.alloc (.cells #[.int .u64 y0, .int .i64 y1, .int .u64 y2, .int .i64 y3, .int .u32 y4, .int .u64 y5, .slice va y6.length vc] 62)).alloc (.cells #[.int .i64 0, .int .u64 0, .int .u64 0, .int .i64 0, .int .u64 0] 65) := ⟨_, rfl⟩
  have HWW := Lib.hid hW
  rw [← hW] at hr hk hu hzz
  have HR := Lib.hid hr
  have HK := Lib.hid hk
  have HU := Lib.hid hu
  have HSZ := Lib.hid hzz
  have HV : Hid (UpV W F (.agg #[.int .u64 y0, .int .i64 y1, .int .u64 y2, .int .i64 y3, .int .u32 y4, .int .u64 y5, .slice va y6.length vc]) ⟨y0, y1, y2, y3, y4, y5, y6⟩) := Lib.hid ⟨_, rfl, HD.out.kept hk (fun _ _ h => h)⟩
  have hck := UCheck_any W _ ⟨y0, y1, y2, y3, y4, y5, y6⟩ F HV.out (fun k hf => Nat.lt_of_lt_of_le (hF k hf).1 hk.size) (ht.kept hk (fun h => h))
  rw [hc] at hck
  have HCK := Lib.hid hck
  have HH := Lib.hid (h.no hk)
  have HFF := Lib.hid hF
  have HCH := Lib.hid hf
  have HBD := Lib.hid h.bnd
  have hgl : g < w.heap.size := heap_lt h.cells
  have hwr : IntKind.u64.wrap (y0 - 1) = y0 - 1 := IntWalk.u64_in _ (by have := hf.1; omega)
  have hnb : ((y0 - 1) != en) = false := by simp; omega
  have HPL := Lib.hid hl
  have HPM := Lib.hid hM
  have HLL := Lib.hid hll
  have HVR := Lib.hid (And.intro hv0 hv1)
  have HRR := Lib.hid hrr
  have HRC := Lib.hid hrc
  have HP := Lib.hid hp
  have HJZ := Lib.hid hj
  obtain ⟨j, hjj⟩ : ∃ j, j = judR R y1 y2 := ⟨_, rfl⟩
  have hjb : (j != 0) = false := by rw [hjj]; simpa using hj
  have HJJ := Lib.hid hjj
  clear hr hk hW hz hu hzz hck h hF ht hc hf he hj hjj hl hM hll hv0 hv1 hrr hrc hp
  obtain ⟨d0, d1, d2, d3, d4, d5, d6⟩ := cells7 HU.out
  go_enter Tryz.func27, Tryz.ntmps27
  go_upto_region 1 with fail
  rw [← HWW.out]
  go_wp2_with fail
  refine HCK.out.mono ?_
  rintro e w1 ⟨rfl, hk1⟩
  have HK1 := Lib.hid (HK.out.trans hk1 (fun _ _ h => h))
  have HR1 := Lib.hid (hk1.heap (fun h => h) HR.out)
  have HU1 := Lib.hid (hk1.heap (fun h => h) HU.out)
  have HH1 := Lib.hid (HH.out.no hk1)
  have HV1 := Lib.hid (HV.out.no hk1)
  have HSZ1 := Lib.hid (show w.heap.size + 2 ≤ w1.heap.size by have := hk1.size; have := HSZ.out; omega)
  clear hk1 d0 d1 d2 d3 d4 d5 d6
  obtain ⟨c0, c1, c2⟩ := HH1.out.c
  obtain ⟨d0, d1, d2, d3, d4, d5, d6⟩ := cells7 HU1.out
  have zg := blkV_frozen HH1.out.cells 2
  go_upto_region 6 with fail
  go_quiet (fail)
  go_upto_region 9 with fail
  have HH2 := Lib.hid ((HH1.out.no ((Kept.refl NoB w1).drewN nq)).ended hq0 hq1)
  have HK2 := Lib.hid (((HK1.out.drewN nq).mono (T := StB g bm t M) (fun _ _ h => h.elim)).setCell (p := ⟨g, 2, none⟩) (.inl (.inl rfl)) (.int .u64 y0))
  have HU2 := Lib.hid (blkV_set_other (w := w1.drewN nq) HU1.out 2 (.int .u64 y0) (show g ≠ w.heap.size by omega))
  have HR2 := Lib.hid (blkV_set_other (w := w1.drewN nq) HR1.out 2 (.int .u64 y0) (show g ≠ w.heap.size + 1 by omega))
  have HV2 := Lib.hid ((HV1.out.no ((Kept.refl NoB w1).drewN nq)).kept ((Kept.refl (fun k => k = g) (w1.drewN nq)).setCell (p := ⟨g, 2, none⟩) (.inl rfl) (.int .u64 y0)) (fun k hf e => (HFF.out k hf).2 (.inl e)))
  have HSZ2 := Lib.hid (Nat.le_trans HSZ1.out ((Kept.refl (fun k => k = g) (w1.drewN nq)).setCell (p := ⟨g, 2, none⟩) (.inl rfl) (.int .u64 y0)).size)
  clear c0 c1 c2 d0 d1 d2 d3 d4 d5 d6 zg
  generalize hW2 : World.setCell _ _ _ = W2 at HH2 HK2 HU2 HR2 HV2 HSZ2 ⊢
  clear hW2 HH1 HK1 HU1 HR1 HV1
  obtain ⟨d0, d1, d2, d3, d4, d5, d6⟩ := cells7 HU2.out
  have HJ := Lib.hid (TJudge_any W2 _ t y1 y2 R HH2.out.ttab HH2.out.tab hn0)
  go_wp2_with fail
  refine HJ.out.mono ?_
  rintro e w3 ⟨rfl, rfl⟩
  rw [← HJJ.out]
  go_wp2_with fail
  refine (TExec_any W2 g bm t y0 M R _ ⟨y0, y1, y2, y3, y4, y5, y6⟩ F HH2.out HV2.out hy0 hy1 hq0 hq1 HPL.out HPM.out (by have := HCH.out.2.2.2.2.1; simp only at this ⊢; omega) HLL.out HVR.out.1 HVR.out.2 (ra, rb, rc) HRR.out hr0 hr1 HP.out).mono ?_
  rintro e w4 ⟨rfl, hk4, hs4f, hs4t⟩
  obtain ⟨M', hM', hMf, hMt, hMB⟩ : ∃ M', StAt w4 g bm t y0 M' R ∧ (rc = false → M' = M) ∧ (rc = true → ∃ b G, M' = putK M ⟨y4, b, G, lsK M y4 ++ [⟨rb, y0, y6⟩]⟩ ∧ ∀ k, G k → StB g bm t M k ∨ w.heap.size ≤ k) ∧ (∀ k, StB g bm t M' k → StB g bm t M k ∨ W2.heap.size ≤ k) := by
    cases rc
    · exact ⟨M, hs4f rfl, fun _ => rfl, fun h => (nomatch h), fun k h => .inl h⟩
    · obtain ⟨b, G, hs, hG⟩ := hs4t rfl
      refine ⟨_, hs, fun h => (nomatch h), fun _ => ⟨b, G, rfl, fun k hk => (hG k hk).imp id (fun h => by have := HSZ2.out; omega)⟩, fun k h => ?_⟩
      rcases h with e | e | e | ⟨x, hx, e⟩
      · exact .inl (.inl e)
      · exact .inl (.inr (.inl e))
      · exact .inl (.inr (.inr (.inl e)))
      · rcases putK_mem hx with rfl | hx
        · exact hG k e
        · exact .inl (.inr (.inr (.inr ⟨x, hx, e⟩)))
  have HM4 := Lib.hid hM'
  have HMF := Lib.hid hMf
  have HMT := Lib.hid hMt
  have HMB := Lib.hid hMB
  have HU4 := Lib.hid (hk4.heap (fun h => by have := HBD.out _ h; omega) HU2.out)
  have HR4 := Lib.hid (hk4.heap (fun h => by have := HBD.out _ h; omega) HR2.out)
  have HK4 := Lib.hid (HK2.out.trans hk4 (fun _ _ h => h))
  have HSZ4 := Lib.hid (Nat.le_trans HSZ2.out hk4.size)
  clear d0 d1 d2 d3 d4 d5 d6 hs4f hs4t hM' hMf hMt hMB hk4
  obtain ⟨d0, d1, d2, d3, d4, d5, d6⟩ := cells7 HU4.out
  go_upto_region 13 with fail
  have hka := (Kept.refl NoB w4).alloc (.cells #[.int .i64 y1, .int .u64 y2, .int .u64 y0, .int .i64 ra, .int .u64 rb] 65)
  have HX5 := Lib.hid (heap_alloc_new w4 (.cells #[.int .i64 y1, .int .u64 y2, .int .u64 y0, .int .i64 ra, .int .u64 rb] 65))
  have HM5 := Lib.hid (HM4.out.no hka)
  have HR5 := Lib.hid (hka.heap (fun h => h) HR4.out)
  have HK5 := Lib.hid (HK4.out.trans hka (fun _ _ h => h.elim))
  clear hka d0 d1 d2 d3 d4 d5 d6
  generalize hW5 : World.alloc w4 _ = W5 at HX5 HM5 HR5 HK5 ⊢
  clear hW5
  have HC1 := Lib.hid HM5.out.c.2.1
  have HTG := Lib.hid HM4.out.tg
  have HTL := Lib.hid HM4.out.tab.lt
  have HTW : Hid (¬ t = w4.heap.size) := Lib.hid (by have := HTL.out; omega)
  have hfr : FitR ⟨y1, y2, y0, ra, rb⟩ := ⟨hn0, hn1, hq0, hq1, hr0, hr1⟩
  have HST := Lib.hid (fun w' (hk : Kept NoB W5 w') => SSet_any w' t y1 y2 y0 ra rb R (HM5.out.no hk).tab hfr)
  have c1 := HC1.out
  clear hfr
  have HTEN : Hid (∀ w', Kept (fun k => k = t) W5 w' → w'.cell? ⟨g, 1, none⟩ = some (.pointer (some ⟨t, 0, none⟩)) ∧ w'.cell? ⟨w4.heap.size, 0, none⟩ = some (.int .i64 y1) ∧ w'.cell? ⟨w4.heap.size, 1, none⟩ = some (.int .u64 y2) ∧ w'.cell? ⟨w4.heap.size, 2, none⟩ = some (.int .u64 y0) ∧ w'.cell? ⟨w4.heap.size, 3, none⟩ = some (.int .i64 ra) ∧ w'.cell? ⟨w4.heap.size, 4, none⟩ = some (.int .u64 rb)) := Lib.hid (fun w' hk => ⟨hk.cell (p := ⟨g, 1, none⟩) (fun e => HTG.out e.symm) HC1.out, cell_of_row _ _ 0 _ _ _ (hk.heap (fun e => HTW.out e.symm) HX5.out), cell_of_row _ _ 1 _ _ _ (hk.heap (fun e => HTW.out e.symm) HX5.out), cell_of_row _ _ 2 _ _ _ (hk.heap (fun e => HTW.out e.symm) HX5.out), cell_of_row _ _ 3 _ _ _ (hk.heap (fun e => HTW.out e.symm) HX5.out), cell_of_row _ _ 4 _ _ _ (hk.heap (fun e => HTW.out e.symm) HX5.out)⟩)
  have HKe := Lib.hid (Kept.refl NoB W5).drew
  have HT := Lib.hid (by first | exact HTEN.out _ HKe.out | exact HTEN.out _ (HKe.out.mono (fun _ _ h => h.elim)))
  refine wp_region_noPanic ?_
  refine wp_region_held_drew (S := (fun w' => w'.cell? ⟨g, 1, none⟩ = some (.pointer (some ⟨t, 0, none⟩)) ∧ w'.cell? ⟨w4.heap.size, 0, none⟩ = some (.int .i64 y1) ∧ w'.cell? ⟨w4.heap.size, 1, none⟩ = some (.int .u64 y2) ∧ w'.cell? ⟨w4.heap.size, 2, none⟩ = some (.int .u64 y0) ∧ w'.cell? ⟨w4.heap.size, 3, none⟩ = some (.int .i64 ra) ∧ w'.cell? ⟨w4.heap.size, 4, none⟩ = some (.int .u64 rb))) (by kernel_rfl) ?_ (fun hHeld => ?_)
  · (try dsimp only); with_reducible exact HT.out
  refine wpAnyH_take (i := 0) (oi := { dst := some 56, op := Op.move (Operand.tmp 0), type := 54, pos := "store.go:43", after := #[], guard := none }) (v := ?_) rfl (by kernel_rfl) (by kernel_rfl) (by kernel_rfl) (fun _ _ _ h => h) (Or.inl ⟨by rfl, ?_⟩) (by assumption) ?_
  rotate_left
  · (intro w hSw; (try dsimp only at hSw); go_simp; try with_reducible rfl)
  try simp only [Act.put, List.setIfInBounds_toArray, List.set_cons_zero, List.set_cons_succ]
  refine wpAnyH_take (i := 1) (oi := { dst := some 57, op := Op.nilCheck (Operand.tmp 56), type := 0, pos := "store.go:43", after := #[{ on := 0, ground := Ground.data }], guard := none }) (v := ?_) rfl (by kernel_rfl) (by kernel_rfl) (by kernel_rfl) (fun _ _ _ h => h) (Or.inl ⟨by rfl, ?_⟩) (by assumption) ?_
  rotate_left
  · (intro w hSw; (try dsimp only at hSw); go_simp; try with_reducible rfl)
  try simp only [Act.put, List.setIfInBounds_toArray, List.set_cons_zero, List.set_cons_succ]
  refine wpAnyH_take (i := 2) (oi := { dst := some 58, op := Op.fieldAddr 143 (Operand.tmp 57) 1, type := 0, pos := "store.go:43", after := #[{ on := 1, ground := Ground.data }], guard := none }) (v := ?_) rfl (by kernel_rfl) (by kernel_rfl) (by kernel_rfl) (fun _ _ _ h => h) (Or.inl ⟨by rfl, ?_⟩) (by assumption) ?_
  rotate_left
  · (intro w hSw; (try dsimp only at hSw); go_simp; try with_reducible rfl)
  try simp only [Act.put, List.setIfInBounds_toArray, List.set_cons_zero, List.set_cons_succ]
  refine wpAnyH_take (i := 3) (oi := { dst := some 59, op := Op.load 140 (Operand.tmp 58), type := 140, pos := "store.go:43", after := #[{ on := 2, ground := Ground.data }], guard := none }) (v := ?_) rfl (by kernel_rfl) (by kernel_rfl) (by kernel_rfl) (fun _ _ _ h => h) (Or.inl ⟨by rfl, ?_⟩) (by assumption) ?_
  rotate_left
  · (intro w hSw; (try dsimp only at hSw); go_simp; try with_reducible rfl)
  try simp only [Act.put, List.setIfInBounds_toArray, List.set_cons_zero, List.set_cons_succ]
  refine wpAnyH_take (i := 4) (oi := { dst := some 60, op := Op.load 65 (Operand.tmp 9), type := 65, pos := "store.go:43", after := #[], guard := none }) (v := ?_) rfl (by kernel_rfl) (by kernel_rfl) (by kernel_rfl) (fun _ _ _ h => h) (Or.inl ⟨by rfl, ?_⟩) (by assumption) ?_
  rotate_left
  · (intro w hSw; (try dsimp only at hSw); go_simp; try with_reducible rfl)
  try simp only [Act.put, List.setIfInBounds_toArray, List.set_cons_zero, List.set_cons_succ]
  refine wpAnyH_ready (rs := [5]) (by kernel_rfl) (by simp) ?_
  refine AllReadyH.cons (o := { dst := some 61, op := Op.call { callee := Callee.value (Operand.func 85), args := #[Operand.tmp 59, Operand.tmp 60], argTypes := #[140, 65] }, type := 34, pos := "store.go:43", after := #[{ on := 3, ground := Ground.data }, { on := 4, ground := Ground.data }], guard := none }) rfl (fun K hK => ?_) AllReadyH.nil
  go_simp
  (with_reducible refine (HST.out _ HKe.out).mono ?_)
  rintro e w6 ⟨rfl, htab, hkp⟩
  have HTB := Lib.hid htab
  have HKM := HKe
  replace HKe := Lib.hid ((HKe.out.mono (T := fun k => k = t) (fun _ _ h => h.elim)).trans hkp (fun _ _ h => h))
  clear hkp htab
  replace HT := Lib.hid (by first | exact HTEN.out _ HKe.out | exact HTEN.out _ (HKe.out.mono (fun _ _ h => h.elim)))
  first | (with_reducible refine hK.out _ _ ?_ (fun hHeld => ?_)) | (go_wp2_with fail; with_reducible refine hK.out _ _ ?_ (fun hHeld => ?_))
  · (try dsimp only); with_reducible exact HT.out
  clear hK K
  try simp only [Act.put, List.setIfInBounds_toArray, List.set_cons_zero, List.set_cons_succ]
  refine wpAnyH_done (by kernel_rfl) ?_ _
  refine NoPanic.normal ?_
  have HM6 := Lib.hid (HM5.out.rows HTB.out HKe.out)
  have htl : t < w.heap.size := HBD.out t (.inr (.inr (.inl rfl)))
  have hfine : FineR ⟨y1, y2, y0, ra, rb⟩ := by
    have h1 := HCH.out
    have h2 := HRC.out
    try simp only at h1 h2
    exact ⟨h1.2.1, h1.2.2.1, by show (0 : Int) < y2; omega, by show (0 : Int) < y0; omega, h2.1, h2.2⟩
  have hsx : setX R ⟨y1, y2, y0, ra, rb⟩ = 0 := by unfold setX; rw [if_neg (by simpa using hfine), if_neg (by simpa using HJZ.out)]
  have hsl : setL R ⟨y1, y2, y0, ra, rb⟩ = putR R ⟨y1, y2, y0, ra, rb⟩ := by unfold setL; rw [if_pos hsx]
  rw [hsl] at HM6
  have HX6 := Lib.hid (HKe.out.heap (fun e => HTW.out e.symm) HX5.out)
  have HR6 := Lib.hid (HKe.out.heap (fun e => by have e : w.heap.size + 1 = t := e; omega) HR5.out)
  have HK6 := Lib.hid (HK5.out.trans HKe.out (fun i hi e => .inr (.inr (.inl e))))
  obtain ⟨e0, e1, e2, e3, e4⟩ := cells5r (v := ⟨y1, y2, y0, ra, rb⟩) HX6.out
  obtain ⟨r0, r1, r2, r3, r4⟩ := cells5r (v := rw0) HR6.out
  have z0 := blkR_frozen HR6.out
  try simp only at e0 e1 e2 e3 e4
  clear hsl hsx hfine c1
  go_wp2
  have hF := five16_at HR6.out ⟨y1, y2, y0, ra, rb⟩
  have hK := HK6.out.five16 (b := w.heap.size + 1) (.inr (Nat.le_succ _)) 0 ⟨y1, y2, y0, ra, rb⟩
  have hS := HM6.out.kept ((Kept.refl (fun k => k = w.heap.size + 1) w6).five16 (b := w.heap.size + 1) (.inl rfl) 0 ⟨y1, y2, y0, ra, rb⟩) (fun k hk e => by
    rcases HMB.out k hk with h | h
    · have := HBD.out k h; omega
    · have := HSZ2.out; omega)
  clear r0 r1 r2 r3 r4 z0 e0 e1 e2 e3 e4
  obtain ⟨r0, r1, r2, r3, r4⟩ := cells5r (v := ⟨y1, y2, y0, ra, rb⟩) hF
  clear hF
  unfold five16 at r0 r1 r2 r3 r4 hK hS
  simp only [Nat.zero_add] at r0 r1 r2 r3 r4 hK hS
  generalize hW : World.setCell _ _ _ = W7 at r0 r1 r2 r3 r4 hK hS ⊢
  exact bodyPost_ret (v := .tuple #[.agg #[.int .i64 y1, .int .u64 y2, .int .u64 y0, .int .i64 ra, .int .u64 rb], .int .i64 0]) (by simp [results, Tryz.results27, go_sem, r0, r1, r2, r3, r4]) rfl ⟨rfl, hK, M', hS, HMF.out, HMT.out⟩
end Go.Proofs.YtnnmkmipeoajjaaGreatDoor
