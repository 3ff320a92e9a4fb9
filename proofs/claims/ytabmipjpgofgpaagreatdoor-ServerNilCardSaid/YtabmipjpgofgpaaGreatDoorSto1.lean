/-
  Package store: Last, Clean, Pick, Dirty, Judge and Row over what 'block' and 'table' tell; the calls of no store. A map from uint32 to addresses: a plain list of its entries by rising keys; its laws (written by mkstob.py out of AccA). A store in memory; New, block, table, End.
-/
import Derived.Test.YtabmipjpgofgpaaGreatDoorVer2
import Derived.Test.YtabmipjpgofgpaaGreatDoorVer1
import Derived.Test.YtabmipjpgofgpaaGreatDoorSes1
import Derived.Maps.OwnSet
import Derived.WalkKit
import Derived.RegionTactic
import Derived.Lib.Hide
import Derived.Deep.Cut
import Derived.BigQuiet
namespace Go.Proofs.YtabmipjpgofgpaaGreatDoor
open Go.RowKit
set_option linter.unusedVariables false
set_option linter.unusedSimpArgs false

theorem TBlock_nil (w : World) (k : Int) : Calls Tryz.prog 111 #[.pointer none, .int .u32 k] w fun e w' => e = .returned (.pointer none) ∧ w = w' := by
  go_enter Tryz.func111, Tryz.ntmps111
  go_wp2
  go_ret
  exact ⟨rfl, rfl⟩
theorem TTable_nil (w : World) : Calls Tryz.prog 100 #[.pointer none] w fun e w' => e = .returned (.pointer none) ∧ w = w' := by
  go_enter Tryz.func100, Tryz.ntmps100
  go_wp2
  go_ret
  exact ⟨rfl, rfl⟩
theorem TEnd_nil (w : World) : Calls Tryz.prog 9 #[.pointer none] w fun e w' => e = .returned (.int .u64 0) ∧ w = w' := by
  go_enter Tryz.func9, Tryz.ntmps9
  go_wp2
  go_ret
  exact ⟨rfl, rfl⟩
theorem TTrim_nil (w : World) (done : Int) : Calls Tryz.prog 12 #[.pointer none, .int .u64 done] w fun e w' => e = .returned (.int .i64 0) ∧ w = w' := by
  go_enter Tryz.func12, Tryz.ntmps12
  go_wp2
  go_ret
  exact ⟨rfl, rfl⟩
theorem TKeys_nil (w : World) : Calls Tryz.prog 86 #[.pointer none] w fun e w' => e = .returned (.slice none 0 0) ∧ w = w' := by
  go_enter Tryz.func86, Tryz.ntmps86
  go_wp2
  go_ret
  exact ⟨rfl, rfl⟩
theorem TPicture_nil (w : World) : Calls Tryz.prog 38 #[.pointer none] w fun e w' => e = .returned (.slice none 0 0) ∧ w = w' := by
  go_enter Tryz.func38, Tryz.ntmps38
  go_wp2
  go_ret
  exact ⟨rfl, rfl⟩
/-- What the store's 'block' tells of a key, here and wherever nothing of it has changed. -/
def TBlk (w : World) (s : Value) (k : Int) (x : Value) : Prop := ∀ w', Kept NoB w w' → Calls Tryz.prog 111 #[s, .int .u32 k] w' fun e w'' => e = .returned x ∧ w' = w''
theorem TBlk.nil (w : World) (k : Int) : TBlk w (.pointer none) k (.pointer none) := fun w' _ => TBlock_nil w' k
/-- What the store's 'table' tells. -/
def TTab (w : World) (s x : Value) : Prop := ∀ w', Kept NoB w w' → Calls Tryz.prog 100 #[s] w' fun e w'' => e = .returned x ∧ w' = w''
theorem TTab.nil (w : World) : TTab w (.pointer none) (.pointer none) := fun w' _ => TTable_nil w'
theorem TDirty_any (w : World) (s : Value) (k done : Int) (x v : Value) (l : List Vn) (F : Nat → Prop) (hs : TBlk w s k x) (ht : TellsV w x v) (h : VsAt w F v l) : Calls Tryz.prog 62 #[s, .int .u32 k, .int .u64 done] w fun e w' => e = .returned (.bool (dirtyB l done)) ∧ Kept NoB w w' := by
  have HS := Lib.hid (hs w (Kept.refl _ _))
  have HV := Lib.hid (VDirty_any w x v l done F ht h)
  clear hs ht h
  go_enter Tryz.func62, Tryz.ntmps62
  go_wp2_with fail
  refine HS.out.mono ?_
  rintro e w1 ⟨rfl, rfl⟩
  go_wp2_with fail
  refine HV.out.mono ?_
  rintro e w2 ⟨rfl, hk2⟩
  go_wp2
  go_ret
  exact ⟨rfl, hk2⟩
theorem TJudge_nil (w : World) (s n : Int) : Calls Tryz.prog 48 #[.pointer none, .int .i64 s, .int .u64 n] w fun e w' => e = .returned (.int .i64 2) ∧ w = w' := by
  have HS := Lib.hid (TTable_nil w)
  have HV := Lib.hid (SJudge_nil w s n)
  go_enter Tryz.func48, Tryz.ntmps48
  go_wp2_with fail
  refine HS.out.mono ?_
  rintro e w1 ⟨rfl, rfl⟩
  go_wp2_with fail
  refine HV.out.mono ?_
  rintro e w2 ⟨rfl, rfl⟩
  go_wp2
  go_ret
  exact ⟨rfl, rfl⟩
theorem TJudge_any (w : World) (st : Value) (g : Nat) (s n : Int) (L : List Rw) (hs : TTab w st (.pointer (some ⟨g, 0, none⟩))) (h : TabAt w g L) (hn : 0 ≤ n) : Calls Tryz.prog 48 #[st, .int .i64 s, .int .u64 n] w fun e w' => e = .returned (.int .i64 (judR L s n)) ∧ w = w' := by
  have HS := Lib.hid (hs w (Kept.refl _ _))
  have HV := Lib.hid (SJudge_any w g s n L h hn)
  clear hs h
  go_enter Tryz.func48, Tryz.ntmps48
  go_wp2_with fail
  refine HS.out.mono ?_
  rintro e w1 ⟨rfl, rfl⟩
  go_wp2_with fail
  refine HV.out.mono ?_
  rintro e w2 ⟨rfl, rfl⟩
  go_wp2
  go_ret
  exact ⟨rfl, rfl⟩
set_option maxRecDepth 100000 in
theorem TLast_any (w : World) (s : Value) (k : Int) (x v : Value) (l : List Vn) (F : Nat → Prop) (hs : TBlk w s k x) (ht : TellsV w x v) (h : VsAt w F v l) (hl : (lastV l).d.length ≤ 1000000) : Calls Tryz.prog 63 #[s, .int .u32 k] w fun e w' => ∃ v', e = .returned v' ∧ VnO w' (fun k => w.heap.size < k) v' (lastV l) ∧ Kept NoB w w' := by
  have hk0 := (Kept.refl NoB w).alloc (.cells #[.int .u64 0, .int .u64 0, .slice none 0 0] 50)
  have HS := Lib.hid (hs _ hk0)
  have HL := Lib.hid (VLast_any _ x v l F (ht.no hk0) (h.no hk0) hl)
  have HK := Lib.hid hk0
  have HB := Lib.hid (heap_alloc_new w (.cells #[.int .u64 0, .int .u64 0, .slice none 0 0] 50))
  have HZ : Hid ((w.alloc (.cells #[.int .u64 0, .int .u64 0, .slice none 0 0] 50)).heap.size = w.heap.size + 1) := Lib.hid (by simp)
  clear hs h ht hk0
  go_enter Tryz.func63, Tryz.ntmps63
  go_wp2_with fail
  refine HS.out.mono ?_
  rintro e w1 ⟨rfl, rfl⟩
  go_wp2_with fail
  refine HL.out.mono ?_
  rintro e w3 ⟨v3, rfl, hv3, hk3⟩
  have HK3 := Lib.hid (HK.out.trans hk3 (fun _ _ h => h))
  have HB3 := Lib.hid (hk3.heap (fun h => h) HB.out)
  have hv3 := hv3.mono (G := fun k => w.heap.size < k) (fun k _ h => by have := HZ.out; omega)
  obtain ⟨⟨y0, y1, y2⟩, hy⟩ : ∃ y, y = lastV l := ⟨_, rfl⟩
  have HY := Lib.hid hy
  rw [← hy] at hv3
  obtain ⟨u, rfl, hu⟩ := hv3
  obtain ⟨va, vc, rfl⟩ := own_form hu.2.1
  have HU := Lib.hid hu
  obtain ⟨r0, r1, r2⟩ := cells3v HB3.out
  have z := blkV_frozen HB3.out
  clear hk3 hu hy
  go_wp2
  clear r0 r1 r2 z
  obtain ⟨r0, r1, r2, hO, hK⟩ := fin15 HB3.out (Nat.le_refl _) HK3.out (fun k h e => by omega) ⟨y0, y1, y2⟩ _ rfl HU.out
  unfold three15 at r0 r1 r2 hK hO
  simp only [Nat.zero_add] at r0 r1 r2 hK hO
  generalize hW : World.setCell _ _ _ = W3 at r0 r1 r2 hK hO ⊢
  exact bodyPost_ret (v := .agg #[.int .u64 y0, .int .u64 y1, .slice va y2.length vc]) (by simp [results, Tryz.results63, go_sem, r0, r1, r2]) rfl ⟨_, rfl, HY.out ▸ hO, hK⟩
set_option maxRecDepth 100000 in
theorem TPick_any (w : World) (s : Value) (k : Int) (ver : Int) (done : Int) (x v : Value) (l : List Vn) (F : Nat → Prop) (hs : TBlk w s k x) (ht : TellsV w x v) (h : VsAt w F v l) (hasc : Asc l) (hl : l.length ≤ 100000) : Calls Tryz.prog 65 #[s, .int .u32 k, .int .u64 ver, .int .u64 done] w fun e w' => ∃ v', e = .returned v' ∧ VnO w' (fun k => w.heap.size < k) v' (pickV l ver done) ∧ Kept NoB w w' := by
  have hk0 := (Kept.refl NoB w).alloc (.cells #[.int .u64 0, .int .u64 0, .slice none 0 0] 50)
  have HS := Lib.hid (hs _ hk0)
  have HL := Lib.hid (VPick_any _ x v l ver done F (ht.no hk0) (h.no hk0) hasc hl)
  have HK := Lib.hid hk0
  have HB := Lib.hid (heap_alloc_new w (.cells #[.int .u64 0, .int .u64 0, .slice none 0 0] 50))
  have HZ : Hid ((w.alloc (.cells #[.int .u64 0, .int .u64 0, .slice none 0 0] 50)).heap.size = w.heap.size + 1) := Lib.hid (by simp)
  clear hs h ht hk0
  go_enter Tryz.func65, Tryz.ntmps65
  go_wp2_with fail
  refine HS.out.mono ?_
  rintro e w1 ⟨rfl, rfl⟩
  go_wp2_with fail
  refine HL.out.mono ?_
  rintro e w3 ⟨v3, rfl, hv3, hk3⟩
  have HK3 := Lib.hid (HK.out.trans hk3 (fun _ _ h => h))
  have HB3 := Lib.hid (hk3.heap (fun h => h) HB.out)
  have hv3 := hv3.mono (G := fun k => w.heap.size < k) (fun k _ h => by have := HZ.out; omega)
  obtain ⟨⟨y0, y1, y2⟩, hy⟩ : ∃ y, y = pickV l ver done := ⟨_, rfl⟩
  have HY := Lib.hid hy
  rw [← hy] at hv3
  obtain ⟨u, rfl, hu⟩ := hv3
  obtain ⟨va, vc, rfl⟩ := own_form hu.2.1
  have HU := Lib.hid hu
  obtain ⟨r0, r1, r2⟩ := cells3v HB3.out
  have z := blkV_frozen HB3.out
  clear hk3 hu hy
  go_wp2
  clear r0 r1 r2 z
  obtain ⟨r0, r1, r2, hO, hK⟩ := fin15 HB3.out (Nat.le_refl _) HK3.out (fun k h e => by omega) ⟨y0, y1, y2⟩ _ rfl HU.out
  unfold three15 at r0 r1 r2 hK hO
  simp only [Nat.zero_add] at r0 r1 r2 hK hO
  generalize hW : World.setCell _ _ _ = W3 at r0 r1 r2 hK hO ⊢
  exact bodyPost_ret (v := .agg #[.int .u64 y0, .int .u64 y1, .slice va y2.length vc]) (by simp [results, Tryz.results65, go_sem, r0, r1, r2]) rfl ⟨_, rfl, HY.out ▸ hO, hK⟩
end Go.Proofs.YtabmipjpgofgpaaGreatDoor
namespace Go.Proofs.YtabmipjpgofgpaaGreatDoor
open Go.RowKit
set_option linter.unusedVariables false

/-- An entry: its key, the block that it points to, its versions, and where they lie. -/
structure Ke where
  s : Int
  b : Nat
  G : Nat → Prop
  l : List Vn
def kev (x : Ke) : Value := .pointer (some ⟨x.b, 0, none⟩)
/-- Entries by rising keys. -/
def SrtK (L : List Ke) : Prop := L.Pairwise (fun x y => x.s < y.s)
def atK (L : List Ke) (s : Int) : Option Ke := L.find? (fun v => v.s == s)
def putK : List Ke → Ke → List Ke
  | [], v => [v]
  | x :: r, v => if x.s < v.s then x :: putK r v else if x.s = v.s then v :: r else v :: x :: r
theorem putK_mem {L : List Ke} {v x : Ke} (h : x ∈ putK L v) : x = v ∨ x ∈ L := by
  induction L with
  | nil => simp [putK] at h; exact .inl h
  | cons y r ih =>
    unfold putK at h
    split at h
    · rcases List.mem_cons.1 h with rfl | h
      · exact .inr (by simp)
      · rcases ih h with h | h
        · exact .inl h
        · exact .inr (by simp [h])
    · split at h
      · rcases List.mem_cons.1 h with rfl | h
        · exact .inl rfl
        · exact .inr (by simp [h])
      · rcases List.mem_cons.1 h with rfl | h
        · exact .inl rfl
        · exact .inr h
theorem putK_srt {L : List Ke} (v : Ke) (h : SrtK L) : SrtK (putK L v) := by
  induction L with
  | nil => exact List.pairwise_singleton _ _
  | cons y r ih =>
    obtain ⟨h1, h2⟩ := List.pairwise_cons.1 h
    unfold putK
    split
    · rename_i hlt
      refine List.pairwise_cons.2 ⟨fun z hz => ?_, ih h2⟩
      rcases putK_mem hz with rfl | hz
      · exact hlt
      · exact h1 z hz
    · split
      · rename_i he
        exact List.pairwise_cons.2 ⟨fun z hz => by have := h1 z hz; omega, h2⟩
      · exact List.pairwise_cons.2 ⟨fun z hz => by
          rcases List.mem_cons.1 hz with rfl | hz
          · omega
          · have := h1 z hz; omega, h⟩
theorem putK_len {L : List Ke} (v : Ke) : (putK L v).length ≤ L.length + 1 ∧ L.length ≤ (putK L v).length := by
  induction L with
  | nil => simp [putK]
  | cons y r ih =>
    unfold putK
    split
    · simp only [List.length_cons]; omega
    · split <;> simp
theorem atK_cons (x : Ke) (r : List Ke) (s : Int) : atK (x :: r) s = if x.s = s then some x else atK r s := by
  unfold atK
  rw [List.find?_cons]
  by_cases h : x.s = s
  · rw [if_pos h]; simp [h]
  · rw [if_neg h]
    have : (x.s == s) = false := by simpa using h
    rw [this]
theorem atK_slot {L : List Ke} {s : Int} {v : Ke} (h : atK L s = some v) : v.s = s ∧ v ∈ L := by
  have h1 := List.find?_some h
  exact ⟨by simpa using h1, List.mem_of_find?_eq_some h⟩
theorem atK_none {L : List Ke} {s : Int} (h : ∀ v ∈ L, v.s ≠ s) : atK L s = none := by
  unfold atK
  rw [List.find?_eq_none]
  intro v hv
  simpa using h v hv
theorem atK_mem {L : List Ke} {v : Ke} (hs : SrtK L) (h : v ∈ L) : atK L v.s = some v := by
  induction L with
  | nil => cases h
  | cons x r ih =>
    obtain ⟨h1, h2⟩ := List.pairwise_cons.1 hs
    rw [atK_cons]
    rcases List.mem_cons.1 h with rfl | h
    · rw [if_pos rfl]
    · have := h1 v h
      rw [if_neg (by omega)]
      exact ih h2 h
theorem atK_put_same {L : List Ke} (v : Ke) : atK (putK L v) v.s = some v := by
  induction L with
  | nil => simp [putK, atK]
  | cons x r ih =>
    unfold putK
    split
    · rw [atK_cons, if_neg (by omega)]; exact ih
    · split <;> rw [atK_cons, if_pos rfl]
theorem atK_put_other {L : List Ke} (v : Ke) {s : Int} (hs : s ≠ v.s) : atK (putK L v) s = atK L s := by
  induction L with
  | nil => simp only [putK]; rw [atK_cons, if_neg (by omega)]
  | cons x r ih =>
    unfold putK
    split
    · rw [atK_cons, atK_cons, ih]
    · split
      · rename_i h
        rw [atK_cons, atK_cons, if_neg (by omega), if_neg (by omega)]
      · rw [atK_cons, if_neg (by omega)]

/-! ### the map's datum -/
def entK (f : Ke → Value) (v : Ke) : Lit × DataW Value := (.int .u32 v.s, .held (f v))
def datK (f : Ke → Value) (L : List Ke) : DataW Value := .map (L.map (entK f))
theorem same_u32k (a b : Int) : (Lit.int .u32 a).sameKey (.int .u32 b) = decide (a = b) := by simp [Lit.sameKey]
theorem before_u32k (a b : Int) : (Lit.int .u32 a).before (.int .u32 b) = decide (a < b) := by simp [Lit.before]
theorem filter_highK (f : Ke → Value) (r : List Ke) (s : Int) (h : ∀ z ∈ r, s < z.s) : (r.map (entK f)).filter (fun p => !p.1.sameKey (.int .u32 s)) = r.map (entK f) := by
  rw [List.filter_eq_self]
  intro p hp
  obtain ⟨z, hz, rfl⟩ := List.mem_map.1 hp
  have := h z hz
  show (!(Lit.int .u32 z.s).sameKey (.int .u32 s)) = true
  rw [same_u32k]
  simp
  omega
theorem insert_lowK (f : Ke → Value) (r : List Ke) (v : Ke) (h : ∀ z ∈ r, v.s < z.s) : DataW.insert (entK f v) (r.map (entK f)) = (v :: r).map (entK f) := by
  cases r with
  | nil => rfl
  | cons y r =>
    show (if (Lit.int .u32 v.s).before (.int .u32 y.s) then entK f v :: entK f y :: r.map (entK f) else _) = _
    rw [before_u32k, if_pos (by simpa using h y (by simp))]
    rfl
theorem datK_put (f : Ke → Value) {L : List Ke} (v : Ke) (h : SrtK L) : (datK f L).put (.int .u32 v.s) (.held (f v)) = datK f (putK L v) := by
  show DataW.map (DataW.insert (entK f v) ((L.map (entK f)).filter fun p => !p.1.sameKey (.int .u32 v.s))) = .map ((putK L v).map (entK f))
  congr 1
  induction L with
  | nil => rfl
  | cons x r ih =>
    obtain ⟨h1, h2⟩ := List.pairwise_cons.1 h
    rw [List.map_cons, List.filter_cons]
    have e : (entK f x).1.sameKey (.int .u32 v.s) = decide (x.s = v.s) := same_u32k _ _
    rw [e]
    unfold putK
    by_cases hlt : x.s < v.s
    · rw [if_pos hlt, decide_eq_false (by omega), if_pos (show (!false) = true from rfl)]
      show (if (Lit.int .u32 v.s).before (.int .u32 x.s) then _ else entK f x :: DataW.insert (entK f v) _) = _
      rw [before_u32k, decide_eq_false (by omega), ih h2]
      rfl
    · rw [if_neg hlt]
      by_cases he : x.s = v.s
      · rw [if_pos he, decide_eq_true he, if_neg (by simp), filter_highK f r v.s (fun z hz => by have := h1 z hz; omega)]
        exact insert_lowK f r v (fun z hz => by have := h1 z hz; omega)
      · rw [if_neg he, decide_eq_false he, if_pos (show (!false) = true from rfl), filter_highK f r v.s (fun z hz => by have := h1 z hz; omega)]
        exact insert_lowK f (x :: r) v (fun z hz => by
          rcases List.mem_cons.1 hz with rfl | hz
          · omega
          · have := h1 z hz; omega)
theorem datK_find (f : Ke → Value) (L : List Ke) (s : Int) : (L.map (entK f)).find? (fun p => p.1.sameKey (.int .u32 s)) = (atK L s).map (entK f) := by
  induction L with
  | nil => rfl
  | cons x r ih =>
    rw [List.map_cons, List.find?_cons, atK_cons]
    have e : (entK f x).1.sameKey (.int .u32 s) = decide (x.s = s) := same_u32k _ _
    rw [e]
    by_cases h : x.s = s
    · rw [decide_eq_true h, if_pos h]; rfl
    · rw [decide_eq_false h, if_neg h]; exact ih
theorem datK_at (f : Ke → Value) (L : List Ke) (s : Int) (z : Value) : (datK f L).atKey (.int .u32 s) (.held z) = .held (((atK L s).map f).getD z) := by
  unfold datK DataW.atKey
  simp only [datK_find]
  cases atK L s <;> rfl
theorem datK_has (f : Ke → Value) (L : List Ke) (s : Int) : Maps.has (datK f L) (.int .u32 s) = (atK L s).isSome := by
  have h := datK_find f L s
  show (L.map (entK f)).any (fun p => p.1.sameKey (.int .u32 s)) = _
  have e : ∀ l : List (Lit × DataW Value), l.any (fun p => p.1.sameKey (.int .u32 s)) = (l.find? (fun p => p.1.sameKey (.int .u32 s))).isSome := by
    intro l
    induction l with
    | nil => rfl
    | cons x l ih =>
      rw [List.any_cons, List.find?_cons]
      cases x.1.sameKey (.int .u32 s)
      · simpa using ih
      · rfl
  rw [e, h]
  cases atK L s <;> rfl
/-- How an element reads: as itself. -/
def heldK (v : Value) : Option (DataW Value × List MemPlace) := some (.held v, [])
/-- Block bm is a map with these entries. -/
def MapK (P : Program) (k : TypeId) (f : Ke → Value) (w : World) (bm : Nat) (L : List Ke) : Prop := SrtK L ∧ w.ownsMap P k heldK bm L.length (datK f L)
theorem own_exactK {P : Program} {k : TypeId} {f : Ke → Value} {w : World} {bm n : Nat} {L : List Ke} (h : w.ownsMap P k heldK bm n (datK f L)) : w.ownsMap P k heldK bm L.length (datK f L) := by
  obtain ⟨es, clock, hb, F, hs, hD⟩ := h
  refine ⟨es, clock, hb, F, ?_, hD⟩
  have e : L.map (entK f) = (es.toList.map (WideElems.rg P k heldK)).foldr DataW.insert [] := by
    have := hD
    unfold datK at this
    injection this
  have e2 := congrArg List.length e
  rw [length_sorted] at e2
  simp at e2
  omega
theorem MapK.lt {P : Program} {k : TypeId} {f : Ke → Value} {w : World} {bm : Nat} {L : List Ke} (h : MapK P k f w bm L) : bm < w.heap.size := h.2.lt
theorem MapK.isMap {P : Program} {k : TypeId} {f : Ke → Value} {w : World} {bm : Nat} {L : List Ke} (h : MapK P k f w bm L) : ∃ es clock, w.heap[bm]? = some (.map es clock) := by
  obtain ⟨es, clock, hb, _⟩ := h.2
  exact ⟨es, clock, hb⟩
theorem MapK.ne {P : Program} {k : TypeId} {f : Ke → Value} {w : World} {bm g : Nat} {L : List Ke} (h : MapK P k f w bm L) {cs : Array Value} {t : TypeId} {fr : Nat × Nat} (hg : w.heap[g]? = some (.cells cs t fr)) : bm ≠ g := by
  obtain ⟨es, clock, hb⟩ := h.isMap
  intro e
  subst e
  rw [hb] at hg
  cases hg
theorem MapK.kept {P : Program} {k : TypeId} {f : Ke → Value} {S : Nat → Prop} {w w' : World} {bm : Nat} {L : List Ke} (h : MapK P k f w bm L) (hk : Kept S w w') (hs : ¬ S bm) : MapK P k f w' bm L := by
  refine ⟨h.1, ?_⟩
  obtain ⟨es, clock, hb, r⟩ := h.2
  exact ⟨es, clock, hk.heap hs hb, r⟩
theorem MapK.made (P : Program) (k : TypeId) (f : Ke → Value) (w : World) : MapK P k f (w.alloc (.map #[] 0)) w.heap.size [] :=
  ⟨List.Pairwise.nil, World.ownsMap_made w P k heldK⟩

section
variable {P : Program} (w : World) {ops : Array Oper} {rest : List Oper} {o : Oper} {a : Act} {Q : Exit → Act → World → Prop}
/-- 'm[s]'. -/
theorem run_look_mk (t : TypeId) (k e : TypeId) (hk : P.underlying k = some (.int .u32)) (ht : P.underlying t = some (.map k e))
    (z : Value) (hz : (zeroValue e).run P w = .ok z w) (bm : Nat) (f : Ke → Value) (L : List Ke) (s : Int) (hown : MapK P k f w bm L) (hwf : (Lit.int .u32 s).wf = true) :
    (Instr.lookup t (.map (some bm)) (.int .u32 s) false).run P w = .ok (((atK L s).map f).getD z) w := by
  obtain ⟨v, ps, h1, h2⟩ := hown.2.lookup (t := t) (Maps.int_keyed hk) ht hz (zd := .held z) (zp := []) rfl (Maps.keyOf_int_mk hk hwf)
  rw [datK_at] at h2
  unfold heldK at h2
  injection h2 with h2
  injection h2 with h3 h4
  injection h3 with h3
  rw [h1, h3]
theorem run_store_mk (t : TypeId) (k e : TypeId) (hk : P.underlying k = some (.int .u32)) (ht : P.underlying t = some (.map k e))
    (bm : Nat) (f : Ke → Value) (L : List Ke) (v : Ke) (hown : MapK P k f w bm L) (hwf : (Lit.int .u32 v.s).wf = true) (hl : L.length ≤ 100000) :
    ∃ w', (Instr.mapUpdate t (.map (some bm)) (.int .u32 v.s) (f v)).run P w = .ok () w' ∧ MapK P k f w' bm (putK L v) ∧ w.grownBy w' (some bm) := by
  obtain ⟨w', h1, h2, h3⟩ := hown.2.update (t := t) (Maps.int_keyed hk) ht (by unfold maxLen; omega) (Maps.keyOf_int_mk hk hwf) (val := f v) (d := .held (f v)) (ps := []) rfl
  rw [datK_put f v hown.1] at h2
  exact ⟨w', h1, ⟨putK_srt v hown.1, own_exactK h2⟩, h3⟩
/-- 'm[s] = v'. -/
theorem wp_store_mk {K : Act → World → Prop} (m x y : Operand) (t : TypeId) (hop : o.op = Op.mapUpdate t m x y) (k e : TypeId) (hk : P.underlying k = some (.int .u32)) (ht : P.underlying t = some (.map k e))
    (bm : Nat) (f : Ke → Value) (L : List Ke) (v : Ke) (hm : a.eval m = .map (some bm)) (hx : a.eval x = .int .u32 v.s) (hy : a.eval y = f v) (hown : MapK P k f w bm L) (hwf : (Lit.int .u32 v.s).wf = true) (hl : L.length ≤ 100000)
    (hK : ∀ w', MapK P k f w' bm (putK L v) → w.grownBy w' (some bm) → K (a.put o.dst undef) w') : o.wp P a w K Q := by
  obtain ⟨w', hrun, r1, r2⟩ := run_store_mk w t k e hk ht bm f L v hown hwf hl
  unfold Oper.wp
  simp [execOp, hop, hm, hx, hy, hrun, Result.andThen]
  exact hK w' r1 r2
theorem wpList_store_mk (hg : o.guard = none) (m x y : Operand) (t : TypeId) (hop : o.op = Op.mapUpdate t m x y) (k e : TypeId) (hk : P.underlying k = some (.int .u32)) (ht : P.underlying t = some (.map k e))
    (bm : Nat) (f : Ke → Value) (L : List Ke) (v : Ke) (hm : a.eval m = .map (some bm)) (hx : a.eval x = .int .u32 v.s) (hy : a.eval y = f v) (hown : MapK P k f w bm L) (hwf : (Lit.int .u32 v.s).wf = true) (hl : L.length ≤ 100000)
    (hK : ∀ w', MapK P k f w' bm (putK L v) → w.grownBy w' (some bm) → wpList P ops Q rest (a.put o.dst undef) w') : wpList P ops Q (o :: rest) a w :=
  wpList_plain hg fun K' hK' => wp_store_mk w m x y t hop k e hk ht bm f L v hm hx hy hown hwf hl fun w' h1 h2 => hK' _ _ (hK w' h1 h2)
theorem step_store_mk {K : Act → World → Prop} {E : Prop} (hgd : o.guard = none) (m x y : Operand) (t : TypeId) (hop : o.op = Op.mapUpdate t m x y) (k e : TypeId) (hk : P.underlying k = some (.int .u32)) (ht : P.underlying t = some (.map k e))
    (bm : Nat) (f : Ke → Value) (L : List Ke) (v : Ke) (hm : a.eval m = .map (some bm)) (hx : a.eval x = .int .u32 v.s) (hy : a.eval y = f v) (hown : MapK P k f w bm L) (hwf : (Lit.int .u32 v.s).wf = true) (hl : L.length ≤ 100000)
    (hK : ∀ w', MapK P k f w' bm (putK L v) → w.grownBy w' (some bm) → K (a.put o.dst undef) w') : if Region.wanted o (yielded ops a.tmps) = true then Oper.wp P o a w K Q else E := by
  have hw : Region.wanted o (yielded ops a.tmps) = true := by simp [Region.wanted, hgd]
  rw [if_pos hw]
  exact wp_store_mk w m x y t hop k e hk ht bm f L v hm hx hy hown hwf hl hK
/-- 'len(m)'. -/
theorem wpList_len_mk (hg : o.guard = none) (m : Operand) (t : TypeId) (hop : o.op = Op.call { callee := Callee.builtin Builtin.len, args := #[m], argTypes := #[t] }) (k e : TypeId) (ht : P.underlying t = some (.map k e))
    (bm : Nat) (f : Ke → Value) (L : List Ke) (hm : a.eval m = .map (some bm)) (hown : MapK P k f w bm L) (hK : wpList P ops Q rest (a.put o.dst (.int .i64 L.length)) w) : wpList P ops Q (o :: rest) a w :=
  wpList_len_own w hg m t hop k e ht heldK bm L.length (datK f L) hm hown.2 (by
    have : Maps.size (datK f L) = L.length := by simp [datK, Maps.size]
    rw [this]
    exact hK)
end
end Go.Proofs.YtabmipjpgofgpaaGreatDoor
namespace Go.Proofs.YtabmipjpgofgpaaGreatDoor
open Go.RowKit
set_option linter.unusedVariables false
set_option linter.unusedSimpArgs false

/-- Block g is a store: its blocks by their keys, its rows, its end. -/
structure StAt (w : World) (g bm t : Nat) (en : Int) (M : List Ke) (R : List Rw) : Prop where
  cells : w.heap[g]? = some (.cells #[.map (some bm), .pointer (some ⟨t, 0, none⟩), .int .u64 en] 101 (0, 0))
  mp : MapK Tryz.prog 24 kev w bm M
  tab : TabAt w t R
  tm : t ≠ bm
  tg : t ≠ g
  blk : ∀ x ∈ M, BkAt w x.b x.G x.l
  apart : ∀ x ∈ M, ∀ y ∈ M, x.s ≠ y.s → ∀ k, x.G k → ¬ y.G k
  fin : ∀ x ∈ M, ∀ k, x.G k → k < w.heap.size
  own : ∀ x ∈ M, ¬ x.G g ∧ ¬ x.G bm ∧ ¬ x.G t
  rng : ∀ x ∈ M, 0 ≤ x.s ∧ x.s ≤ 4294967295
  e0 : 0 ≤ en
  e1 : en ≤ 18446744073709551615
/-- Its own blocks. -/
def StB (g bm t : Nat) (M : List Ke) : Nat → Prop := fun k => k = g ∨ k = bm ∨ k = t ∨ ∃ x ∈ M, x.G k
theorem StAt.kept {S : Nat → Prop} {w w' : World} {g bm t : Nat} {en : Int} {M : List Ke} {R : List Rw} (h : StAt w g bm t en M R) (hk : Kept S w w') (hs : ∀ k, StB g bm t M k → ¬ S k) : StAt w' g bm t en M R :=
  ⟨hk.heap (hs g (.inl rfl)) h.cells, h.mp.kept hk (hs bm (.inr (.inl rfl))), h.tab.kept hk (hs t (.inr (.inr (.inl rfl)))), h.tm, h.tg, fun x hx => (h.blk x hx).kept hk (fun k hg => hs k (.inr (.inr (.inr ⟨x, hx, hg⟩)))), h.apart, (fun x hx k hg => Nat.lt_of_lt_of_le (h.fin x hx k hg) hk.size), h.own, h.rng, h.e0, h.e1⟩
theorem StAt.no {w w' : World} {g bm t : Nat} {en : Int} {M : List Ke} {R : List Rw} (h : StAt w g bm t en M R) (hk : Kept NoB w w') : StAt w' g bm t en M R := h.kept hk (fun _ _ h => h)
theorem StAt.c {w : World} {g bm t : Nat} {en : Int} {M : List Ke} {R : List Rw} (h : StAt w g bm t en M R) : w.cell? ⟨g, 0, none⟩ = some (.map (some bm)) ∧ w.cell? ⟨g, 1, none⟩ = some (.pointer (some ⟨t, 0, none⟩)) ∧ w.cell? ⟨g, 2, none⟩ = some (.int .u64 en) :=
  ⟨cell_of_row _ _ 0 _ _ _ h.cells, cell_of_row _ _ 1 _ _ _ h.cells, cell_of_row _ _ 2 _ _ _ h.cells⟩
theorem TEnd_any (w : World) (g bm t : Nat) (en : Int) (M : List Ke) (R : List Rw) (h : StAt w g bm t en M R) : Calls Tryz.prog 9 #[.pointer (some ⟨g, 0, none⟩)] w fun e w' => e = .returned (.int .u64 en) ∧ w = w' := by
  obtain ⟨c0, c1, c2⟩ := h.c
  clear h
  go_enter Tryz.func9, Tryz.ntmps9
  go_wp2
  go_ret
  exact ⟨rfl, rfl⟩
theorem TTable_any (w : World) (g bm t : Nat) (en : Int) (M : List Ke) (R : List Rw) (h : StAt w g bm t en M R) : Calls Tryz.prog 100 #[.pointer (some ⟨g, 0, none⟩)] w fun e w' => e = .returned (.pointer (some ⟨t, 0, none⟩)) ∧ w = w' := by
  obtain ⟨c0, c1, c2⟩ := h.c
  clear h
  go_enter Tryz.func100, Tryz.ntmps100
  go_wp2
  go_ret
  exact ⟨rfl, rfl⟩
theorem StAt.ttab {w : World} {g bm t : Nat} {en : Int} {M : List Ke} {R : List Rw} (h : StAt w g bm t en M R) : TTab w (.pointer (some ⟨g, 0, none⟩)) (.pointer (some ⟨t, 0, none⟩)) := fun w' hk => TTable_any w' g bm t en M R (h.no hk)
/-- What 'block' tells of a key. -/
def bkv (M : List Ke) (k : Int) : Value := ((atK M k).map kev).getD (.pointer none)
theorem TBlock_any (w : World) (g bm t : Nat) (en k : Int) (M : List Ke) (R : List Rw) (h : StAt w g bm t en M R) (h0 : 0 ≤ k) (h1 : k ≤ 4294967295) : Calls Tryz.prog 111 #[.pointer (some ⟨g, 0, none⟩), .int .u32 k] w fun e w' => e = .returned (bkv M k) ∧ w = w' := by
  obtain ⟨c0, c1, c2⟩ := h.c
  have hl := run_look_mk (P := Tryz.prog) w 97 24 120 (by kernel_rfl) (by kernel_rfl) (.pointer none) (by kernel_rfl) bm kev M k h.mp (WalkArith.wf_u32 ⟨h0, h1⟩)
  replace hl : (Instr.lookup 97 (.map (some bm)) (.int .u32 k) false).run Tryz.prog w = .ok (bkv M k) w := hl
  generalize bkv M k = z at hl ⊢
  clear h
  go_enter Tryz.func111, Tryz.ntmps111
  go_wp2
  go_ret
  exact ⟨rfl, rfl⟩
/-- The versions of a key. -/
def lsK (M : List Ke) (k : Int) : List Vn := ((atK M k).map (·.l)).getD []
theorem StAt.block {w : World} {g bm t : Nat} {en k : Int} {M : List Ke} {R : List Rw} (h : StAt w g bm t en M R) (h0 : 0 ≤ k) (h1 : k ≤ 4294967295) :
    ∃ x v F, TBlk w (.pointer (some ⟨g, 0, none⟩)) k x ∧ TellsV w x v ∧ VsAt w F v (lsK M k) ∧ Asc (lsK M k) := by
  have hb : TBlk w (.pointer (some ⟨g, 0, none⟩)) k (bkv M k) := fun w' hk => TBlock_any w' g bm t en k M R (h.no hk) h0 h1
  unfold bkv at hb
  unfold lsK
  cases ha : atK M k with
  | none =>
    rw [ha] at hb
    exact ⟨_, _, NoB, hb, TellsV.nil w, VsAt.nil w NoB, Asc.nil⟩
  | some x =>
    rw [ha] at hb
    have hB := h.blk x (atK_slot ha).2
    obtain ⟨a, c, hc, hv⟩ := hB.vs
    exact ⟨_, _, x.G, hb, TellsV.of hc, hv, hB.asc⟩
theorem TNew_any (w : World) : Calls Tryz.prog 8 #[] w fun e w' => ∃ g bm t, e = .returned (.pointer (some ⟨g, 0, none⟩)) ∧ StAt w' g bm t 0 [] [] ∧ w.heap.size ≤ g ∧ w.heap.size ≤ bm ∧ w.heap.size ≤ t ∧ Kept NoB w w' := by
  have hmm := @run_makeMap Tryz.prog
  have hk0 := (Kept.refl NoB w).alloc (.map #[] 0)
  have HK := Lib.hid hk0
  have HM := Lib.hid (MapK.made Tryz.prog 24 kev w)
  have HZ : Hid ((w.alloc (.map #[] 0)).heap.size = w.heap.size + 1) := Lib.hid (by simp)
  have HN := Lib.hid (SNew_any (w.alloc (.map #[] 0)))
  clear hk0
  go_enter Tryz.func8, Tryz.ntmps8
  go_wp2_with fail
  refine HN.out.mono ?_
  rintro e w1 ⟨rfl, ht, hk1⟩
  rw [HZ.out] at ht ⊢
  have HT := Lib.hid ht
  have HK1 := Lib.hid hk1
  clear ht hk1
  go_wp2
  go_ret
  have hz1 := HK1.out.size
  have hz0 := HZ.out
  have hk2 := (Kept.refl NoB w1).alloc (.cells #[.map (some w.heap.size), .pointer (some ⟨w.heap.size + 1, 0, none⟩), .int .u64 0] 101)
  have htl := HT.out.lt
  exact ⟨w1.heap.size, w.heap.size, w.heap.size + 1, rfl, ⟨heap_alloc_new w1 _, (HM.out.kept HK1.out (fun h => h)).kept hk2 (fun h => h), HT.out.no hk2, by omega, by omega, (fun x hx => by cases hx), (fun x hx => by cases hx), (fun x hx => by cases hx), (fun x hx => by cases hx), (fun x hx => by cases hx), by omega, by omega⟩, by omega, by omega, by omega, (HK.out.trans HK1.out (fun _ _ h => h)).trans hk2 (fun _ _ h => h)⟩
end Go.Proofs.YtabmipjpgofgpaaGreatDoor
