/-
  The walk of catenarylaw01.FixReads: whatever is read is what the chapter says, or the first error is told.
-/
import Derived.Test.YtgkkiijoblphfaaItems
import Derived.Test.YtgkkiijoblphfaaRefD
import Derived.Deep.RegionLaw
import Derived.Deep.RegionHeld3
import Derived.Deep.DeepCutAuto
import Derived.Deep.CutBlock
namespace Go.Proofs.Ytgkkiijoblphfaa
open Go.RowKit

/-- The block g is a reader's state. -/
def RBlk (w : World) (F : Nat → Prop) (g : Nat) (s : ISt) : Prop :=
  s.ok ∧ ∃ a cap, w.heap[g]? = some (.cells #[.slice a s.l.length cap, .int .i64 s.err] 29 (0, 0)) ∧ BSl w F (.slice a s.l.length cap) s.l
theorem RBlk.kept {S F : Nat → Prop} {w w' : World} {g : Nat} {s : ISt} (h : RBlk w F g s) (hk : Kept S w w') (hs : ∀ k, F k → ¬ S k) (hg : ¬ S g) : RBlk w' F g s := by
  obtain ⟨h1, a, cap, hv, hb⟩ := h
  exact ⟨h1, a, cap, hk.heap hg hv, hb.kept hk hs⟩
theorem RBlk.store {w : World} {F : Nat → Prop} {g : Nat} {s t : ISt} {a : Option Addr} {cap : Nat} (h : RBlk w F g s) (ht : RAt w F (.agg #[.slice a t.l.length cap, .int .i64 t.err]) t) (hg : ¬ F g) :
    RBlk ((w.setCell ⟨g, 0, none⟩ (.slice a t.l.length cap)).setCell ⟨g, 1, none⟩ (.int .i64 t.err)) F g t := by
  obtain ⟨_, b, c, hv, _⟩ := h
  obtain ⟨h1, x, hx, hb⟩ := ht
  have e : x = .slice a t.l.length cap := by
    injection hx with hx
    simp only [Array.mk.injEq, List.cons.injEq, and_true] at hx
    exact hx.symm
  subst e
  refine ⟨h1, a, cap, ?_, ?_⟩
  · simp [World.setCell, Array.getElem?_modify, hv]
  · have hk : Kept (Only g) w ((w.setCell ⟨g, 0, none⟩ (.slice a t.l.length cap)).setCell ⟨g, 1, none⟩ (.int .i64 t.err)) := ((Kept.refl _ _).only 0 _).only 1 _
    exact hb.kept hk (fun k hk e => hg (by have e : k = g := e; rw [← e]; exact hk))

def ReadsRel (w : World) (gi gr n : Nat) (i : Value) (wr : World) : Prop :=
  ∃ (j : Nat) (s : ISt), j ≤ n ∧ i = .int .i64 j ∧ InAt wr (fun k => w.heap.size ≤ k ∧ k < gi) gi s ∧ RBlk wr (fun k => k < w.heap.size) gr s ∧ Kept NoB w wr

/-- What stands between the two calls of a kind. -/
def MidRel (w : World) (gi gr : Nat) (s s1 : ISt) (n1 : Int) (s9 : Value) (wx : World) : Prop :=
  s9 = .int .u64 n1 ∧ InAt wx (fun k => w.heap.size ≤ k ∧ k < gi) gi s ∧ RBlk wx (fun k => k < w.heap.size) gr s1 ∧ Kept NoB w wx
theorem mid_of {w wr w3 : World} {gi gr : Nat} {s s1 : ISt} {n1 : Int} {a3 : Option Addr} {cap3 : Nat} (hI : InAt wr (fun k => w.heap.size ≤ k ∧ k < gi) gi s) (hR : RBlk wr (fun k => k < w.heap.size) gr s) (hK : Kept NoB w wr)
    (hv : RAt w3 (fun k => k < w.heap.size) (.agg #[.slice a3 s1.l.length cap3, .int .i64 s1.err]) s1) (hk : Kept NoB wr.drew w3) (h1 : w.heap.size ≤ gi) (h2 : gi < gr) :
    MidRel w gi gr s s1 n1 (.int .u64 n1) ((w3.setCell ⟨gr, 0, none⟩ (.slice a3 s1.l.length cap3)).setCell ⟨gr, 1, none⟩ (.int .i64 s1.err)) := by
  have hk4 : Kept NoB wr w3 := ⟨hk.os, hk.tape, hk.output, hk.size, hk.block⟩
  have hkS : Kept (Only gr) w3 ((w3.setCell ⟨gr, 0, none⟩ (.slice a3 s1.l.length cap3)).setCell ⟨gr, 1, none⟩ (.int .i64 s1.err)) := ((Kept.refl _ _).only 0 _).only 1 _
  exact ⟨rfl, (hI.kept hk4 (fun _ _ h => h) (fun h => h)).kept hkS (fun k hx h => by have e : k = gr := h; have := hx.2; omega) (fun h => by have e : gi = gr := h; omega),
    (hR.kept hk4 (fun _ _ h => h) (fun h => h)).store hv (by omega), (hK.trans hk4 (fun _ _ h => h)).trans hkS (fun i hi h => by have e : i = gr := h; omega)⟩
/-- What the switch leaves. -/
def SwRel (w : World) (gi gr : Nat) (s8 s9 s10 s11 s12 s13 : Value) (wx : World) : Prop :=
  ∃ (s1 : ISt) (n1 : Int) (L : List Int) (b : Bool) (F1 F2 : Nat → Prop), s8 = .int .u64 n1 ∧ s9 = .int .u64 n1 ∧ BSl wx F1 s10 L ∧ BSl wx F2 s11 L ∧ s12 = .bool b ∧ s13 = .bool b ∧
    InAt wx (fun k => w.heap.size ≤ k ∧ k < gi) gi s1 ∧ RBlk wx (fun k => k < w.heap.size) gr s1 ∧ Kept NoB w wx

set_option maxRecDepth 100000 in
set_option maxHeartbeats 20000000 in
theorem FixReads_any (v u : Value) (l0 : List Int) (n : Nat) (it : Nat → Ask') (w : World) (h : BSl w (fun k => k < w.heap.size) v l0) (hz : AksAt w u n it) :
    Calls Try.prog 3 #[v, u] w fun e w' => e = .returned (.bool true) ∧ Kept NoB w w' := by
  have HV := Lib.hid h
  obtain ⟨ua, ucap, rfl, hn, hit⟩ := hz
  obtain ⟨a, cap, rfl, _⟩ := h
  have hn2 : (n : Int) ≤ 9223372036854775807 := by omega
  go_enter Try.func3, Try.ntmps3
  go_wp2_with fail
  refine (Cut_any _ l0 200 _ _ HV.out (by omega)).mono ?_
  rintro e w' ⟨v', rfl, hv', rfl⟩
  obtain ⟨l, hl⟩ : ∃ l, l = l0.take 200 := ⟨_, rfl⟩
  rw [← hl] at hv'
  have hl200 : l.length ≤ 200 := by rw [hl, List.length_take]; omega
  clear hl
  have HV2 := Lib.hid hv'
  obtain ⟨a', cap', rfl, _⟩ := hv'
  go_wp2_with fail
  refine (Of_any _ l _ _ HV2.out (by omega)).mono ?_
  rintro e w1 ⟨gi, rfl, hgi, hgil, hI1, hk1⟩
  have HI1 := Lib.hid hI1
  have HK1 := Lib.hid hk1
  obtain ⟨gr, hgr⟩ : ∃ gr, gr = w1.heap.size := ⟨_, rfl⟩
  have HGR := Lib.hid hgr
  have hgig : gi < gr := by omega
  have hV1 := Lib.hid (HV2.out.kept hk1 (fun _ _ h => h))
  clear hI1 hk1 hgr
  go_wp2_with fail
  rw [← HGR.out]
  go_loopw [7] (ReadsRel w gi gr n) (fun i _ => n - (intOf i).toNat)
  case atStart =>
    refine ⟨0, ⟨l, 0⟩, Nat.zero_le _, rfl, HI1.out.kept (S := NoB) ((Kept.refl _ _).alloc _) (fun _ _ h => h) (fun h => h), ?_, HK1.out.alloc _⟩
    refine ⟨⟨fun h => absurd rfl h, Int.le_refl _, by show (0 : Int) < 100; omega⟩, a', cap', ?_, hV1.out.kept (S := NoB) ((Kept.refl _ _).alloc _) (fun _ _ h => h)⟩
    rw [HGR.out]
    exact heap_alloc_new w1 _
  case round =>
    obtain ⟨j, s, hj, rfl, hI, hR, hk⟩ := hrel
    have HI := Lib.hid hI
    have HR := Lib.hid hR
    have HK := Lib.hid hk
    have hIB : IsB s.l := by obtain ⟨_, _, _, _, hb⟩ := hI; exact hb.isB
    have HIB := Lib.hid hIB
    have hok := hI.2.1
    have HOK := Lib.hid hok
    obtain ⟨_, ra, rcap, hrb, hrbs⟩ := hR
    have HRA := Lib.hid (show RAt wr (fun k => k < w.heap.size) (.agg #[.slice ra s.l.length rcap, .int .i64 s.err]) s from ⟨hok, _, rfl, hrbs⟩)
    have c0 : wr.cell? ⟨gr, 0, none⟩ = some (.slice ra s.l.length rcap) := cell_of_row wr _ 0 _ _ _ hrb
    have c1 : wr.cell? ⟨gr, 1, none⟩ = some (.int .i64 s.err) := cell_of_row wr _ 1 _ _ _ hrb
    have f0 := blk_frozen hrb 0
    have f1 := blk_frozen hrb 1
    have hgrl : gr < wr.heap.size := heap_lt hrb
    have hwz := hk.size
    have hFr := Lib.hid (show ∀ k, k < w.heap.size → k < wr.heap.size from fun k h => by omega)
    clear hI hrb hrbs hIB hok
    by_cases hlt : j < n ∧ j < 30
    · obtain ⟨hlt1, hlt2⟩ := hlt
      obtain ⟨b, o, rfl, hb, hcs⟩ := hit (by omega)
      obtain ⟨d0, d1, d2, hm0, hwid⟩ := hcs j hlt1
      have e0 := hk.cell (p := ⟨b, o + j * 3, none⟩) (fun h => h) d0
      have e1 := hk.cell (p := ⟨b, o + j * 3 + 1, none⟩) (fun h => h) d1
      have e2 := hk.cell (p := ⟨b, o + j * 3 + 2, none⟩) (fun h => h) d2
      have hbgr : b ≠ gr := by omega
      have hgb : gr ≠ b := by omega
      have hbgi : b ≠ gi := by omega
      have hj0 : (0 : Int) ≤ (j : Int) := by omega
      have hjn : (j : Int) < (n : Int) := by omega
      have HIT := Lib.hid hit
      have D1 := Lib.hid d1
      have D2 := Lib.hid d2
      clear hk hcs d0 d1 d2 hit
      generalize hX : it j = x at *
      have HX := Lib.hid hX
      obtain ⟨kind, width, most⟩ := x
      simp only at e0 e1 e2 hm0 hwid D1 D2
      clear hX
      go_upto_block 2 with fail
      go_cut [8, 9, 10, 11, 12, 13] (SwRel w gi gr)
      case first =>
        by_cases h0 : kind = 0
        · subst h0
          as_aux_lemma =>
            have HRf := Lib.hid (RGet_any (.agg #[.slice ra s.l.length rcap, .int .i64 s.err]) s width (fun k => k < w.heap.size))
            have HPr := Lib.hid (fun F w h => Get_any gi s width F w h)
            generalize (s.get width).1 = s1 at *
            generalize (s.get width).2 = n1 at *
            go_wp2_with fail
            have c0d : wr.drew.cell? ⟨gr, 0, none⟩ = _ := cell_drew c0
            have c1d : wr.drew.cell? ⟨gr, 1, none⟩ = _ := cell_drew c1
            have HTEN : Hid (∀ w', Kept (Only gr) wr w' → w'.cell? ⟨b, o + j * 3 + 1, none⟩ = some (.int .i64 width) ∧ w'.cell? ⟨b, o + j * 3 + 2, none⟩ = some (.int .u64 most)) := Lib.hid (fun w' hk => ⟨hk.cell (p := ⟨b, o + j * 3 + 1, none⟩) (fun h => hgb (by have e : b = gr := h; exact e.symm)) e1, hk.cell (p := ⟨b, o + j * 3 + 2, none⟩) (fun h => hgb (by have e : b = gr := h; exact e.symm)) e2⟩)
            have HKe := Lib.hid (Kept.refl (Only gr) wr).drew
            have HT := Lib.hid (HTEN.out _ HKe.out)
            refine wp_region_noPanic ?_
            refine wp_region_held_drew (S := (fun w' => w'.cell? ⟨b, o + j * 3 + 1, none⟩ = some (.int .i64 width) ∧ w'.cell? ⟨b, o + j * 3 + 2, none⟩ = some (.int .u64 most))) (by kernel_rfl) ?_ (fun hHeld => ?_)
            · (try dsimp only); with_reducible exact HT.out
            refine wpAnyH_take (i := 1) (oi := { dst := some 46, op := Op.move (Operand.tmp 1), type := 23, pos := "law.go:88", after := #[], guard := none }) (v := ?_) rfl (by kernel_rfl) (by kernel_rfl) (by kernel_rfl) (fun _ _ _ h => h) (Or.inl ⟨by rfl, ?_⟩) (by assumption) ?_
            rotate_left
            · (intro w hSw; (try dsimp only at hSw); go_simp; try with_reducible rfl)
            try simp only [Act.put, List.setIfInBounds_toArray, List.set_cons_zero, List.set_cons_succ]
            refine wpAnyH_take (i := 2) (oi := { dst := some 47, op := Op.move (Operand.tmp 7), type := 3, pos := "law.go:88", after := #[], guard := none }) (v := ?_) rfl (by kernel_rfl) (by kernel_rfl) (by kernel_rfl) (fun _ _ _ h => h) (Or.inl ⟨by rfl, ?_⟩) (by assumption) ?_
            rotate_left
            · (intro w hSw; (try dsimp only at hSw); go_simp; try with_reducible rfl)
            try simp only [Act.put, List.setIfInBounds_toArray, List.set_cons_zero, List.set_cons_succ]
            refine wpAnyH_take (i := 3) (oi := { dst := some 48, op := Op.indexAddr 23 (Operand.tmp 46) (Operand.tmp 47), type := 0, pos := "law.go:88", after := #[{ on := 1, ground := Ground.data }, { on := 2, ground := Ground.data }], guard := none }) (v := ?_) rfl (by kernel_rfl) (by kernel_rfl) (by kernel_rfl) (fun _ _ _ h => h) (Or.inl ⟨by rfl, ?_⟩) (by assumption) ?_
            rotate_left
            · (intro w hSw; (try dsimp only at hSw); go_simp; try with_reducible rfl)
            try simp only [Act.put, List.setIfInBounds_toArray, List.set_cons_zero, List.set_cons_succ]
            refine wpAnyH_take (i := 4) (oi := { dst := some 49, op := Op.fieldAddr 32 (Operand.tmp 48) 1, type := 0, pos := "law.go:88", after := #[{ on := 3, ground := Ground.data }], guard := none }) (v := ?_) rfl (by kernel_rfl) (by kernel_rfl) (by kernel_rfl) (fun _ _ _ h => h) (Or.inl ⟨by rfl, ?_⟩) (by assumption) ?_
            rotate_left
            · (intro w hSw; (try dsimp only at hSw); go_simp; try with_reducible rfl)
            try simp only [Act.put, List.setIfInBounds_toArray, List.set_cons_zero, List.set_cons_succ]
            refine wpAnyH_take (i := 5) (oi := { dst := some 50, op := Op.load 3 (Operand.tmp 49), type := 3, pos := "law.go:88", after := #[{ on := 4, ground := Ground.data }], guard := none }) (v := ?_) rfl (by kernel_rfl) (by kernel_rfl) (by kernel_rfl) (fun _ _ _ h => h) (Or.inl ⟨by rfl, ?_⟩) (by assumption) ?_
            rotate_left
            · (intro w hSw; (try dsimp only at hSw); go_simp; try with_reducible rfl)
            try simp only [Act.put, List.setIfInBounds_toArray, List.set_cons_zero, List.set_cons_succ]
            refine wpAnyH_ready (rs := [0]) (by kernel_rfl) (by simp) ?_
            refine AllReadyH.cons (o := { dst := some 45, op := Op.load 29 (Operand.tmp 6), type := 29, pos := "law.go:88", after := #[], guard := none }) rfl (fun K hK => ?_) AllReadyH.nil
            go_simp
            replace HT := Lib.hid (HTEN.out _ HKe.out)
            first | (with_reducible refine hK.out _ _ ?_ (fun hHeld => ?_)) | (go_wp2_with fail; with_reducible refine hK.out _ _ ?_ (fun hHeld => ?_))
            · (try dsimp only); with_reducible exact HT.out
            clear hK K
            try simp only [Act.put, List.setIfInBounds_toArray, List.set_cons_zero, List.set_cons_succ]
            refine wpAnyH_ready (rs := [6]) (by kernel_rfl) (by simp) ?_
            refine AllReadyH.cons (o := { dst := some 51, op := Op.call { callee := Callee.value (Operand.func 6), args := #[Operand.tmp 45, Operand.tmp 50], argTypes := #[29, 3] }, type := 33, pos := "law.go:88", after := #[{ on := 0, ground := Ground.data }, { on := 5, ground := Ground.data }], guard := none }) rfl (fun K hK => ?_) AllReadyH.nil
            go_simp
            (go_at_call 6; refine (HRf.out _ (by exact HRA.out.kept (S := NoB) ((Kept.refl _ _).drew) (fun _ _ h => h)) (by exact hFr.out)).mono ?_; rintro e w3 ⟨v3, rfl, hv3, hk3⟩; have HV3 := Lib.hid hv3; obtain ⟨ok3, b3, rfl, a3, cap3, rfl, hb3⟩ := hv3; have c30 := hk3.cell (p := ⟨gr, 0, none⟩) (fun h => h) (cell_drew c0); have c31 := hk3.cell (p := ⟨gr, 1, none⟩) (fun h => h) (cell_drew c1); have f30 : w3.frozen? ⟨gr, 0, none⟩ = false := (World.frozen?_of_block (hk3.block gr hgrl (fun h => h))).trans (frozen_drew f0); have f31 : w3.frozen? ⟨gr, 1, none⟩ = false := (World.frozen?_of_block (hk3.block gr hgrl (fun h => h))).trans (frozen_drew f1))
            replace HKe := Lib.hid (HKe.out.trans hk3 (fun _ _ h => absurd h (fun h => h)))
            replace HT := Lib.hid (HTEN.out _ HKe.out)
            first | (with_reducible refine hK.out _ _ ?_ (fun hHeld => ?_)) | (go_wp2_with fail; with_reducible refine hK.out _ _ ?_ (fun hHeld => ?_))
            · (try dsimp only); with_reducible exact HT.out
            clear hK K
            try simp only [Act.put, List.setIfInBounds_toArray, List.set_cons_zero, List.set_cons_succ]
            refine wpAnyH_take (i := 7) (oi := { dst := some 44, op := Op.move (Operand.tmp 51), type := 33, pos := "law.go:88", after := #[{ on := 6, ground := Ground.data }], guard := none }) (v := ?_) rfl (by kernel_rfl) (by kernel_rfl) (by kernel_rfl) (fun _ _ _ h => h) (Or.inl ⟨by rfl, ?_⟩) (by assumption) ?_
            rotate_left
            · (intro w hSw; (try dsimp only at hSw); go_simp; try with_reducible rfl)
            try simp only [Act.put, List.setIfInBounds_toArray, List.set_cons_zero, List.set_cons_succ]
            refine wpAnyH_take (i := 8) (oi := { dst := some 52, op := Op.extract (Operand.tmp 44) 0, type := 29, pos := "law.go:88", after := #[{ on := 7, ground := Ground.data }], guard := none }) (v := ?_) rfl (by kernel_rfl) (by kernel_rfl) (by kernel_rfl) (fun _ _ _ h => h) (Or.inl ⟨by rfl, ?_⟩) (by assumption) ?_
            rotate_left
            · (intro w hSw; (try dsimp only at hSw); go_simp; try with_reducible rfl)
            try simp only [Act.put, List.setIfInBounds_toArray, List.set_cons_zero, List.set_cons_succ]
            refine wpAnyH_take (i := 9) (oi := { dst := some 53, op := Op.extract (Operand.tmp 44) 1, type := 30, pos := "law.go:88", after := #[{ on := 7, ground := Ground.data }, { on := 10, ground := Ground.gcOnly Departure.lateStores }], guard := none }) (v := ?_) rfl (by kernel_rfl) (by kernel_rfl) (by kernel_rfl) (fun _ _ _ h => h) (Or.inl ⟨by rfl, ?_⟩) (by assumption) ?_
            rotate_left
            · (intro w hSw; (try dsimp only at hSw); go_simp; try with_reducible rfl)
            try simp only [Act.put, List.setIfInBounds_toArray, List.set_cons_zero, List.set_cons_succ]
            refine wpAnyH_ready (rs := [10]) (by kernel_rfl) (by simp) ?_
            refine AllReadyH.cons (o := { dst := none, op := Op.store 29 (Operand.tmp 6) (Operand.tmp 52), type := 0, pos := "law.go:88", after := #[{ on := 8, ground := Ground.data }, { on := 6, ground := Ground.chain }, { on := 0, ground := Ground.phase }, { on := 1, ground := Ground.phase }, { on := 2, ground := Ground.phase }, { on := 3, ground := Ground.phase }, { on := 4, ground := Ground.phase }, { on := 5, ground := Ground.phase }, { on := 6, ground := Ground.phase }, { on := 7, ground := Ground.phase }, { on := 8, ground := Ground.phase }, { on := 9, ground := Ground.textOnly Departure.lateStores }], guard := none }) rfl (fun K hK => ?_) AllReadyH.nil
            go_simp
            replace HKe := Lib.hid ((HKe.out.only 0 (.slice a3 s1.l.length cap3)).only 1 (.int .i64 s1.err))
            replace HT := Lib.hid (HTEN.out _ HKe.out)
            first | (with_reducible refine hK.out _ _ ?_ (fun hHeld => ?_)) | (go_wp2_with fail; with_reducible refine hK.out _ _ ?_ (fun hHeld => ?_))
            · (try dsimp only); with_reducible exact HT.out
            clear hK K
            try simp only [Act.put, List.setIfInBounds_toArray, List.set_cons_zero, List.set_cons_succ]
            refine wpAnyH_take (i := 11) (oi := { dst := some 9, op := Op.assign (Operand.tmp 53), type := 30, pos := "law.go:88", after := #[{ on := 9, ground := Ground.data }, { on := 10, ground := Ground.chain }, { on := 0, ground := Ground.phase }, { on := 1, ground := Ground.phase }, { on := 2, ground := Ground.phase }, { on := 3, ground := Ground.phase }, { on := 4, ground := Ground.phase }, { on := 5, ground := Ground.phase }, { on := 6, ground := Ground.phase }, { on := 7, ground := Ground.phase }, { on := 8, ground := Ground.phase }, { on := 9, ground := Ground.phase }, { on := 10, ground := Ground.phase }], guard := none }) (v := ?_) rfl (by kernel_rfl) (by kernel_rfl) (by kernel_rfl) (fun _ _ _ h => h) (Or.inl ⟨by rfl, ?_⟩) (by assumption) ?_
            rotate_left
            · (intro w hSw; (try dsimp only at hSw); go_simp; try with_reducible rfl)
            try simp only [Act.put, List.setIfInBounds_toArray, List.set_cons_zero, List.set_cons_succ]
            refine wpAnyH_done (by kernel_rfl) ?_ _
            refine NoPanic.normal ?_
            have hk4 : Kept NoB wr w3 := ⟨hk3.os, hk3.tape, hk3.output, hk3.size, hk3.block⟩
            have e10 := hk4.cell (p := ⟨b, o + j * 3 + 1, none⟩) (fun h => h) e1
            have e20 := hk4.cell (p := ⟨b, o + j * 3 + 2, none⟩) (fun h => h) e2
            have HI3 := Lib.hid (HI.out.kept hk4 (fun _ _ h => h) (fun h => h))
            have HR3 := Lib.hid ((HR.out.kept hk4 (fun _ _ h => h) (fun h => h)).store HV3.out (by omega))
            have HK3 := Lib.hid (HK.out.trans hk4 (fun _ _ h => h))
            have hkS : Kept (Only gr) w3 ((w3.setCell ⟨gr, 0, none⟩ (.slice a3 s1.l.length cap3)).setCell ⟨gr, 1, none⟩ (.int .i64 s1.err)) := ((Kept.refl _ _).only 0 _).only 1 _
            have HKS := Lib.hid hkS
            have HI4 := Lib.hid (HI3.out.kept hkS (fun k hx h => by have e : k = gr := h; have := hx.2; omega) (fun h => by have e : gi = gr := h; omega))
            have HK4 := Lib.hid (HK3.out.trans hkS (fun i hi h => by have e : i = gr := h; omega))
            clear hk3 hk4 hkS hb3 ok3 
            go_wp2_with fail
            refine (HPr.out _ _ HI4.out).mono ?_
            rintro e w5 ⟨rfl, hI5, hk5⟩
            have HR5 := HR3.out.kept hk5 (fun k hx h => by have e : k = gi := h; omega) (fun h => by have e : gr = gi := h; omega)
            have HK5 := HK4.out.trans hk5 (fun i hi h => by have e : i = gi := h; omega)
            go_wp2_with fail
            go_meet
            exact ⟨s1, n1, [], false, NoB, NoB, rfl, rfl, BSl.nil _ _, BSl.nil _ _, rfl, rfl, hI5, HR5, HK5⟩
        · have h0b : (kind == 0) = false := by simpa using h0
          by_cases h1 : kind = 1
          · subst h1
            clear h0 h0b
            as_aux_lemma =>
              have HRf := Lib.hid (RUpto_any (.agg #[.slice ra s.l.length rcap, .int .i64 s.err]) s width most (fun k => k < w.heap.size))
              have HPr := Lib.hid (fun F w h => Upto_any gi s width most F w h hm0)
              generalize (s.upto width most).1 = s1 at *
              generalize (s.upto width most).2 = n1 at *
              go_wp2_with fail
              have c0d : wr.drew.cell? ⟨gr, 0, none⟩ = _ := cell_drew c0
              have c1d : wr.drew.cell? ⟨gr, 1, none⟩ = _ := cell_drew c1
              have HTEN : Hid (∀ w', Kept (Only gr) wr w' → w'.cell? ⟨b, o + j * 3 + 1, none⟩ = some (.int .i64 width) ∧ w'.cell? ⟨b, o + j * 3 + 2, none⟩ = some (.int .u64 most)) := Lib.hid (fun w' hk => ⟨hk.cell (p := ⟨b, o + j * 3 + 1, none⟩) (fun h => hgb (by have e : b = gr := h; exact e.symm)) e1, hk.cell (p := ⟨b, o + j * 3 + 2, none⟩) (fun h => hgb (by have e : b = gr := h; exact e.symm)) e2⟩)
              have HKe := Lib.hid (Kept.refl (Only gr) wr).drew
              have HT := Lib.hid (HTEN.out _ HKe.out)
              refine wp_region_noPanic ?_
              refine wp_region_held_drew (S := (fun w' => w'.cell? ⟨b, o + j * 3 + 1, none⟩ = some (.int .i64 width) ∧ w'.cell? ⟨b, o + j * 3 + 2, none⟩ = some (.int .u64 most))) (by kernel_rfl) ?_ (fun hHeld => ?_)
              · (try dsimp only); with_reducible exact HT.out
              refine wpAnyH_take (i := 1) (oi := { dst := some 65, op := Op.move (Operand.tmp 1), type := 23, pos := "law.go:91", after := #[], guard := none }) (v := ?_) rfl (by kernel_rfl) (by kernel_rfl) (by kernel_rfl) (fun _ _ _ h => h) (Or.inl ⟨by rfl, ?_⟩) (by assumption) ?_
              rotate_left
              · (intro w hSw; (try dsimp only at hSw); go_simp; try with_reducible rfl)
              try simp only [Act.put, List.setIfInBounds_toArray, List.set_cons_zero, List.set_cons_succ]
              refine wpAnyH_take (i := 2) (oi := { dst := some 66, op := Op.move (Operand.tmp 7), type := 3, pos := "law.go:91", after := #[], guard := none }) (v := ?_) rfl (by kernel_rfl) (by kernel_rfl) (by kernel_rfl) (fun _ _ _ h => h) (Or.inl ⟨by rfl, ?_⟩) (by assumption) ?_
              rotate_left
              · (intro w hSw; (try dsimp only at hSw); go_simp; try with_reducible rfl)
              try simp only [Act.put, List.setIfInBounds_toArray, List.set_cons_zero, List.set_cons_succ]
              refine wpAnyH_take (i := 3) (oi := { dst := some 67, op := Op.indexAddr 23 (Operand.tmp 65) (Operand.tmp 66), type := 0, pos := "law.go:91", after := #[{ on := 1, ground := Ground.data }, { on := 2, ground := Ground.data }], guard := none }) (v := ?_) rfl (by kernel_rfl) (by kernel_rfl) (by kernel_rfl) (fun _ _ _ h => h) (Or.inl ⟨by rfl, ?_⟩) (by assumption) ?_
              rotate_left
              · (intro w hSw; (try dsimp only at hSw); go_simp; try with_reducible rfl)
              try simp only [Act.put, List.setIfInBounds_toArray, List.set_cons_zero, List.set_cons_succ]
              refine wpAnyH_take (i := 4) (oi := { dst := some 68, op := Op.fieldAddr 32 (Operand.tmp 67) 1, type := 0, pos := "law.go:91", after := #[{ on := 3, ground := Ground.data }], guard := none }) (v := ?_) rfl (by kernel_rfl) (by kernel_rfl) (by kernel_rfl) (fun _ _ _ h => h) (Or.inl ⟨by rfl, ?_⟩) (by assumption) ?_
              rotate_left
              · (intro w hSw; (try dsimp only at hSw); go_simp; try with_reducible rfl)
              try simp only [Act.put, List.setIfInBounds_toArray, List.set_cons_zero, List.set_cons_succ]
              refine wpAnyH_take (i := 5) (oi := { dst := some 69, op := Op.load 3 (Operand.tmp 68), type := 3, pos := "law.go:91", after := #[{ on := 4, ground := Ground.data }], guard := none }) (v := ?_) rfl (by kernel_rfl) (by kernel_rfl) (by kernel_rfl) (fun _ _ _ h => h) (Or.inl ⟨by rfl, ?_⟩) (by assumption) ?_
              rotate_left
              · (intro w hSw; (try dsimp only at hSw); go_simp; try with_reducible rfl)
              try simp only [Act.put, List.setIfInBounds_toArray, List.set_cons_zero, List.set_cons_succ]
              refine wpAnyH_take (i := 6) (oi := { dst := some 70, op := Op.move (Operand.tmp 1), type := 23, pos := "law.go:91", after := #[], guard := none }) (v := ?_) rfl (by kernel_rfl) (by kernel_rfl) (by kernel_rfl) (fun _ _ _ h => h) (Or.inl ⟨by rfl, ?_⟩) (by assumption) ?_
              rotate_left
              · (intro w hSw; (try dsimp only at hSw); go_simp; try with_reducible rfl)
              try simp only [Act.put, List.setIfInBounds_toArray, List.set_cons_zero, List.set_cons_succ]
              refine wpAnyH_take (i := 7) (oi := { dst := some 71, op := Op.move (Operand.tmp 7), type := 3, pos := "law.go:91", after := #[], guard := none }) (v := ?_) rfl (by kernel_rfl) (by kernel_rfl) (by kernel_rfl) (fun _ _ _ h => h) (Or.inl ⟨by rfl, ?_⟩) (by assumption) ?_
              rotate_left
              · (intro w hSw; (try dsimp only at hSw); go_simp; try with_reducible rfl)
              try simp only [Act.put, List.setIfInBounds_toArray, List.set_cons_zero, List.set_cons_succ]
              refine wpAnyH_take (i := 8) (oi := { dst := some 72, op := Op.indexAddr 23 (Operand.tmp 70) (Operand.tmp 71), type := 0, pos := "law.go:91", after := #[{ on := 6, ground := Ground.data }, { on := 7, ground := Ground.data }], guard := none }) (v := ?_) rfl (by kernel_rfl) (by kernel_rfl) (by kernel_rfl) (fun _ _ _ h => h) (Or.inl ⟨by rfl, ?_⟩) (by assumption) ?_
              rotate_left
              · (intro w hSw; (try dsimp only at hSw); go_simp; try with_reducible rfl)
              try simp only [Act.put, List.setIfInBounds_toArray, List.set_cons_zero, List.set_cons_succ]
              refine wpAnyH_take (i := 9) (oi := { dst := some 73, op := Op.fieldAddr 32 (Operand.tmp 72) 2, type := 0, pos := "law.go:91", after := #[{ on := 8, ground := Ground.data }], guard := none }) (v := ?_) rfl (by kernel_rfl) (by kernel_rfl) (by kernel_rfl) (fun _ _ _ h => h) (Or.inl ⟨by rfl, ?_⟩) (by assumption) ?_
              rotate_left
              · (intro w hSw; (try dsimp only at hSw); go_simp; try with_reducible rfl)
              try simp only [Act.put, List.setIfInBounds_toArray, List.set_cons_zero, List.set_cons_succ]
              refine wpAnyH_take (i := 10) (oi := { dst := some 74, op := Op.load 30 (Operand.tmp 73), type := 30, pos := "law.go:91", after := #[{ on := 9, ground := Ground.data }], guard := none }) (v := ?_) rfl (by kernel_rfl) (by kernel_rfl) (by kernel_rfl) (fun _ _ _ h => h) (Or.inl ⟨by rfl, ?_⟩) (by assumption) ?_
              rotate_left
              · (intro w hSw; (try dsimp only at hSw); go_simp; try with_reducible rfl)
              try simp only [Act.put, List.setIfInBounds_toArray, List.set_cons_zero, List.set_cons_succ]
              refine wpAnyH_ready (rs := [0]) (by kernel_rfl) (by simp) ?_
              refine AllReadyH.cons (o := { dst := some 64, op := Op.load 29 (Operand.tmp 6), type := 29, pos := "law.go:91", after := #[], guard := none }) rfl (fun K hK => ?_) AllReadyH.nil
              go_simp
              replace HT := Lib.hid (HTEN.out _ HKe.out)
              first | (with_reducible refine hK.out _ _ ?_ (fun hHeld => ?_)) | (go_wp2_with fail; with_reducible refine hK.out _ _ ?_ (fun hHeld => ?_))
              · (try dsimp only); with_reducible exact HT.out
              clear hK K
              try simp only [Act.put, List.setIfInBounds_toArray, List.set_cons_zero, List.set_cons_succ]
              refine wpAnyH_ready (rs := [11]) (by kernel_rfl) (by simp) ?_
              refine AllReadyH.cons (o := { dst := some 75, op := Op.call { callee := Callee.value (Operand.func 8), args := #[Operand.tmp 64, Operand.tmp 69, Operand.tmp 74], argTypes := #[29, 3, 30] }, type := 33, pos := "law.go:91", after := #[{ on := 0, ground := Ground.data }, { on := 5, ground := Ground.data }, { on := 10, ground := Ground.data }], guard := none }) rfl (fun K hK => ?_) AllReadyH.nil
              go_simp
              (go_at_call 8; refine (HRf.out _ (by exact HRA.out.kept (S := NoB) ((Kept.refl _ _).drew) (fun _ _ h => h)) (by exact hFr.out)).mono ?_; rintro e w3 ⟨v3, rfl, hv3, hk3⟩; have HV3 := Lib.hid hv3; obtain ⟨ok3, b3, rfl, a3, cap3, rfl, hb3⟩ := hv3; have c30 := hk3.cell (p := ⟨gr, 0, none⟩) (fun h => h) (cell_drew c0); have c31 := hk3.cell (p := ⟨gr, 1, none⟩) (fun h => h) (cell_drew c1); have f30 : w3.frozen? ⟨gr, 0, none⟩ = false := (World.frozen?_of_block (hk3.block gr hgrl (fun h => h))).trans (frozen_drew f0); have f31 : w3.frozen? ⟨gr, 1, none⟩ = false := (World.frozen?_of_block (hk3.block gr hgrl (fun h => h))).trans (frozen_drew f1))
              replace HKe := Lib.hid (HKe.out.trans hk3 (fun _ _ h => absurd h (fun h => h)))
              replace HT := Lib.hid (HTEN.out _ HKe.out)
              first | (with_reducible refine hK.out _ _ ?_ (fun hHeld => ?_)) | (go_wp2_with fail; with_reducible refine hK.out _ _ ?_ (fun hHeld => ?_))
              · (try dsimp only); with_reducible exact HT.out
              clear hK K
              try simp only [Act.put, List.setIfInBounds_toArray, List.set_cons_zero, List.set_cons_succ]
              refine wpAnyH_take (i := 12) (oi := { dst := some 63, op := Op.move (Operand.tmp 75), type := 33, pos := "law.go:91", after := #[{ on := 11, ground := Ground.data }], guard := none }) (v := ?_) rfl (by kernel_rfl) (by kernel_rfl) (by kernel_rfl) (fun _ _ _ h => h) (Or.inl ⟨by rfl, ?_⟩) (by assumption) ?_
              rotate_left
              · (intro w hSw; (try dsimp only at hSw); go_simp; try with_reducible rfl)
              try simp only [Act.put, List.setIfInBounds_toArray, List.set_cons_zero, List.set_cons_succ]
              refine wpAnyH_take (i := 13) (oi := { dst := some 76, op := Op.extract (Operand.tmp 63) 0, type := 29, pos := "law.go:91", after := #[{ on := 12, ground := Ground.data }], guard := none }) (v := ?_) rfl (by kernel_rfl) (by kernel_rfl) (by kernel_rfl) (fun _ _ _ h => h) (Or.inl ⟨by rfl, ?_⟩) (by assumption) ?_
              rotate_left
              · (intro w hSw; (try dsimp only at hSw); go_simp; try with_reducible rfl)
              try simp only [Act.put, List.setIfInBounds_toArray, List.set_cons_zero, List.set_cons_succ]
              refine wpAnyH_take (i := 14) (oi := { dst := some 77, op := Op.extract (Operand.tmp 63) 1, type := 30, pos := "law.go:91", after := #[{ on := 12, ground := Ground.data }, { on := 15, ground := Ground.gcOnly Departure.lateStores }], guard := none }) (v := ?_) rfl (by kernel_rfl) (by kernel_rfl) (by kernel_rfl) (fun _ _ _ h => h) (Or.inl ⟨by rfl, ?_⟩) (by assumption) ?_
              rotate_left
              · (intro w hSw; (try dsimp only at hSw); go_simp; try with_reducible rfl)
              try simp only [Act.put, List.setIfInBounds_toArray, List.set_cons_zero, List.set_cons_succ]
              refine wpAnyH_ready (rs := [15]) (by kernel_rfl) (by simp) ?_
              refine AllReadyH.cons (o := { dst := none, op := Op.store 29 (Operand.tmp 6) (Operand.tmp 76), type := 0, pos := "law.go:91", after := #[{ on := 13, ground := Ground.data }, { on := 11, ground := Ground.chain }, { on := 0, ground := Ground.phase }, { on := 1, ground := Ground.phase }, { on := 2, ground := Ground.phase }, { on := 3, ground := Ground.phase }, { on := 4, ground := Ground.phase }, { on := 5, ground := Ground.phase }, { on := 6, ground := Ground.phase }, { on := 7, ground := Ground.phase }, { on := 8, ground := Ground.phase }, { on := 9, ground := Ground.phase }, { on := 10, ground := Ground.phase }, { on := 11, ground := Ground.phase }, { on := 12, ground := Ground.phase }, { on := 13, ground := Ground.phase }, { on := 14, ground := Ground.textOnly Departure.lateStores }], guard := none }) rfl (fun K hK => ?_) AllReadyH.nil
              go_simp
              replace HKe := Lib.hid ((HKe.out.only 0 (.slice a3 s1.l.length cap3)).only 1 (.int .i64 s1.err))
              replace HT := Lib.hid (HTEN.out _ HKe.out)
              first | (with_reducible refine hK.out _ _ ?_ (fun hHeld => ?_)) | (go_wp2_with fail; with_reducible refine hK.out _ _ ?_ (fun hHeld => ?_))
              · (try dsimp only); with_reducible exact HT.out
              clear hK K
              try simp only [Act.put, List.setIfInBounds_toArray, List.set_cons_zero, List.set_cons_succ]
              refine wpAnyH_take (i := 16) (oi := { dst := some 9, op := Op.assign (Operand.tmp 77), type := 30, pos := "law.go:91", after := #[{ on := 14, ground := Ground.data }, { on := 15, ground := Ground.chain }, { on := 0, ground := Ground.phase }, { on := 1, ground := Ground.phase }, { on := 2, ground := Ground.phase }, { on := 3, ground := Ground.phase }, { on := 4, ground := Ground.phase }, { on := 5, ground := Ground.phase }, { on := 6, ground := Ground.phase }, { on := 7, ground := Ground.phase }, { on := 8, ground := Ground.phase }, { on := 9, ground := Ground.phase }, { on := 10, ground := Ground.phase }, { on := 11, ground := Ground.phase }, { on := 12, ground := Ground.phase }, { on := 13, ground := Ground.phase }, { on := 14, ground := Ground.phase }, { on := 15, ground := Ground.phase }], guard := none }) (v := ?_) rfl (by kernel_rfl) (by kernel_rfl) (by kernel_rfl) (fun _ _ _ h => h) (Or.inl ⟨by rfl, ?_⟩) (by assumption) ?_
              rotate_left
              · (intro w hSw; (try dsimp only at hSw); go_simp; try with_reducible rfl)
              try simp only [Act.put, List.setIfInBounds_toArray, List.set_cons_zero, List.set_cons_succ]
              refine wpAnyH_done (by kernel_rfl) ?_ _
              refine NoPanic.normal ?_
              have hk4 : Kept NoB wr w3 := ⟨hk3.os, hk3.tape, hk3.output, hk3.size, hk3.block⟩
              have e10 := hk4.cell (p := ⟨b, o + j * 3 + 1, none⟩) (fun h => h) e1
              have e20 := hk4.cell (p := ⟨b, o + j * 3 + 2, none⟩) (fun h => h) e2
              have HI3 := Lib.hid (HI.out.kept hk4 (fun _ _ h => h) (fun h => h))
              have HR3 := Lib.hid ((HR.out.kept hk4 (fun _ _ h => h) (fun h => h)).store HV3.out (by omega))
              have HK3 := Lib.hid (HK.out.trans hk4 (fun _ _ h => h))
              have hkS : Kept (Only gr) w3 ((w3.setCell ⟨gr, 0, none⟩ (.slice a3 s1.l.length cap3)).setCell ⟨gr, 1, none⟩ (.int .i64 s1.err)) := ((Kept.refl _ _).only 0 _).only 1 _
              have HKS := Lib.hid hkS
              have HI4 := Lib.hid (HI3.out.kept hkS (fun k hx h => by have e : k = gr := h; have := hx.2; omega) (fun h => by have e : gi = gr := h; omega))
              have HK4 := Lib.hid (HK3.out.trans hkS (fun i hi h => by have e : i = gr := h; omega))
              have E1 := HKS.out.cell (p := ⟨b, o + j * 3 + 1, none⟩) (fun h => hgb (by have e : b = gr := h; exact e.symm)) e10
              have E2 := HKS.out.cell (p := ⟨b, o + j * 3 + 2, none⟩) (fun h => hgb (by have e : b = gr := h; exact e.symm)) e20
              clear hk3 hk4 hkS hb3 ok3
              go_wp2_with fail
              go_region_held3 (fun w' => w'.cell? ⟨b, o + j * 3 + 1, none⟩ = some (.int .i64 width) ∧ w'.cell? ⟨b, o + j * 3 + 2, none⟩ = some (.int .u64 most))
                (first
                  | exact ⟨cell_drew E1, cell_drew E2⟩
                  | exact ⟨q1, q2⟩
                  | go_keep)
                ((go_at_call 9; refine (HPr.out _ _ (by exact HI4.out.kept (S := NoB) ((Kept.refl _ _).drew) (fun _ _ h => h) (fun h => h))).mono ?_; rintro e w5 ⟨rfl, hI5, hk5⟩; replace hk5 := (Kept.refl (Only gi) ((w3.setCell ⟨gr, 0, none⟩ (.slice a3 s1.l.length cap3)).setCell ⟨gr, 1, none⟩ (.int .i64 s1.err))).drew.trans hk5 (fun _ _ h => h); have q1 := hk5.cell (p := ⟨b, o + j * 3 + 1, none⟩) (fun h => by have e : b = gi := h; omega) E1; have q2 := hk5.cell (p := ⟨b, o + j * 3 + 2, none⟩) (fun h => by have e : b = gi := h; omega) E2))
              have HR5 := HR3.out.kept hk5 (fun k hx h => by have e : k = gi := h; omega) (fun h => by have e : gr = gi := h; omega)
              have HK5 := HK4.out.trans hk5 (fun i hi h => by have e : i = gi := h; omega)
              go_wp2_with fail
              go_meet
              exact ⟨s1, n1, [], false, NoB, NoB, rfl, rfl, BSl.nil _ _, BSl.nil _ _, rfl, rfl, hI5, HR5, HK5⟩
          · have h1b : (kind == 1) = false := by simpa using h1
            by_cases h2 : kind = 2
            · subst h2
              clear h0 h0b h1 h1b
              as_aux_lemma =>
                have HRf := Lib.hid (fun W h1 h2 => RRaw_any (.agg #[.slice ra s.l.length rcap, .int .i64 s.err]) s width (fun k => k < w.heap.size) W h1 h2 hwid)
                have HPr := Lib.hid (fun F W h => InRaw_any gi s width F W h hwid)
                generalize (s.raw width).1 = s1 at *
                generalize (s.raw width).2 = L at *
                go_wp2_with fail
                have c0d : wr.drew.cell? ⟨gr, 0, none⟩ = _ := cell_drew c0
                have c1d : wr.drew.cell? ⟨gr, 1, none⟩ = _ := cell_drew c1
                have HTEN : Hid (∀ w', Kept (Only gr) wr w' → w'.cell? ⟨b, o + j * 3 + 1, none⟩ = some (.int .i64 width) ∧ w'.cell? ⟨b, o + j * 3 + 2, none⟩ = some (.int .u64 most)) := Lib.hid (fun w' hk => ⟨hk.cell (p := ⟨b, o + j * 3 + 1, none⟩) (fun h => hgb (by have e : b = gr := h; exact e.symm)) e1, hk.cell (p := ⟨b, o + j * 3 + 2, none⟩) (fun h => hgb (by have e : b = gr := h; exact e.symm)) e2⟩)
                have HKe := Lib.hid (Kept.refl (Only gr) wr).drew
                have HT := Lib.hid (HTEN.out _ HKe.out)
                refine wp_region_noPanic ?_
                refine wp_region_held_drew (S := (fun w' => w'.cell? ⟨b, o + j * 3 + 1, none⟩ = some (.int .i64 width) ∧ w'.cell? ⟨b, o + j * 3 + 2, none⟩ = some (.int .u64 most))) (by kernel_rfl) ?_ (fun hHeld => ?_)
                · (try dsimp only); with_reducible exact HT.out
                refine wpAnyH_take (i := 1) (oi := { dst := some 94, op := Op.move (Operand.tmp 1), type := 23, pos := "law.go:94", after := #[], guard := none }) (v := ?_) rfl (by kernel_rfl) (by kernel_rfl) (by kernel_rfl) (fun _ _ _ h => h) (Or.inl ⟨by rfl, ?_⟩) (by assumption) ?_
                rotate_left
                · (intro w hSw; (try dsimp only at hSw); go_simp; try with_reducible rfl)
                try simp only [Act.put, List.setIfInBounds_toArray, List.set_cons_zero, List.set_cons_succ]
                refine wpAnyH_take (i := 2) (oi := { dst := some 95, op := Op.move (Operand.tmp 7), type := 3, pos := "law.go:94", after := #[], guard := none }) (v := ?_) rfl (by kernel_rfl) (by kernel_rfl) (by kernel_rfl) (fun _ _ _ h => h) (Or.inl ⟨by rfl, ?_⟩) (by assumption) ?_
                rotate_left
                · (intro w hSw; (try dsimp only at hSw); go_simp; try with_reducible rfl)
                try simp only [Act.put, List.setIfInBounds_toArray, List.set_cons_zero, List.set_cons_succ]
                refine wpAnyH_take (i := 3) (oi := { dst := some 96, op := Op.indexAddr 23 (Operand.tmp 94) (Operand.tmp 95), type := 0, pos := "law.go:94", after := #[{ on := 1, ground := Ground.data }, { on := 2, ground := Ground.data }], guard := none }) (v := ?_) rfl (by kernel_rfl) (by kernel_rfl) (by kernel_rfl) (fun _ _ _ h => h) (Or.inl ⟨by rfl, ?_⟩) (by assumption) ?_
                rotate_left
                · (intro w hSw; (try dsimp only at hSw); go_simp; try with_reducible rfl)
                try simp only [Act.put, List.setIfInBounds_toArray, List.set_cons_zero, List.set_cons_succ]
                refine wpAnyH_take (i := 4) (oi := { dst := some 97, op := Op.fieldAddr 32 (Operand.tmp 96) 1, type := 0, pos := "law.go:94", after := #[{ on := 3, ground := Ground.data }], guard := none }) (v := ?_) rfl (by kernel_rfl) (by kernel_rfl) (by kernel_rfl) (fun _ _ _ h => h) (Or.inl ⟨by rfl, ?_⟩) (by assumption) ?_
                rotate_left
                · (intro w hSw; (try dsimp only at hSw); go_simp; try with_reducible rfl)
                try simp only [Act.put, List.setIfInBounds_toArray, List.set_cons_zero, List.set_cons_succ]
                refine wpAnyH_take (i := 5) (oi := { dst := some 98, op := Op.load 3 (Operand.tmp 97), type := 3, pos := "law.go:94", after := #[{ on := 4, ground := Ground.data }], guard := none }) (v := ?_) rfl (by kernel_rfl) (by kernel_rfl) (by kernel_rfl) (fun _ _ _ h => h) (Or.inl ⟨by rfl, ?_⟩) (by assumption) ?_
                rotate_left
                · (intro w hSw; (try dsimp only at hSw); go_simp; try with_reducible rfl)
                try simp only [Act.put, List.setIfInBounds_toArray, List.set_cons_zero, List.set_cons_succ]
                refine wpAnyH_ready (rs := [0]) (by kernel_rfl) (by simp) ?_
                refine AllReadyH.cons (o := { dst := some 93, op := Op.load 29 (Operand.tmp 6), type := 29, pos := "law.go:94", after := #[], guard := none }) rfl (fun K hK => ?_) AllReadyH.nil
                go_simp
                replace HT := Lib.hid (HTEN.out _ HKe.out)
                first | (with_reducible refine hK.out _ _ ?_ (fun hHeld => ?_)) | (go_wp2_with fail; with_reducible refine hK.out _ _ ?_ (fun hHeld => ?_))
                · (try dsimp only); with_reducible exact HT.out
                clear hK K
                try simp only [Act.put, List.setIfInBounds_toArray, List.set_cons_zero, List.set_cons_succ]
                refine wpAnyH_ready (rs := [6]) (by kernel_rfl) (by simp) ?_
                refine AllReadyH.cons (o := { dst := some 99, op := Op.call { callee := Callee.value (Operand.func 10), args := #[Operand.tmp 93, Operand.tmp 98], argTypes := #[29, 3] }, type := 38, pos := "law.go:94", after := #[{ on := 0, ground := Ground.data }, { on := 5, ground := Ground.data }], guard := none }) rfl (fun K hK => ?_) AllReadyH.nil
                go_simp
                (go_at_call 10; refine (HRf.out _ (by exact HRA.out.kept (S := NoB) ((Kept.refl _ _).drew) (fun _ _ h => h)) (by exact hFr.out)).mono ?_; rintro e w3 ⟨v3, y3, rfl, hv3, hy3, hk3⟩; have HY3 := Lib.hid hy3; obtain ⟨ya, yc, rfl, _⟩ := hy3; have HV3 := Lib.hid hv3; obtain ⟨ok3, b3, rfl, a3, cap3, rfl, hb3⟩ := hv3; have c30 := hk3.cell (p := ⟨gr, 0, none⟩) (fun h => h) (cell_drew c0); have c31 := hk3.cell (p := ⟨gr, 1, none⟩) (fun h => h) (cell_drew c1); have f30 : w3.frozen? ⟨gr, 0, none⟩ = false := (World.frozen?_of_block (hk3.block gr hgrl (fun h => h))).trans (frozen_drew f0); have f31 : w3.frozen? ⟨gr, 1, none⟩ = false := (World.frozen?_of_block (hk3.block gr hgrl (fun h => h))).trans (frozen_drew f1))
                replace HKe := Lib.hid (HKe.out.trans hk3 (fun _ _ h => absurd h (fun h => h)))
                replace HT := Lib.hid (HTEN.out _ HKe.out)
                first | (with_reducible refine hK.out _ _ ?_ (fun hHeld => ?_)) | (go_wp2_with fail; with_reducible refine hK.out _ _ ?_ (fun hHeld => ?_))
                · (try dsimp only); with_reducible exact HT.out
                clear hK K
                try simp only [Act.put, List.setIfInBounds_toArray, List.set_cons_zero, List.set_cons_succ]
                refine wpAnyH_take (i := 7) (oi := { dst := some 92, op := Op.move (Operand.tmp 99), type := 38, pos := "law.go:94", after := #[{ on := 6, ground := Ground.data }], guard := none }) (v := ?_) rfl (by kernel_rfl) (by kernel_rfl) (by kernel_rfl) (fun _ _ _ h => h) (Or.inl ⟨by rfl, ?_⟩) (by assumption) ?_
                rotate_left
                · (intro w hSw; (try dsimp only at hSw); go_simp; try with_reducible rfl)
                try simp only [Act.put, List.setIfInBounds_toArray, List.set_cons_zero, List.set_cons_succ]
                refine wpAnyH_take (i := 8) (oi := { dst := some 100, op := Op.extract (Operand.tmp 92) 0, type := 29, pos := "law.go:94", after := #[{ on := 7, ground := Ground.data }], guard := none }) (v := ?_) rfl (by kernel_rfl) (by kernel_rfl) (by kernel_rfl) (fun _ _ _ h => h) (Or.inl ⟨by rfl, ?_⟩) (by assumption) ?_
                rotate_left
                · (intro w hSw; (try dsimp only at hSw); go_simp; try with_reducible rfl)
                try simp only [Act.put, List.setIfInBounds_toArray, List.set_cons_zero, List.set_cons_succ]
                refine wpAnyH_take (i := 9) (oi := { dst := some 101, op := Op.extract (Operand.tmp 92) 1, type := 22, pos := "law.go:94", after := #[{ on := 7, ground := Ground.data }, { on := 10, ground := Ground.gcOnly Departure.lateStores }], guard := none }) (v := ?_) rfl (by kernel_rfl) (by kernel_rfl) (by kernel_rfl) (fun _ _ _ h => h) (Or.inl ⟨by rfl, ?_⟩) (by assumption) ?_
                rotate_left
                · (intro w hSw; (try dsimp only at hSw); go_simp; try with_reducible rfl)
                try simp only [Act.put, List.setIfInBounds_toArray, List.set_cons_zero, List.set_cons_succ]
                refine wpAnyH_ready (rs := [10]) (by kernel_rfl) (by simp) ?_
                refine AllReadyH.cons (o := { dst := none, op := Op.store 29 (Operand.tmp 6) (Operand.tmp 100), type := 0, pos := "law.go:94", after := #[{ on := 8, ground := Ground.data }, { on := 6, ground := Ground.chain }, { on := 0, ground := Ground.phase }, { on := 1, ground := Ground.phase }, { on := 2, ground := Ground.phase }, { on := 3, ground := Ground.phase }, { on := 4, ground := Ground.phase }, { on := 5, ground := Ground.phase }, { on := 6, ground := Ground.phase }, { on := 7, ground := Ground.phase }, { on := 8, ground := Ground.phase }, { on := 9, ground := Ground.textOnly Departure.lateStores }], guard := none }) rfl (fun K hK => ?_) AllReadyH.nil
                go_simp
                replace HKe := Lib.hid ((HKe.out.only 0 (.slice a3 s1.l.length cap3)).only 1 (.int .i64 s1.err))
                replace HT := Lib.hid (HTEN.out _ HKe.out)
                first | (with_reducible refine hK.out _ _ ?_ (fun hHeld => ?_)) | (go_wp2_with fail; with_reducible refine hK.out _ _ ?_ (fun hHeld => ?_))
                · (try dsimp only); with_reducible exact HT.out
                clear hK K
                try simp only [Act.put, List.setIfInBounds_toArray, List.set_cons_zero, List.set_cons_succ]
                refine wpAnyH_take (i := 11) (oi := { dst := some 11, op := Op.assign (Operand.tmp 101), type := 22, pos := "law.go:94", after := #[{ on := 9, ground := Ground.data }, { on := 10, ground := Ground.chain }, { on := 0, ground := Ground.phase }, { on := 1, ground := Ground.phase }, { on := 2, ground := Ground.phase }, { on := 3, ground := Ground.phase }, { on := 4, ground := Ground.phase }, { on := 5, ground := Ground.phase }, { on := 6, ground := Ground.phase }, { on := 7, ground := Ground.phase }, { on := 8, ground := Ground.phase }, { on := 9, ground := Ground.phase }, { on := 10, ground := Ground.phase }], guard := none }) (v := ?_) rfl (by kernel_rfl) (by kernel_rfl) (by kernel_rfl) (fun _ _ _ h => h) (Or.inl ⟨by rfl, ?_⟩) (by assumption) ?_
                rotate_left
                · (intro w hSw; (try dsimp only at hSw); go_simp; try with_reducible rfl)
                try simp only [Act.put, List.setIfInBounds_toArray, List.set_cons_zero, List.set_cons_succ]
                refine wpAnyH_done (by kernel_rfl) ?_ _
                refine NoPanic.normal ?_
                have hk4 : Kept NoB wr w3 := ⟨hk3.os, hk3.tape, hk3.output, hk3.size, hk3.block⟩
                have e10 := hk4.cell (p := ⟨b, o + j * 3 + 1, none⟩) (fun h => h) e1
                have e20 := hk4.cell (p := ⟨b, o + j * 3 + 2, none⟩) (fun h => h) e2
                have HI3 := Lib.hid (HI.out.kept hk4 (fun _ _ h => h) (fun h => h))
                have HR3 := Lib.hid ((HR.out.kept hk4 (fun _ _ h => h) (fun h => h)).store HV3.out (by omega))
                have HK3 := Lib.hid (HK.out.trans hk4 (fun _ _ h => h))
                have hkS : Kept (Only gr) w3 ((w3.setCell ⟨gr, 0, none⟩ (.slice a3 s1.l.length cap3)).setCell ⟨gr, 1, none⟩ (.int .i64 s1.err)) := ((Kept.refl _ _).only 0 _).only 1 _
                have HKS := Lib.hid hkS
                have HI4 := Lib.hid (HI3.out.kept hkS (fun k hx h => by have e : k = gr := h; have := hx.2; omega) (fun h => by have e : gi = gr := h; omega))
                have HK4 := Lib.hid (HK3.out.trans hkS (fun i hi h => by have e : i = gr := h; omega))
                have HY4 := Lib.hid (HY3.out.kept hkS (fun k hx h => by have e : k = gr := h; omega))
                clear hk3 hk4 hkS hb3 ok3
                go_wp2_with fail
                refine (HPr.out _ _ HI4.out).mono ?_
                rintro e w5 ⟨x5, rfl, hI5, hx5, hk5⟩
                have HX5 := Lib.hid hx5
                have HY5 := Lib.hid (HY4.out.kept hk5 (fun k hx h => by have e : k = gi := h; omega))
                obtain ⟨xa, xc, rfl, _⟩ := hx5
                have HR5 := HR3.out.kept hk5 (fun k hx h => by have e : k = gi := h; omega) (fun h => by have e : gr = gi := h; omega)
                have HK5 := HK4.out.trans hk5 (fun i hi h => by have e : i = gi := h; omega)
                go_wp2_with fail
                go_meet
                exact ⟨s1, 0, L, false, (fun k => w.heap.size ≤ k ∧ k < gi), (fun k => k < w.heap.size), rfl, rfl, HX5.out, HY5.out, rfl, rfl, hI5, HR5, HK5⟩
            · have h2b : (kind == 2) = false := by simpa using h2
              by_cases h3 : kind = 3
              · subst h3
                clear h0 h0b h1 h1b h2 h2b
                as_aux_lemma =>
                  have HRf := Lib.hid (fun W h1 h2 => RRead_any (.agg #[.slice ra s.l.length rcap, .int .i64 s.err]) s width (fun k => k < w.heap.size) W h1 h2)
                  have HPr := Lib.hid (fun F W h => InText_any gi s width F W h)
                  generalize (s.text width).1 = s1 at *
                  generalize (s.text width).2 = L at *
                  go_wp2_with fail
                  have c0d : wr.drew.cell? ⟨gr, 0, none⟩ = _ := cell_drew c0
                  have c1d : wr.drew.cell? ⟨gr, 1, none⟩ = _ := cell_drew c1
                  have HTEN : Hid (∀ w', Kept (Only gr) wr w' → w'.cell? ⟨b, o + j * 3 + 1, none⟩ = some (.int .i64 width) ∧ w'.cell? ⟨b, o + j * 3 + 2, none⟩ = some (.int .u64 most)) := Lib.hid (fun w' hk => ⟨hk.cell (p := ⟨b, o + j * 3 + 1, none⟩) (fun h => hgb (by have e : b = gr := h; exact e.symm)) e1, hk.cell (p := ⟨b, o + j * 3 + 2, none⟩) (fun h => hgb (by have e : b = gr := h; exact e.symm)) e2⟩)
                  have HKe := Lib.hid (Kept.refl (Only gr) wr).drew
                  have HT := Lib.hid (HTEN.out _ HKe.out)
                  refine wp_region_noPanic ?_
                  refine wp_region_held_drew (S := (fun w' => w'.cell? ⟨b, o + j * 3 + 1, none⟩ = some (.int .i64 width) ∧ w'.cell? ⟨b, o + j * 3 + 2, none⟩ = some (.int .u64 most))) (by kernel_rfl) ?_ (fun hHeld => ?_)
                  · (try dsimp only); with_reducible exact HT.out
                  refine wpAnyH_take (i := 1) (oi := { dst := some 113, op := Op.move (Operand.tmp 1), type := 23, pos := "law.go:97", after := #[], guard := none }) (v := ?_) rfl (by kernel_rfl) (by kernel_rfl) (by kernel_rfl) (fun _ _ _ h => h) (Or.inl ⟨by rfl, ?_⟩) (by assumption) ?_
                  rotate_left
                  · (intro w hSw; (try dsimp only at hSw); go_simp; try with_reducible rfl)
                  try simp only [Act.put, List.setIfInBounds_toArray, List.set_cons_zero, List.set_cons_succ]
                  refine wpAnyH_take (i := 2) (oi := { dst := some 114, op := Op.move (Operand.tmp 7), type := 3, pos := "law.go:97", after := #[], guard := none }) (v := ?_) rfl (by kernel_rfl) (by kernel_rfl) (by kernel_rfl) (fun _ _ _ h => h) (Or.inl ⟨by rfl, ?_⟩) (by assumption) ?_
                  rotate_left
                  · (intro w hSw; (try dsimp only at hSw); go_simp; try with_reducible rfl)
                  try simp only [Act.put, List.setIfInBounds_toArray, List.set_cons_zero, List.set_cons_succ]
                  refine wpAnyH_take (i := 3) (oi := { dst := some 115, op := Op.indexAddr 23 (Operand.tmp 113) (Operand.tmp 114), type := 0, pos := "law.go:97", after := #[{ on := 1, ground := Ground.data }, { on := 2, ground := Ground.data }], guard := none }) (v := ?_) rfl (by kernel_rfl) (by kernel_rfl) (by kernel_rfl) (fun _ _ _ h => h) (Or.inl ⟨by rfl, ?_⟩) (by assumption) ?_
                  rotate_left
                  · (intro w hSw; (try dsimp only at hSw); go_simp; try with_reducible rfl)
                  try simp only [Act.put, List.setIfInBounds_toArray, List.set_cons_zero, List.set_cons_succ]
                  refine wpAnyH_take (i := 4) (oi := { dst := some 116, op := Op.fieldAddr 32 (Operand.tmp 115) 1, type := 0, pos := "law.go:97", after := #[{ on := 3, ground := Ground.data }], guard := none }) (v := ?_) rfl (by kernel_rfl) (by kernel_rfl) (by kernel_rfl) (fun _ _ _ h => h) (Or.inl ⟨by rfl, ?_⟩) (by assumption) ?_
                  rotate_left
                  · (intro w hSw; (try dsimp only at hSw); go_simp; try with_reducible rfl)
                  try simp only [Act.put, List.setIfInBounds_toArray, List.set_cons_zero, List.set_cons_succ]
                  refine wpAnyH_take (i := 5) (oi := { dst := some 117, op := Op.load 3 (Operand.tmp 116), type := 3, pos := "law.go:97", after := #[{ on := 4, ground := Ground.data }], guard := none }) (v := ?_) rfl (by kernel_rfl) (by kernel_rfl) (by kernel_rfl) (fun _ _ _ h => h) (Or.inl ⟨by rfl, ?_⟩) (by assumption) ?_
                  rotate_left
                  · (intro w hSw; (try dsimp only at hSw); go_simp; try with_reducible rfl)
                  try simp only [Act.put, List.setIfInBounds_toArray, List.set_cons_zero, List.set_cons_succ]
                  refine wpAnyH_ready (rs := [0]) (by kernel_rfl) (by simp) ?_
                  refine AllReadyH.cons (o := { dst := some 112, op := Op.load 29 (Operand.tmp 6), type := 29, pos := "law.go:97", after := #[], guard := none }) rfl (fun K hK => ?_) AllReadyH.nil
                  go_simp
                  replace HT := Lib.hid (HTEN.out _ HKe.out)
                  first | (with_reducible refine hK.out _ _ ?_ (fun hHeld => ?_)) | (go_wp2_with fail; with_reducible refine hK.out _ _ ?_ (fun hHeld => ?_))
                  · (try dsimp only); with_reducible exact HT.out
                  clear hK K
                  try simp only [Act.put, List.setIfInBounds_toArray, List.set_cons_zero, List.set_cons_succ]
                  refine wpAnyH_ready (rs := [6]) (by kernel_rfl) (by simp) ?_
                  refine AllReadyH.cons (o := { dst := some 118, op := Op.call { callee := Callee.value (Operand.func 12), args := #[Operand.tmp 112, Operand.tmp 117], argTypes := #[29, 3] }, type := 38, pos := "law.go:97", after := #[{ on := 0, ground := Ground.data }, { on := 5, ground := Ground.data }], guard := none }) rfl (fun K hK => ?_) AllReadyH.nil
                  go_simp
                  (go_at_call 12; refine (HRf.out _ (by exact HRA.out.kept (S := NoB) ((Kept.refl _ _).drew) (fun _ _ h => h)) (by exact hFr.out)).mono ?_; rintro e w3 ⟨v3, y3, rfl, hv3, hy3, hk3⟩; have HY3 := Lib.hid hy3; obtain ⟨ya, yc, rfl, _⟩ := hy3; have HV3 := Lib.hid hv3; obtain ⟨ok3, b3, rfl, a3, cap3, rfl, hb3⟩ := hv3; have c30 := hk3.cell (p := ⟨gr, 0, none⟩) (fun h => h) (cell_drew c0); have c31 := hk3.cell (p := ⟨gr, 1, none⟩) (fun h => h) (cell_drew c1); have f30 : w3.frozen? ⟨gr, 0, none⟩ = false := (World.frozen?_of_block (hk3.block gr hgrl (fun h => h))).trans (frozen_drew f0); have f31 : w3.frozen? ⟨gr, 1, none⟩ = false := (World.frozen?_of_block (hk3.block gr hgrl (fun h => h))).trans (frozen_drew f1))
                  replace HKe := Lib.hid (HKe.out.trans hk3 (fun _ _ h => absurd h (fun h => h)))
                  replace HT := Lib.hid (HTEN.out _ HKe.out)
                  first | (with_reducible refine hK.out _ _ ?_ (fun hHeld => ?_)) | (go_wp2_with fail; with_reducible refine hK.out _ _ ?_ (fun hHeld => ?_))
                  · (try dsimp only); with_reducible exact HT.out
                  clear hK K
                  try simp only [Act.put, List.setIfInBounds_toArray, List.set_cons_zero, List.set_cons_succ]
                  refine wpAnyH_take (i := 7) (oi := { dst := some 111, op := Op.move (Operand.tmp 118), type := 38, pos := "law.go:97", after := #[{ on := 6, ground := Ground.data }], guard := none }) (v := ?_) rfl (by kernel_rfl) (by kernel_rfl) (by kernel_rfl) (fun _ _ _ h => h) (Or.inl ⟨by rfl, ?_⟩) (by assumption) ?_
                  rotate_left
                  · (intro w hSw; (try dsimp only at hSw); go_simp; try with_reducible rfl)
                  try simp only [Act.put, List.setIfInBounds_toArray, List.set_cons_zero, List.set_cons_succ]
                  refine wpAnyH_take (i := 8) (oi := { dst := some 119, op := Op.extract (Operand.tmp 111) 0, type := 29, pos := "law.go:97", after := #[{ on := 7, ground := Ground.data }], guard := none }) (v := ?_) rfl (by kernel_rfl) (by kernel_rfl) (by kernel_rfl) (fun _ _ _ h => h) (Or.inl ⟨by rfl, ?_⟩) (by assumption) ?_
                  rotate_left
                  · (intro w hSw; (try dsimp only at hSw); go_simp; try with_reducible rfl)
                  try simp only [Act.put, List.setIfInBounds_toArray, List.set_cons_zero, List.set_cons_succ]
                  refine wpAnyH_take (i := 9) (oi := { dst := some 120, op := Op.extract (Operand.tmp 111) 1, type := 22, pos := "law.go:97", after := #[{ on := 7, ground := Ground.data }, { on := 10, ground := Ground.gcOnly Departure.lateStores }], guard := none }) (v := ?_) rfl (by kernel_rfl) (by kernel_rfl) (by kernel_rfl) (fun _ _ _ h => h) (Or.inl ⟨by rfl, ?_⟩) (by assumption) ?_
                  rotate_left
                  · (intro w hSw; (try dsimp only at hSw); go_simp; try with_reducible rfl)
                  try simp only [Act.put, List.setIfInBounds_toArray, List.set_cons_zero, List.set_cons_succ]
                  refine wpAnyH_ready (rs := [10]) (by kernel_rfl) (by simp) ?_
                  refine AllReadyH.cons (o := { dst := none, op := Op.store 29 (Operand.tmp 6) (Operand.tmp 119), type := 0, pos := "law.go:97", after := #[{ on := 8, ground := Ground.data }, { on := 6, ground := Ground.chain }, { on := 0, ground := Ground.phase }, { on := 1, ground := Ground.phase }, { on := 2, ground := Ground.phase }, { on := 3, ground := Ground.phase }, { on := 4, ground := Ground.phase }, { on := 5, ground := Ground.phase }, { on := 6, ground := Ground.phase }, { on := 7, ground := Ground.phase }, { on := 8, ground := Ground.phase }, { on := 9, ground := Ground.textOnly Departure.lateStores }], guard := none }) rfl (fun K hK => ?_) AllReadyH.nil
                  go_simp
                  replace HKe := Lib.hid ((HKe.out.only 0 (.slice a3 s1.l.length cap3)).only 1 (.int .i64 s1.err))
                  replace HT := Lib.hid (HTEN.out _ HKe.out)
                  first | (with_reducible refine hK.out _ _ ?_ (fun hHeld => ?_)) | (go_wp2_with fail; with_reducible refine hK.out _ _ ?_ (fun hHeld => ?_))
                  · (try dsimp only); with_reducible exact HT.out
                  clear hK K
                  try simp only [Act.put, List.setIfInBounds_toArray, List.set_cons_zero, List.set_cons_succ]
                  refine wpAnyH_take (i := 11) (oi := { dst := some 11, op := Op.assign (Operand.tmp 120), type := 22, pos := "law.go:97", after := #[{ on := 9, ground := Ground.data }, { on := 10, ground := Ground.chain }, { on := 0, ground := Ground.phase }, { on := 1, ground := Ground.phase }, { on := 2, ground := Ground.phase }, { on := 3, ground := Ground.phase }, { on := 4, ground := Ground.phase }, { on := 5, ground := Ground.phase }, { on := 6, ground := Ground.phase }, { on := 7, ground := Ground.phase }, { on := 8, ground := Ground.phase }, { on := 9, ground := Ground.phase }, { on := 10, ground := Ground.phase }], guard := none }) (v := ?_) rfl (by kernel_rfl) (by kernel_rfl) (by kernel_rfl) (fun _ _ _ h => h) (Or.inl ⟨by rfl, ?_⟩) (by assumption) ?_
                  rotate_left
                  · (intro w hSw; (try dsimp only at hSw); go_simp; try with_reducible rfl)
                  try simp only [Act.put, List.setIfInBounds_toArray, List.set_cons_zero, List.set_cons_succ]
                  refine wpAnyH_done (by kernel_rfl) ?_ _
                  refine NoPanic.normal ?_
                  have hk4 : Kept NoB wr w3 := ⟨hk3.os, hk3.tape, hk3.output, hk3.size, hk3.block⟩
                  have e10 := hk4.cell (p := ⟨b, o + j * 3 + 1, none⟩) (fun h => h) e1
                  have e20 := hk4.cell (p := ⟨b, o + j * 3 + 2, none⟩) (fun h => h) e2
                  have HI3 := Lib.hid (HI.out.kept hk4 (fun _ _ h => h) (fun h => h))
                  have HR3 := Lib.hid ((HR.out.kept hk4 (fun _ _ h => h) (fun h => h)).store HV3.out (by omega))
                  have HK3 := Lib.hid (HK.out.trans hk4 (fun _ _ h => h))
                  have hkS : Kept (Only gr) w3 ((w3.setCell ⟨gr, 0, none⟩ (.slice a3 s1.l.length cap3)).setCell ⟨gr, 1, none⟩ (.int .i64 s1.err)) := ((Kept.refl _ _).only 0 _).only 1 _
                  have HKS := Lib.hid hkS
                  have HI4 := Lib.hid (HI3.out.kept hkS (fun k hx h => by have e : k = gr := h; have := hx.2; omega) (fun h => by have e : gi = gr := h; omega))
                  have HK4 := Lib.hid (HK3.out.trans hkS (fun i hi h => by have e : i = gr := h; omega))
                  have HY4 := Lib.hid (HY3.out.kept hkS (fun k hx h => by have e : k = gr := h; omega))
                  clear hk3 hk4 hkS hb3 ok3
                  go_wp2_with fail
                  refine (HPr.out _ _ HI4.out).mono ?_
                  rintro e w5 ⟨x5, rfl, hI5, hx5, hk5⟩
                  have HX5 := Lib.hid hx5
                  have HY5 := Lib.hid (HY4.out.kept hk5 (fun k hx h => by have e : k = gi := h; omega))
                  obtain ⟨xa, xc, rfl, _⟩ := hx5
                  have HR5 := HR3.out.kept hk5 (fun k hx h => by have e : k = gi := h; omega) (fun h => by have e : gr = gi := h; omega)
                  have HK5 := HK4.out.trans hk5 (fun i hi h => by have e : i = gi := h; omega)
                  go_wp2_with fail
                  go_meet
                  exact ⟨s1, 0, L, false, (fun k => w.heap.size ≤ k ∧ k < gi), (fun k => k < w.heap.size), rfl, rfl, HX5.out, HY5.out, rfl, rfl, hI5, HR5, HK5⟩
              · have h3b : (kind == 3) = false := by simpa using h3
                clear h0 h1 h2 h3
                as_aux_lemma =>
                  have HRf := Lib.hid (fun W h1 h2 => RBool_any (.agg #[.slice ra s.l.length rcap, .int .i64 s.err]) s (fun k => k < w.heap.size) W h1 h2)
                  have HPr := Lib.hid (fun F W h => InBool_any gi s F W h)
                  generalize (s.upto 1 1).1 = s1 at *
                  generalize (s.upto 1 1).2 = n1 at *
                  go_wp2_with fail
                  refine (HRf.out _ HRA.out hFr.out).mono ?_
                  rintro e w3 ⟨v3, rfl, hv3, hk3⟩
                  have HV3 := Lib.hid hv3
                  obtain ⟨ok3, b3, rfl, a3, cap3, rfl, hb3⟩ := hv3
                  have c30 := hk3.cell (p := ⟨gr, 0, none⟩) (fun h => h) c0
                  have c31 := hk3.cell (p := ⟨gr, 1, none⟩) (fun h => h) c1
                  have f30 : w3.frozen? ⟨gr, 0, none⟩ = false := (World.frozen?_of_block (hk3.block gr hgrl (fun h => h))).trans f0
                  have f31 : w3.frozen? ⟨gr, 1, none⟩ = false := (World.frozen?_of_block (hk3.block gr hgrl (fun h => h))).trans f1
                  have hk4 : Kept NoB wr w3 := hk3
                  have HI3 := Lib.hid (HI.out.kept hk4 (fun _ _ h => h) (fun h => h))
                  have HR3 := Lib.hid ((HR.out.kept hk4 (fun _ _ h => h) (fun h => h)).store HV3.out (by omega))
                  have HK3 := Lib.hid (HK.out.trans hk4 (fun _ _ h => h))
                  have hkS : Kept (Only gr) w3 ((w3.setCell ⟨gr, 0, none⟩ (.slice a3 s1.l.length cap3)).setCell ⟨gr, 1, none⟩ (.int .i64 s1.err)) := ((Kept.refl _ _).only 0 _).only 1 _
                  have HKS := Lib.hid hkS
                  have HI4 := Lib.hid (HI3.out.kept hkS (fun k hx h => by have e : k = gr := h; have := hx.2; omega) (fun h => by have e : gi = gr := h; omega))
                  have HK4 := Lib.hid (HK3.out.trans hkS (fun i hi h => by have e : i = gr := h; omega))
                  clear hk3 hk4 hkS hb3 ok3
                  go_wp2_with fail
                  refine (HPr.out _ _ HI4.out).mono ?_
                  rintro e w5 ⟨rfl, hI5, hk5⟩
                  have HR5 := HR3.out.kept hk5 (fun k hx h => by have e : k = gi := h; omega) (fun h => by have e : gr = gi := h; omega)
                  have HK5 := HK4.out.trans hk5 (fun i hi h => by have e : i = gi := h; omega)
                  go_wp2_with fail
                  go_meet
                  exact ⟨s1, 0, [], _, NoB, NoB, rfl, rfl, BSl.nil _ _, BSl.nil _ _, rfl, rfl, hI5, HR5, HK5⟩
      case rest =>
        obtain ⟨s1, n1, L, bb, F1, F2, rfl, rfl, hx5, hy5, rfl, rfl, hI5, hR5, hK5⟩ := hcut
        obtain ⟨w5, hw5⟩ : ∃ w5, w5 = wc := ⟨_, rfl⟩
        subst hw5
        have HX5 := Lib.hid hx5
        have HY5 := Lib.hid hy5
        obtain ⟨xa, xc, rfl, _⟩ := hx5
        obtain ⟨ya, yc, rfl, _⟩ := hy5
        have HI5 := Lib.hid hI5
        have HR5 := Lib.hid hR5
        have HK5 := Lib.hid hK5
        obtain ⟨ok5, a5, cap5, hh5, hb5⟩ := hR5
        have g0 : w5.cell? ⟨gr, 0, none⟩ = some (.slice a5 s1.l.length cap5) := cell_of_row w5 _ 0 _ _ _ hh5
        have g1 : w5.cell? ⟨gr, 1, none⟩ = some (.int .i64 s1.err) := cell_of_row w5 _ 1 _ _ _ hh5
        have HA5 := Lib.hid (show RAt w5 (fun k => k < w.heap.size) (.agg #[.slice a5 s1.l.length cap5, .int .i64 s1.err]) s1 from ⟨ok5, _, rfl, hb5⟩)
        clear hI5 hK5 c0 c1 f0 f1 e0 e1 e2 hh5 hb5 ok5
        go_wp2_with fail
        go_region_held3 (fun w' => w'.cell? ⟨gr, 0, none⟩ = some (.slice a5 s1.l.length cap5) ∧ w'.cell? ⟨gr, 1, none⟩ = some (.int .i64 s1.err))
          (first
            | exact ⟨cell_drew g0, cell_drew g1⟩
            | exact ⟨hk6.cell (p := ⟨gr, 0, none⟩) (fun h => h) (cell_drew g0), hk6.cell (p := ⟨gr, 1, none⟩) (fun h => h) (cell_drew g1)⟩
            | exact ⟨hk7.cell (p := ⟨gr, 0, none⟩) (fun h => h) (by assumption), hk7.cell (p := ⟨gr, 1, none⟩) (fun h => h) (by assumption)⟩
            | go_keep)
          (first | (go_at_call 16; refine (Same_any _ _ L L _ _ _ (by exact HX5.out.kept (S := NoB) ((Kept.refl _ _).drew) (fun _ _ h => h)) (by exact HY5.out.kept (S := NoB) ((Kept.refl _ _).drew) (fun _ _ h => h))).mono ?_; rintro e w6 ⟨rfl, hk6⟩; rw [decide_eq_true rfl]; have HI6 := Lib.hid (HI5.out.kept (S := NoB) (((Kept.refl NoB w5).drew).trans hk6 (fun _ _ h => h)) (fun _ _ h => h) (fun h => h)); have HA6 := Lib.hid (HA5.out.kept (S := NoB) (((Kept.refl NoB w5).drew).trans hk6 (fun _ _ h => h)) (fun _ _ h => h)); have HR6 := Lib.hid (HR5.out.kept (S := NoB) (((Kept.refl NoB w5).drew).trans hk6 (fun _ _ h => h)) (fun _ _ h => h) (fun h => h)); have HK6 := Lib.hid (HK5.out.trans (((Kept.refl NoB w5).drew).trans hk6 (fun _ _ h => h)) (fun _ _ h => h)); have m0 := hk6.cell (p := ⟨gr, 0, none⟩) (fun h => h) (cell_drew g0); have m1 := hk6.cell (p := ⟨gr, 1, none⟩) (fun h => h) (cell_drew g1)) | (go_at_call 17; refine (Left_any gi s1 _ _ (by exact HI6.out)).mono ?_; rintro e w7 ⟨rfl, rfl⟩) | (go_at_call 18; refine (Err_any gi s1 _ _ (by exact HI6.out)).mono ?_; rintro e w7 ⟨rfl, rfl⟩) | (go_at_call 19; refine (InDone_any gi s1 _ _ (by exact HI6.out)).mono ?_; rintro e w7 ⟨rfl, rfl⟩) | (go_at_call 20; refine (RDone_any _ s1 _ _ (by exact HA6.out)).mono ?_; rintro e w7 ⟨rfl, hk7⟩))
        go_wp2
        go_roundw
        case rel => exact ⟨j + 1, s1, by omega, by go_num, HI6.out.kept hk7 (fun _ _ h => h) (fun h => h), HR6.out.kept hk7 (fun _ _ h => h) (fun h => h), HK6.out.trans hk7 (fun _ _ h => h)⟩
        case measure => simp [intOf]; omega
    · have hcase : (¬ j < n) ∨ (j < n ∧ 30 ≤ j) := by omega
      clear hlt hit hk
      rcases hcase with hj1 | ⟨hj1, hj2⟩
      all_goals
        go_wp2_with fail
        refine (awake_any _).mono ?_
        rintro e w8 ⟨rfl, hk8⟩
        go_wp2
        go_ret
        exact ⟨rfl, HK.out.trans hk8 (fun _ _ h => h)⟩
end Go.Proofs.Ytgkkiijoblphfaa
