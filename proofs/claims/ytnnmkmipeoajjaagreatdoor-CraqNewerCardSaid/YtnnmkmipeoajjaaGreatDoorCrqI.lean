/-
  Package craq: Told.
-/
import Derived.Test.YtnnmkmipeoajjaaGreatDoorCrqH
namespace Go.Proofs.YtnnmkmipeoajjaaGreatDoor
open Go.RowKit
set_option linter.unusedVariables false
set_option linter.unusedSimpArgs false

theorem notT_keep (t : Int) (L : List Rq) : notT t L = keepR (tokB t) L := rfl
theorem notC_keep (c : Int) (L : List Rq) : notC c L = keepR (fun x => x.c == c) L := rfl
theorem tok_drop {L : List Rq} (hd : Dis L) {k : Nat} (h : k < L.length) {t : Int} (hy : tokB t L[k] = true) : notT t L = L.take k ++ L.drop (k + 1) ∧ L.find? (tokB t) = some L[k] ∧ L.any (tokB t) = true := by
  have ht : L[k].t = t := by simpa [tokB] using hy
  have hno := tok_step hd h ht
  have e : L = L.take k ++ L[k] :: L.drop (k + 1) := by rw [List.getElem_cons_drop, List.take_append_drop]
  refine ⟨?_, find_take h hno hy, List.any_eq_true.2 ⟨_, List.getElem_mem h, hy⟩⟩
  have h1 : notT t (L.take k) = L.take k := keepR_none (p := tokB t) (by
    rw [List.any_eq_false]; intro x hx; have := List.find?_eq_none.1 hno x hx; simpa using this)
  have h2 : notT t (L.drop (k + 1)) = L.drop (k + 1) := keepR_none (p := tokB t) (by
    rw [List.any_eq_false]; intro x hx
    obtain ⟨j, hj, rfl⟩ := List.mem_iff_getElem.1 hx
    rw [List.length_drop] at hj
    have := (hd.at_ (i := k) (j := k + 1 + j) (by omega) (by omega)).2
    simp only [List.getElem_drop, tokB]
    intro e
    have : L[k + 1 + j].t = t := by simpa using e
    omega)
  conv => lhs; rw [e]
  unfold notT at h1 h2 ⊢
  rw [List.filter_append, List.filter_cons, h1, h2]
  simp [ht]
/-- A row's block is the former one's, or new. -/
def OwnR (w : World) (v v' : Value) : Prop := ∀ j, v'.ownBlock = some j → v.ownBlock = some j ∨ w.heap.size ≤ j
def QToldP (g : Nat) (a : Option Addr) (c : Nat) (tk : Int) (L : List Rq) (t : Int) (w : World) (e : Ending) (w' : World) : Prop :=
  e = .returned (.tuple #[rqv (toldF L t).2.1, .bool (toldF L t).2.2]) ∧ (∃ a' c', RdsAt w' g a' c' tk (toldF L t).1 ∧ OwnR w (.slice a L.length c) (.slice a' (toldF L t).1.length c')) ∧ Kept (FtR g a L.length c) w w'
theorem told_none (t : Int) {L : List Rq} (h : L.any (tokB t) = false) : toldF L t = (L, rq0, false) := by
  rw [toldF_eq, h, notT_keep, keepR_none h]
  have : L.find? (tokB t) = none := by
    rw [List.find?_eq_none]; intro x hx; have := List.any_eq_false.1 h x hx; simpa using this
  rw [this]; rfl
theorem told_some {L : List Rq} (hd : Dis L) {k : Nat} (h : k < L.length) {t : Int} (hy : tokB t L[k] = true) : toldF L t = (L.take k ++ L.drop (k + 1), L[k], true) := by
  obtain ⟨h1, h2, h3⟩ := tok_drop hd h hy
  rw [toldF_eq, h1, h2, h3]; rfl
set_option maxRecDepth 100000 in
set_option maxHeartbeats 1000000 in
theorem QTold_any (g : Nat) (a : Option Addr) (c : Nat) (tk : Int) (L : List Rq) (t : Int) (w : World) (h : RdsAt w g a c tk L) (hd : Dis L) (hl : L.length ≤ 1000) : Calls Tryz.prog 17 #[.pointer (some ⟨g, 0, none⟩), .int .u64 t] w (QToldP g a c tk L t w) := by
  obtain ⟨V, hV⟩ : ∃ V, V = (w.alloc (.cells #[.int .u64 t] 25)).alloc (.cells #[.int .u64 0, .int .i64 0, .int .u64 0, .int .u32 0] 33) := ⟨_, rfl⟩
  have hk : Kept NoB w V := by rw [hV]; exact ((Kept.refl _ _).alloc _).alloc _
  have hb : V.heap[w.heap.size + 1]? = some (.cells #[.int .u64 0, .int .i64 0, .int .u64 0, .int .u32 0] 33 (0, 0)) := by
    rw [hV]; have := heap_alloc_new (w.alloc (.cells #[.int .u64 t] 25)) (.cells #[.int .u64 0, .int .i64 0, .int .u64 0, .int .u32 0] 33); rwa [World.size_alloc] at this
  have hx : V.heap[w.heap.size]? = some (.cells #[.int .u64 t] 25 (0, 0)) := by
    rw [hV]; exact (heap_alloc_old _ _ (by simp)).trans (heap_alloc_new w _)
  obtain ⟨m, hm⟩ : ∃ m, m = L.length := ⟨_, rfl⟩
  have hg := h.no hk
  have hgl : g < w.heap.size := heap_lt h.1
  have HIX := Lib.hid (IndexR_any _ L _ w.heap.size _ _ 0 V hg.2 hx (told1_any w.heap.size t) hl)
  unfold RdsAt at hg
  rw [← hm] at hg HIX
  have HM := Lib.hid hm
  have HJ := Lib.hid (show ∀ j, (Value.slice a m c).ownBlock = some j → j < w.heap.size from fun j hj => (h.2.base j (by rw [← hm]; exact hj)).2)
  have HV := Lib.hid hV
  have HK := Lib.hid hk
  have HB := Lib.hid hb
  have HG := Lib.hid hg.1
  have HO := Lib.hid hg.2
  have HD := Lib.hid hd
  have hml : m ≤ 1000 := by rw [hm]; exact hl
  obtain ⟨q0, q1, z0, z1⟩ := cells2q hg.1
  clear hV hk hb hx hg hm h hd
  go_enter Tryz.func17, Tryz.ntmps17
  go_upto_region 3 with fail
  rw [← HV.out]
  go_wp2_with fail
  refine HIX.out.mono ?_
  rintro e w1 ⟨r0, rfl, hk1, (⟨rfl, hnone⟩ | ⟨k, hk, rfl, hno, hyes⟩)⟩
  · have HK1 := Lib.hid hk1
    have HF := Lib.hid (told_none t hnone)
    obtain ⟨d0, d1, d2, d3, f0, f1, f2, f3⟩ := cells4q (hk1.heap (fun h => h) HB.out)
    clear hk1 hnone q0 q1 z0 z1
    go_wp2
    obtain ⟨s0, s1, s2, s3, _⟩ := cells4q (four22_at (HK1.out.heap (fun h => h) HB.out) (.int .u64 0) (.int .i64 0) (.int .u64 0) (.int .u32 0))
    have HK4 := Lib.hid (four22_kept w1 (w.heap.size + 1) (.int .u64 0) (.int .i64 0) (.int .u64 0) (.int .u32 0))
    refine bodyPost_ret (v := .tuple #[.agg #[.int .u64 0, .int .i64 0, .int .u64 0, .int .u32 0], .bool false]) (by simp [results, Tryz.results17, go_sem, s0, s1, s2, s3]) rfl ?_
    unfold QToldP
    rw [HF.out]
    refine ⟨rfl, ⟨a, c, ⟨?_, ?_⟩, fun j h => .inl h⟩, ((HK.out.trans HK1.out (fun _ _ h => h)).mono (fun _ _ h => h.elim)).trans HK4.out (fun i hi h => by have h : i = w.heap.size + 1 := h; omega)⟩
    · rw [← HM.out]
      exact HK4.out.heap (fun h => by have h : g = w.heap.size + 1 := h; omega) (HK1.out.heap (fun h => h) HG.out)
    · rw [← HM.out]
      exact (HO.out.no HK1.out).kept HK4.out (fun j hj h => by
        have h : j = w.heap.size + 1 := h
        have := HJ.out j hj
        omega)
  · have HK1 := Lib.hid hk1
    have HF := Lib.hid (told_some HD.out hk hyes)
    obtain ⟨r, d, he, hd, hr, e0, e1, e2, e3⟩ := (HO.out.no hk1).cells k hk
    injection he with he1 he2 he3
    clear he2
    subst he1 he3
    obtain ⟨y, hy⟩ : ∃ y, y = L[k] := ⟨_, rfl⟩
    have HY := Lib.hid hy
    rw [← hy] at e0 e1 e2 e3 HF
    obtain ⟨yt, yc, yn, yk⟩ := y
    simp only at e0 e1 e2 e3
    have hkm : k < m := by rw [HM.out]; exact hk
    have hd0 : ¬ (k : Int) < 0 := by omega
    have hkm2 : (k : Int) < (m : Int) := by omega
    have HG1 := Lib.hid (hk1.heap (fun h => h) HG.out)
    have HO1 := Lib.hid (HO.out.no hk1)
    have HB1 := Lib.hid (hk1.heap (fun h => h) HB.out)
    obtain ⟨q0, q1, z0, z1⟩ := cells2q HG1.out
    have hrV := HJ.out r rfl
    have hgr : ¬ g = r := by
      rintro rfl
      obtain ⟨r', cur, h1, _, h2, _⟩ := HO.out.row HM.out (by omega)
      injection h1 with h1
      injection h1 with h1 _ _
      subst h1
      rw [HG.out] at h2
      injection h2 with h2
      injection h2 with _ h2
      exact absurd h2 (by decide)
    have hrg : ¬ r = g := fun h => hgr h.symm
    have hs1 := hk1.size
    have hsV := HK.out.size
    have hV2 : w.heap.size + 1 < V.heap.size := heap_lt HB.out
    have hU := heap_alloc_new w1 (.cells #[.int .u64 yt, .int .i64 yc, .int .u64 yn, .int .u32 yk] 33)
    have hkU := (Kept.refl NoB w1).alloc (.cells #[.int .u64 yt, .int .i64 yc, .int .u64 yn, .int .u32 yk] 33)
    have HDL := Lib.hid (DelR_any (w1.alloc (.cells #[.int .u64 yt, .int .i64 yc, .int .u64 yn, .int .u32 yk] 33)) r c k m L 0 (HO1.out.no hkU) HM.out hkm hml)
    clear hk1 hno hyes hy
    go_upto_region 7 with fail
    obtain ⟨U, hU2⟩ : ∃ U, U = w1.alloc (.cells #[.int .u64 yt, .int .i64 yc, .int .u64 yn, .int .u32 yk] 33) := ⟨_, rfl⟩
    obtain ⟨bx, hbx⟩ : ∃ bx, bx = w1.heap.size := ⟨_, rfl⟩
    rw [← hU2] at hU hkU HDL ⊢
    rw [← hbx] at hU ⊢
    have hbr : ¬ bx = r := by omega
    have hbg : ¬ bx = g := by omega
    have hby : ¬ bx = w.heap.size + 1 := by omega
    have hyb : ¬ w.heap.size + 1 = bx := by omega
    have HU := Lib.hid hU
    have HKU := Lib.hid hkU
    have HG2 := Lib.hid (hkU.heap (fun h => h) HG1.out)
    clear hU hkU hU2 hbx e0 e1 e2 e3 q0 q1 z0 z1
    obtain ⟨q0, q1, z0, z1⟩ := cells2q HG2.out
    go_wp2_with fail
    refine HDL.out.mono ?_
    rintro e w3 ⟨rfl, ho3, hk3⟩
    have hyr : ¬ w.heap.size + 1 = r := by omega
    have hgy : ¬ g = w.heap.size + 1 := by omega
    have hry : ¬ r = w.heap.size + 1 := by omega
    have HB3 := Lib.hid (hk3.heap hyr (HKU.out.heap (fun h => h) HB1.out))
    have HU3 := Lib.hid (hk3.heap hbr HU.out)
    have HG3 := Lib.hid (hk3.heap hgr HG2.out)
    have HO3 := Lib.hid ho3
    have HK3 := Lib.hid (((HK.out.trans HK1.out (fun _ _ h => h)).trans HKU.out (fun _ _ h => h)).mono (T := fun i => i = r) (fun _ _ h => h.elim) |>.trans hk3 (fun _ _ h => h))
    clear ho3 hk3 q0 q1 z0 z1 hbr
    obtain ⟨q0, q1, z0, z1⟩ := cells2q HG3.out
    obtain ⟨d0, d1, d2, d3, f0, f1, f2, f3⟩ := cells4q HB3.out
    obtain ⟨u0, u1, u2, u3, _⟩ := cells4q HU3.out
    go_wp2
    have hkg : Kept (fun i => i = g) w3 (w3.setCell ⟨g, 0, none⟩ (.slice (some ⟨r, 0, none⟩) (m - 1) c)) := (Kept.refl (fun i => i = g) w3).setCell (p := ⟨g, 0, none⟩) (.inl (by show g = g; rfl)) _
    have HKG := Lib.hid hkg
    have HB4 := Lib.hid (hkg.heap (fun h => hgy h.symm) HB3.out)
    have HG4 := Lib.hid (blkV_set HG3.out 0 (.slice (some ⟨r, 0, none⟩) (m - 1) c))
    clear hkg
    obtain ⟨s0, s1, s2, s3, _⟩ := cells4q (four22_at HB4.out (.int .u64 yt) (.int .i64 yc) (.int .u64 yn) (.int .u32 yk))
    have HK4 := Lib.hid (four22_kept (w3.setCell ⟨g, 0, none⟩ (.slice (some ⟨r, 0, none⟩) (m - 1) c)) (w.heap.size + 1) (.int .u64 yt) (.int .i64 yc) (.int .u64 yn) (.int .u32 yk))
    refine bodyPost_ret (v := .tuple #[.agg #[.int .u64 yt, .int .i64 yc, .int .u64 yn, .int .u32 yk], .bool true]) (by simp [results, Tryz.results17, go_sem, s0, s1, s2, s3]) rfl ?_
    unfold QToldP
    rw [HF.out]
    have hlen : (L.take k ++ L.drop (k + 1)).length = m - 1 := by rw [List.length_append, List.length_take, List.length_drop]; have := HM.out; omega
    refine ⟨rfl, ⟨some ⟨r, 0, none⟩, c, ⟨?_, ?_⟩, fun j h => .inl h⟩, ?_⟩
    · simp only
      rw [hlen]
      exact HK4.out.heap (fun h => hgy h) (by simpa using HG4.out)
    · simp only
      rw [hlen]
      exact (HO3.out.kept HKG.out (fun j hj h => by
        have h : j = g := h
        injection hj with hj
        exact hrg (hj.trans h))).kept HK4.out (fun j hj h => by
        have h : j = w.heap.size + 1 := h
        injection hj with hj
        exact hry (hj.trans h))
    · refine ((HK3.out.mono (T := FtR g (some ⟨r, 0, none⟩) L.length c) (fun i _ h => .inr (by have h : i = r := h; rw [h]; rfl))).trans HKG.out (fun i _ h => .inl h)).trans HK4.out (fun i hi h => ?_)
      have h : i = w.heap.size + 1 := h
      omega
end Go.Proofs.YtnnmkmipeoajjaaGreatDoor
