/-
  Package conf: Get.
-/
import Derived.Test.YtbdenjmnohhhiaaDoorCnfBA
import Derived.Test.YtbdenjmnohhhiaaDoorCnfI
import Derived.Test.YtbdenjmnohhhiaaDoorCnfF
import Derived.IntWalk
import Derived.Deep.Cut
import Derived.StillTailTactics
import Derived.Deep.RegionLaw
namespace Go.Proofs.YtbdenjmnohhhiaaDoor
open Go.RowKit
set_option linter.unusedVariables false
set_option linter.unusedSimpArgs false

theorem get1_le9 (s : ISt) (hB : IsB s.l) : 0 ≤ (s.get 1).2 ∧ (s.get 1).2 ≤ 255 := by
  unfold ISt.get
  rw [if_neg (by decide)]
  have hl := s.raw_len 1
  have hb : IsB (s.raw 1).2 := by
    unfold ISt.raw
    split
    · split
      · exact IsB.nil
      · split
        · exact IsB.nil
        · exact hB.take _
    · exact IsB.nil
  have := num_lt _ hb
  have h2 : 256 ^ (s.raw 1).2.length ≤ 256 ^ 1 := Nat.pow_le_pow_right (by decide) hl
  simp only
  omega
theorem get8_fit9 (s : ISt) (hB : IsB s.l) : 0 ≤ (s.get 8).2 ∧ (s.get 8).2 ≤ topE := by
  unfold ISt.get topE
  rw [if_neg (by decide)]
  have hl := s.raw_len 8
  have hb : IsB (s.raw 8).2 := by
    unfold ISt.raw
    split
    · split
      · exact IsB.nil
      · split
        · exact IsB.nil
        · exact hB.take _
    · exact IsB.nil
  have := num_lt _ hb
  have h2 : 256 ^ (s.raw 8).2.length ≤ 256 ^ 8 := Nat.pow_le_pow_right (by decide) hl
  simp only
  omega
theorem InAt.isB {w : World} {F : Nat → Prop} {g : Nat} {s : ISt} (h : InAt w F g s) : IsB s.l := by obtain ⟨_, _, _, _, hb⟩ := h; exact hb.isB
theorem frz9 {w : World} {b : Nat} {cs : Array Value} {t : TypeId} (h : w.heap[b]? = some (.cells cs t (0, 0))) (o : Nat) : w.frozen? ⟨b, o, none⟩ = false := by simp [World.frozen?, h]
theorem blk9_set {w : World} {g : Nat} {cs : Array Value} {t : TypeId} {fr : Nat × Nat} (h : w.heap[g]? = some (.cells cs t fr)) (i : Nat) (u : Value) :
    (w.setCell ⟨g, i, none⟩ u).heap[g]? = some (.cells (cs.setIfInBounds i u) t fr) := by simp [World.setCell, Array.getElem?_modify, h]
theorem cf9_set {w : World} {g : Nat} {x0 x1 x2 x3 x4 : Value} {t : TypeId} (h : w.heap[g]? = some (.cells #[x0, x1, x2, x3, x4] t (0, 0))) (y0 y1 y2 y3 y4 : Value) :
    (((((w.setCell ⟨g, 0, none⟩ y0).setCell ⟨g, 1, none⟩ y1).setCell ⟨g, 2, none⟩ y2).setCell ⟨g, 3, none⟩ y3).setCell ⟨g, 4, none⟩ y4).heap[g]? = some (.cells #[y0, y1, y2, y3, y4] t (0, 0)) :=
  blk9_set (blk9_set (blk9_set (blk9_set (blk9_set h 0 y0) 1 y1) 2 y2) 3 y3) 4 y4
theorem cf9_kept (w : World) (g : Nat) (y0 y1 y2 y3 y4 : Value) : Kept (fun i => i = g) w (((((w.setCell ⟨g, 0, none⟩ y0).setCell ⟨g, 1, none⟩ y1).setCell ⟨g, 2, none⟩ y2).setCell ⟨g, 3, none⟩ y3).setCell ⟨g, 4, none⟩ y4) :=
  (((((Kept.refl (fun i => i = g) w).setCell (p := ⟨g, 0, none⟩) (.inl (by show g = g; rfl)) _).setCell (p := ⟨g, 1, none⟩) (.inl (by show g = g; rfl)) _).setCell (p := ⟨g, 2, none⟩) (.inl (by show g = g; rfl)) _).setCell (p := ⟨g, 3, none⟩) (.inl (by show g = g; rfl)) _).setCell (p := ⟨g, 4, none⟩) (.inl (by show g = g; rfl)) _
/-- append of one number that lies in a block, where the order is drawn. -/
theorem wp_append_one9 (w : World) {o : Oper} {a : Act} {K : Act → World → Prop} {Q : Exit → Act → World → Prop} (s x : Operand)
    (ho : o.op = .call { callee := .builtin .append, args := #[s, x], argTypes := #[23, 23] })
    (base : Nat) (v : Value) (cs : List Int) (hs : a.eval s = v) (hown : IOwn base w v cs) (b : Nat) (y : Int) (hx : a.eval x = .slice (some ⟨b, 0, none⟩) 1 1) (hb : w.heap[b]? = some (.cells #[.int .i64 y] 3 (0, 0))) (hl : cs.length ≤ 10000) (hbase : base ≤ w.heap.size) (N : Nat) (hN : cs.length + 1 = N)
    (h : ∀ a' c' w', IOwn base w' (.slice a' N c') (cs ++ [y]) → w.grownBy w' v.ownBlock → K (a.put o.dst (.slice a' N c')) w') : o.wp Tryd.prog a w K Q := by
  subst hN
  exact wp_append_nsl w s x ho base v cs hs hown (fun _ => True) _ [y] hx (nsl_one hb) (by simp; omega) hbase (fun a' c' w' h1 h2 _ => h a' c' w' h1 h2)
theorem step_append_one9 (w : World) {ops : Array Oper} {o : Oper} {a : Act} {K : Act → World → Prop} {Q : Exit → Act → World → Prop} {E : Prop} (hgd : o.guard = none) (s x : Operand)
    (ho : o.op = .call { callee := .builtin .append, args := #[s, x], argTypes := #[23, 23] })
    (base : Nat) (v : Value) (cs : List Int) (hs : a.eval s = v) (hown : IOwn base w v cs) (b : Nat) (y : Int) (hx : a.eval x = .slice (some ⟨b, 0, none⟩) 1 1) (hb : w.heap[b]? = some (.cells #[.int .i64 y] 3 (0, 0))) (hl : cs.length ≤ 10000) (hbase : base ≤ w.heap.size) (N : Nat) (hN : cs.length + 1 = N)
    (h : ∀ a' c' w', IOwn base w' (.slice a' N c') (cs ++ [y]) → w.grownBy w' v.ownBlock → K (a.put o.dst (.slice a' N c')) w') :
    if Region.wanted o (yielded ops a.tmps) = true then Oper.wp Tryd.prog o a w K Q else E := by
  have hw : Region.wanted o (yielded ops a.tmps) = true := by simp [Region.wanted, hgd]
  rw [if_pos hw]
  exact wp_append_one9 w s x ho base v cs hs hown b y hx hb hl hbase N hN h
theorem nsK_zero (s : ISt) (h : s.err = 0) : nsK s 0 = [] := by
  obtain ⟨l, e⟩ := s
  obtain rfl : e = 0 := h
  unfold nsK
  rw [raw_ok9, if_neg (by omega)]
  rfl
theorem readC_is (s s5 : ISt) (v0 v1 v3 : Int) (fr : Bool) (N : Nat) (h : getCf s = ((s5.raw (N : Int)).1, ⟨v0, v1, (s5.raw (N : Int)).2, fr, v3⟩)) :
    readC s = if (stK s5 N).err ≠ 0 then (stK s5 N, cf0, (stK s5 N).err) else if rgtB ⟨v0, v1, nsK s5 N, fr, v3⟩ = true then (stK s5 N, ⟨v0, v1, nsK s5 N, fr, v3⟩, 0) else (stK s5 N, cf0, 4) := by
  unfold readC
  rw [h]
  rfl
def CGetEnd (w : World) (F : Nat → Prop) (gi : Nat) (s : ISt) (e : Ending) (w' : World) : Prop :=
  ∃ v, e = .returned (.tuple #[v, .int .i64 (readC s).2.2]) ∧ InAt w' F gi (readC s).1 ∧ CfV w' (fun k => w.heap.size ≤ k) v (readC s).2.1 ∧ Kept (Only gi) w w'
def CgRel (w : World) (F : Nat → Prop) (gi G : Nat) (v0 v1 v3 : Int) (fr : Bool) (s5 : ISt) (N : Nat) (kv : Value) (wr : World) : Prop :=
  ∃ (k : Nat) (l : List Int) (a : Option Addr) (c : Nat), k ≤ N ∧ kv = .int .u64 k ∧ l.length = k ∧ ((stK s5 k).err = 0 → l = nsK s5 k) ∧ IOwn (G + 1) wr (.slice a k c) l ∧
    wr.heap[G]? = some (.cells #[.int .i64 v0, .int .u64 v1, .slice a k c, .bool fr, .int .i64 v3] 25 (0, 0)) ∧
    wr.heap[w.heap.size]? = some (.cells #[.int .i64 0, .int .u64 0, .slice none 0 0, .bool false, .int .i64 0] 25 (0, 0)) ∧ InAt wr F gi (stK s5 k) ∧ Kept (Only gi) w wr
set_option maxRecDepth 100000 in
set_option maxHeartbeats 4000000 in
theorem CGet_any (w : World) (gi : Nat) (F : Nat → Prop) (s : ISt) (h : InAt w F gi s) (hF : ∀ i, F i → i < w.heap.size) : Calls Tryd.prog 10 #[.pointer (some ⟨gi, 0, none⟩)] w (CGetEnd w F gi s) := by
  have hgl : gi < w.heap.size := by obtain ⟨_, _, v, hv, _⟩ := h; exact heap_lt hv
  have HB0 := Lib.hid (InAt.isB h)
  have HF := Lib.hid hF
  have HZ := Lib.hid (heap_alloc_new w (.cells #[.int .i64 0, .int .u64 0, .slice none 0 0, .bool false, .int .i64 0] 25))
  have HK0 := Lib.hid (((Kept.refl NoB w).alloc (.cells #[.int .i64 0, .int .u64 0, .slice none 0 0, .bool false, .int .i64 0] 25)).mono (T := Only gi) (fun _ _ h => absurd h (fun h => h)))
  have HI0 := Lib.hid (h.kept ((Kept.refl NoB w).alloc (.cells #[.int .i64 0, .int .u64 0, .slice none 0 0, .bool false, .int .i64 0] 25)) (fun _ _ h => h) (fun h => h))
  obtain ⟨W, hW⟩ : ∃ W, W = w.alloc (.cells #[.int .i64 0, .int .u64 0, .slice none 0 0, .bool false, .int .i64 0] 25) := ⟨_, rfl⟩
  rw [← hW] at HZ HK0 HI0
  have HWW := Lib.hid hW
  obtain ⟨s1, hs1⟩ : ∃ t, t = (s.get 1).1 := ⟨_, rfl⟩
  obtain ⟨v0, hv0⟩ : ∃ t, t = (s.get 1).2 := ⟨_, rfl⟩
  obtain ⟨s2, hs2⟩ : ∃ t, t = (s1.get 8).1 := ⟨_, rfl⟩
  obtain ⟨v1, hv1⟩ : ∃ t, t = (s1.get 8).2 := ⟨_, rfl⟩
  obtain ⟨s3, hs3⟩ : ∃ t, t = (s2.upto 1 1).1 := ⟨_, rfl⟩
  obtain ⟨fr, hfr⟩ : ∃ t, t = ((s2.upto 1 1).2 == 1) := ⟨_, rfl⟩
  obtain ⟨s4, hs4⟩ : ∃ t, t = (s3.get 1).1 := ⟨_, rfl⟩
  obtain ⟨v3, hv3⟩ : ∃ t, t = (s3.get 1).2 := ⟨_, rfl⟩
  obtain ⟨s5, hs5⟩ : ∃ t, t = (s4.get 1).1 := ⟨_, rfl⟩
  obtain ⟨n, hn⟩ : ∃ t, t = (s4.get 1).2 := ⟨_, rfl⟩
  have HGC : Hid (getCf s = ((s5.raw n).1, ⟨v0, v1, (s5.raw n).2, fr, v3⟩)) := Lib.hid (by unfold getCf; rw [← hs1, ← hs2, ← hs3, ← hs4, ← hs5, ← hv0, ← hv1, ← hv3, ← hn, ← hfr])
  have HC0 : Hid (∀ w', InAt w' F gi s → Calls Tryd.prog 27 #[.pointer (some ⟨gi, 0, none⟩), .int .i64 1] w' fun r w'' => r = .returned (.int .u64 v0) ∧ InAt w'' F gi s1 ∧ Kept (Only gi) w' w'') := Lib.hid (fun w' h => by rw [hv0, hs1]; exact Get_any gi s 1 F w' h)
  have HC1 : Hid (∀ w', InAt w' F gi s1 → Calls Tryd.prog 27 #[.pointer (some ⟨gi, 0, none⟩), .int .i64 8] w' fun r w'' => r = .returned (.int .u64 v1) ∧ InAt w'' F gi s2 ∧ Kept (Only gi) w' w'') := Lib.hid (fun w' h => by rw [hv1, hs2]; exact Get_any gi s1 8 F w' h)
  have HC2 : Hid (∀ w', InAt w' F gi s2 → Calls Tryd.prog 28 #[.pointer (some ⟨gi, 0, none⟩)] w' fun r w'' => r = .returned (.bool fr) ∧ InAt w'' F gi s3 ∧ Kept (Only gi) w' w'') := Lib.hid (fun w' h => by rw [hfr, hs3]; exact InBool_any gi s2 F w' h)
  have HC3 : Hid (∀ w', InAt w' F gi s3 → Calls Tryd.prog 27 #[.pointer (some ⟨gi, 0, none⟩), .int .i64 1] w' fun r w'' => r = .returned (.int .u64 v3) ∧ InAt w'' F gi s4 ∧ Kept (Only gi) w' w'') := Lib.hid (fun w' h => by rw [hv3, hs4]; exact Get_any gi s3 1 F w' h)
  have HC4 : Hid (∀ w', InAt w' F gi s4 → Calls Tryd.prog 27 #[.pointer (some ⟨gi, 0, none⟩), .int .i64 1] w' fun r w'' => r = .returned (.int .u64 n) ∧ InAt w'' F gi s5 ∧ Kept (Only gi) w' w'') := Lib.hid (fun w' h => by rw [hn, hs5]; exact Get_any gi s4 1 F w' h)
  have hb0 : 0 ≤ v0 ∧ v0 ≤ 255 := by rw [hv0]; exact get1_le9 s HB0.out
  have HE1 : Hid (∀ {w'}, InAt w' F gi s1 → 0 ≤ v1 ∧ v1 ≤ topE) := Lib.hid (fun h => by rw [hv1]; exact get8_fit9 _ h.isB)
  have HE3 : Hid (∀ {w'}, InAt w' F gi s3 → 0 ≤ v3 ∧ v3 ≤ 255) := Lib.hid (fun h => by rw [hv3]; exact get1_le9 _ h.isB)
  have HE4 : Hid (∀ {w'}, InAt w' F gi s4 → 0 ≤ n ∧ n ≤ 255) := Lib.hid (fun h => by rw [hn]; exact get1_le9 _ h.isB)
  have hwa : IntKind.i64.wrap v0 = v0 := IntWalk.i64_in _ (by omega)
  have HV0 := Lib.hid hb0
  clear h hF hW hs1 hv0 hs2 hv1 hs3 hfr hs4 hv3 hs5 hn hb0
  go_enter Tryd.func10, Tryd.ntmps10
  go_upto_region 1 with fail
  rw [← HWW.out]
  go_wp2_with fail
  refine (HC0.out W HI0.out).mono ?_
  rintro e g1 ⟨rfl, hi1, hk1⟩
  have HI1 := Lib.hid hi1
  have HK1 := Lib.hid (HK0.out.trans hk1 (fun _ _ h => h))
  have HZ1 := Lib.hid (hk1.heap (fun h : w.heap.size = gi => by omega) HZ.out)
  clear hi1 hk1
  go_wp2_with fail
  refine (HC1.out g1 HI1.out).mono ?_
  rintro e g2 ⟨rfl, hi2, hk2⟩
  have HI2 := Lib.hid hi2
  have HK2 := Lib.hid (HK1.out.trans hk2 (fun _ _ h => h))
  have HZ2 := Lib.hid (hk2.heap (fun h : w.heap.size = gi => by omega) HZ1.out)
  clear hi2 hk2
  go_wp2_with fail
  refine (HC2.out g2 HI2.out).mono ?_
  rintro e g3 ⟨rfl, hi3, hk3⟩
  have HI3 := Lib.hid hi3
  have HK3 := Lib.hid (HK2.out.trans hk3 (fun _ _ h => h))
  have HZ3 := Lib.hid (hk3.heap (fun h : w.heap.size = gi => by omega) HZ2.out)
  clear hi3 hk3
  go_wp2_with fail
  refine (HC3.out g3 HI3.out).mono ?_
  rintro e g4 ⟨rfl, hi4, hk4⟩
  have HI4 := Lib.hid hi4
  have HK4 := Lib.hid (HK3.out.trans hk4 (fun _ _ h => h))
  have HZ4 := Lib.hid (hk4.heap (fun h : w.heap.size = gi => by omega) HZ3.out)
  clear hi4 hk4
  obtain ⟨hb30, hb31⟩ := HE3.out HI3.out
  have hwb : IntKind.i64.wrap v3 = v3 := IntWalk.i64_in _ (by omega)
  have HN9 := Lib.hid (heap_alloc_new g4 (.cells #[.int .i64 v0, .int .u64 v1, .slice none 0 0, .bool fr, .int .i64 v3] 25))
  obtain ⟨y4, hy4⟩ : ∃ y, y = g4.alloc (.cells #[.int .i64 v0, .int .u64 v1, .slice none 0 0, .bool fr, .int .i64 v3] 25) := ⟨_, rfl⟩
  have HYK : Hid (Kept NoB g4 y4) := Lib.hid (by rw [hy4]; exact (Kept.refl NoB g4).alloc _)
  have HY4 := Lib.hid hy4
  rw [← hy4] at HN9
  obtain ⟨G, hG⟩ : ∃ G, G = g4.heap.size := ⟨_, rfl⟩
  rw [← hG] at HN9
  have HGG := Lib.hid hG
  have HGZ : Hid (w.heap.size < G) := Lib.hid (by rw [hG]; exact heap_lt HZ4.out)
  clear hy4 hG
  go_upto_region 2 with fail
  rw [← HY4.out, ← HGG.out]
  have HI5 := Lib.hid (HI4.out.kept HYK.out (fun _ _ h => h) (fun h => h))
  have HZ5 := Lib.hid (HYK.out.heap (fun h => h) HZ4.out)
  have HK5 := Lib.hid (HK4.out.trans HYK.out (fun _ _ h => absurd h (fun h => h)))
  go_wp2_with fail
  refine (HC4.out y4 HI5.out).mono ?_
  rintro e g6 ⟨rfl, hi6, hk6⟩
  have HI6 := Lib.hid hi6
  have HK6 := Lib.hid (HK5.out.trans hk6 (fun _ _ h => h))
  have HZ6 := Lib.hid (hk6.heap (fun h : w.heap.size = gi => by omega) HZ5.out)
  have HN6 := Lib.hid (hk6.heap (fun h : G = gi => by have := HGZ.out; omega) HN9.out)
  obtain ⟨hn0, hn1⟩ := HE4.out HI5.out
  obtain ⟨N, rfl⟩ := Int.eq_ofNat_of_zero_le hn0
  have HRS := Lib.hid (readC_is s s5 v0 v1 v3 fr N HGC.out)
  have hNl : N ≤ 255 := by omega
  clear hi6 hk6 hn0 hn1
  have H0 : Hid (CgRel w F gi G v0 v1 v3 fr s5 N (.int .u64 0) g6) := Lib.hid ⟨0, [], none, 0, Nat.zero_le _, rfl, rfl, (fun h => by
    rw [stK_zero] at h
    exact (nsK_zero s5 h).symm), IOwn.nil _ _, HN6.out, HZ6.out, by rw [stK_zero]; exact HI6.out, HK6.out⟩
  go_wp2_with fail
  go_loopw [19] (CgRel w F gi G v0 v1 v3 fr s5 N) (fun i _ => N - (RowKit.intOf i).toNat)
  case atStart => exact H0.out
  case round =>
    obtain ⟨k, l, a, c, hk, rfl, hlk, hns, hown, hcf, hz, hin, hK⟩ := hrel
    have hk0 : (0 : Int) ≤ (k : Int) := by omega
    have HLK := Lib.hid hlk
    have HNS := Lib.hid hns
    have HOW := Lib.hid hown
    have HCF := Lib.hid hcf
    have HZZ := Lib.hid hz
    have HIN := Lib.hid hin
    have HK := Lib.hid hK
    have HKR := Lib.hid hk
    have HGI : Hid (gi < G) := Lib.hid (by have := HGZ.out; omega)
    have HGS : Hid (G < wr.heap.size) := Lib.hid (heap_lt hcf)
    clear hns hown hz hin hK
    by_cases hlt : k < N
    · have hk1 : (k : Int) < (N : Int) := by omega
      obtain ⟨t, ht⟩ : ∃ t, t = stK s5 k := ⟨_, rfl⟩
      have HST : Hid (stK s5 (k + 1) = (t.get 1).1) := Lib.hid (by rw [ht]; exact stK_succ s5 k)
      obtain ⟨x, hx⟩ : ∃ x, x = (t.get 1).2 := ⟨_, rfl⟩
      have HB5 := Lib.hid HI6.out.isB
      have HNX : Hid ((stK s5 (k + 1)).err = 0 → nsK s5 (k + 1) = l ++ [x]) := Lib.hid (fun he => by
        have h1 := nsK_succ s5 k HB5.out he
        rw [← ht, ← hx, ← HNS.out (stK_err s5 k (k + 1) (by omega) he)] at h1
        exact h1)
      rw [← ht] at HIN
      have hbx : 0 ≤ x ∧ x ≤ 255 := by rw [hx]; exact get1_le9 t HIN.out.isB
      obtain ⟨hbx0, hbx1⟩ := hbx
      have hwx : IntKind.i64.wrap x = x := IntWalk.i64_in _ (by omega)
      obtain ⟨t', ht'⟩ : ∃ t', t' = stK s5 (k + 1) := ⟨_, rfl⟩
      rw [← ht'] at HST HNX
      have HTT := Lib.hid ht'
      have HCX : Hid (∀ w', Kept NoB wr w' → Calls Tryd.prog 27 #[.pointer (some ⟨gi, 0, none⟩), .int .i64 1] w' fun r w'' => r = .returned (.int .u64 x) ∧ InAt w'' F gi t' ∧ Kept (Only gi) w' w'') := Lib.hid (fun w' hk => by rw [hx, HST.out]; exact Get_any gi t 1 F w' (HIN.out.kept hk (fun _ _ h => h) (fun h => h)))
      have c2 := cell_of_row wr G 2 _ _ _ hcf
      have hz2 := frz9 hcf 2
      clear hlk hcf ht hx ht' hk
      have HBASE := Lib.hid (fun i hi => (World.ownsRow.lt HOW.out i hi).1)
      go_wp2_with fail
      go_region_law (first
        | (go_simp; go_at_call 27; (with_reducible refine (HCX.out _ ((Kept.refl NoB wr).drew)).mono ?_); rintro e w4 ⟨rfl, hin4, hk4⟩; have HIN4 := Lib.hid hin4; have HK4 := Lib.hid hk4; have HCF4 := Lib.hid (hk4.heap (fun h : G = gi => by have := HGI.out; omega) (show wr.drew.heap[G]? = _ from HCF.out)); have HZ4 := Lib.hid (hk4.heap (fun h : w.heap.size = gi => by omega) (show wr.drew.heap[w.heap.size]? = _ from HZZ.out)); have HN4 := Lib.hid (heap_alloc_new w4 (.cells #[.int .i64 x] 3)); have HA4 := Lib.hid ((Kept.refl NoB w4).alloc (.cells #[.int .i64 x] 3)); have k2 := cell_of_row w4 G 2 _ _ _ HCF4.out; have k2z := frz9 HCF4.out 2; have k2a := cell_alloc k2 (.cells #[.int .i64 x] 3); have own4 := Lib.hid (row_keptI (row_keptI (row_keptI HOW.out (Kept.refl NoB wr).drew (fun _ _ h => h)) hk4 (fun i hi h => by have := HBASE.out i hi; have := HGI.out; have h : i = gi := h; omega)) HA4.out (fun _ _ h => h)); have HSZ4 := Lib.hid (show G + 1 ≤ (w4.alloc (.cells #[.int .i64 x] 3)).heap.size by have := heap_lt HCF4.out; simp; omega); clear hin4 hk4)
        | (refine step_append_one9 _ (by rfl) _ _ (by rfl) (G + 1) (.slice a k c) l (by rfl) own4.out w4.heap.size x (by rfl) HN4.out (by have := HLK.out; omega) HSZ4.out (k + 1) (by rw [HLK.out]) ?_; intro a5 c5 w5 hown5 hgrow5; have HG5 : Hid (Kept (fun i => G + 1 ≤ i) (w4.alloc (.cells #[.int .i64 x] 3)) w5) := Lib.hid ((Kept.refl _ _).grown hgrow5 (fun i hi => .inl (HBASE.out i hi))); have HOW5 := Lib.hid hown5; have HCF5 := Lib.hid (HG5.out.heap (by show ¬ G + 1 ≤ G; omega) (HA4.out.heap (fun h => h) HCF4.out)); have HZ5 := Lib.hid (HG5.out.heap (by show ¬ G + 1 ≤ w.heap.size; have := HGZ.out; omega) (HA4.out.heap (fun h => h) HZ4.out)); have j2 := cell_of_row w5 G 2 _ _ _ HCF5.out; have j2z := frz9 HCF5.out 2; clear hown5 hgrow5)
        | fail)
      all_goals
        go_wp2_with fail
        have HS : Kept (fun i => i = G) w5 (w5.setCell ⟨G, 2, none⟩ (.slice a5 (k + 1) c5)) := (Kept.refl (fun i => i = G) w5).setCell (p := ⟨G, 2, none⟩) (.inl (by show G = G; rfl)) _
        have HB5' := fun i hi => (World.ownsRow.lt HOW5.out i hi).1
        have hk45 : Kept (fun i => G ≤ i) w4 (w5.setCell ⟨G, 2, none⟩ (.slice a5 (k + 1) c5)) := ((HA4.out.mono (T := fun i => G ≤ i) (fun _ _ h => absurd h (fun h => h))).trans HG5.out (fun i _ h => by show G ≤ i; have h : G + 1 ≤ i := h; omega)).trans HS (fun i _ h => by show G ≤ i; have h : i = G := h; omega)
        have hlk := HLK.out
        have hkr := HKR.out
        refine ⟨⟨k + 1, l ++ [x], a5, c5, by omega, by go_num, by rw [List.length_append, hlk]; rfl, (fun he => by rw [← HTT.out] at he; exact (HNX.out he).symm), row_keptI HOW5.out HS (fun i hi h => by have := HB5' i hi; omega), blk9_set HCF5.out 2 _, HS.heap (fun h => by have := HGZ.out; omega) HZ5.out, ?_, ?_⟩, by simp [RowKit.intOf]; omega⟩
        · rw [← HTT.out]
          exact HIN4.out.kept hk45 (fun i hi h => by have := HF.out i hi; have := HGZ.out; have h : G ≤ i := h; omega) (fun h => by have := HGI.out; have h : G ≤ gi := h; omega)
        · exact (HK.out.trans (((Kept.refl (Only gi) wr).drew).trans HK4.out (fun _ _ h => h)) (fun _ _ h => h)).trans hk45 (fun i hi h => by have := HGZ.out; have h : G ≤ i := h; omega)
    · obtain rfl : k = N := by omega
      obtain ⟨⟨lx, er⟩, htx⟩ : ∃ t, t = stK s5 k := ⟨_, rfl⟩
      rw [← htx] at HRS HIN HNS
      have HEV := Lib.hid (fun w' (h : InAt w' F gi ⟨lx, er⟩) => Err_any gi ⟨lx, er⟩ F w' h)
      obtain ⟨hv10, hv11⟩ := HE1.out HI1.out
      obtain ⟨x0, x1, x2, x3, x4⟩ := cells5 HCF.out
      obtain ⟨z0, z1, z2, z3, z4⟩ := cells5 HZZ.out
      have zf := frz9 HZZ.out
      simp only at HRS HNS HEV
      have hnZ : ¬ G = w.heap.size := by have := HGZ.out; omega
      clear hlk hcf htx
      go_wp2_with fail
      refine (HEV.out _ HIN.out).mono ?_
      rintro e wz ⟨rfl, rfl⟩
      by_cases he : er = 0
      · subst he
        have hz0 : ((0 : Int) != 0) = false := by decide
        have hl := HNS.out rfl
        rw [← hl] at HRS
        have HRT := Lib.hid (Right_any (.agg #[.int .i64 v0, .int .u64 v1, .slice a k c, .bool fr, .int .i64 v3]) ⟨v0, v1, l, fr, v3⟩ (fun i => w.heap.size ≤ i) wr ⟨_, rfl, HOW.out.nsl (fun i hi => by have := (World.ownsRow.lt HOW.out i hi).1; have := HGZ.out; show w.heap.size ≤ i; omega), hv10, hv11, by show l.length ≤ 1000; have := HLK.out; omega⟩)
        have HNSL := Lib.hid (show NSl wr (fun i => w.heap.size ≤ i) (.slice a k c) l from HOW.out.nsl (fun i hi => by have := (World.ownsRow.lt HOW.out i hi).1; have := HGZ.out; show w.heap.size ≤ i; omega))
        have HOB := Lib.hid (show ∀ i, (Value.slice a k c).ownBlock = some i → ¬ i = w.heap.size from fun i hi h => by have := (World.ownsRow.lt HOW.out i hi).1; have := HGZ.out; omega)
        obtain ⟨r, hr⟩ : ∃ r, r = rgtB ⟨v0, v1, l, fr, v3⟩ := ⟨_, rfl⟩
        rw [← hr] at HRT HRS
        clear hl hr
        go_wp2_with fail
        refine HRT.out.mono ?_
        rintro e w3 ⟨rfl, hk3⟩
        have HK3 := Lib.hid (HK.out.trans hk3 (fun _ _ h => absurd h (fun h => h)))
        have HZ3' := Lib.hid (hk3.heap (fun h => h) HZZ.out)
        have HC3' := Lib.hid (hk3.heap (fun h => h) HCF.out)
        have HIN3 := Lib.hid (HIN.out.kept hk3 (fun _ _ h => h) (fun h => h))
        clear x0 x1 x2 x3 x4 z0 z1 z2 z3 z4 zf
        obtain ⟨x0, x1, x2, x3, x4⟩ := cells5 HC3'.out
        obtain ⟨z0, z1, z2, z3, z4⟩ := cells5 HZ3'.out
        have zf := frz9 HZ3'.out
        cases r
        · have HFIN : Hid (readC s = (⟨lx, 0⟩, cf0, 4)) := Lib.hid (by rw [HRS.out, if_neg (by simp), if_neg (by simp)])
          go_wp2_with fail
          have hfin := cf9_set HZ3'.out (.int .i64 0) (.int .u64 0) (.slice none 0 0) (.bool false) (.int .i64 0)
          have hS := cf9_kept w3 w.heap.size (.int .i64 0) (.int .u64 0) (.slice none 0 0) (.bool false) (.int .i64 0)
          have hin := HIN3.out.kept hS (fun i hi h => by have := HF.out i hi; omega) (fun h => by omega)
          have hkk := HK3.out.trans hS (fun i hi h => by omega)
          clear z0 z1 z2 z3 z4 x0 x1 x2 x3 x4
          obtain ⟨z0, z1, z2, z3, z4⟩ := cells5 hfin
          generalize hW3 : World.setCell _ _ _ = W3 at z0 z1 z2 z3 z4 hin hkk ⊢
          exact bodyPost_ret (v := .tuple #[.agg #[.int .i64 0, .int .u64 0, .slice none 0 0, .bool false, .int .i64 0], .int .i64 4]) (by simp [results, Tryd.results10, go_sem, z0, z1, z2, z3, z4]) rfl ⟨_, by rw [HFIN.out], by rw [HFIN.out]; exact hin, by rw [HFIN.out]; exact ⟨_, rfl, NSl.nil _ _, Int.le_refl _, by show (0 : Int) ≤ topE; decide, Nat.zero_le _⟩, hkk⟩
        · have HFIN : Hid (readC s = (⟨lx, 0⟩, ⟨v0, v1, l, fr, v3⟩, 0)) := Lib.hid (by rw [HRS.out, if_neg (by simp), if_pos rfl])
          have HN3 := Lib.hid (HNSL.out.kept hk3 (fun _ _ _ h => h))
          go_wp2_with fail
          have hfin := cf9_set HZ3'.out (.int .i64 v0) (.int .u64 v1) (.slice a k c) (.bool fr) (.int .i64 v3)
          have hS := cf9_kept w3 w.heap.size (.int .i64 v0) (.int .u64 v1) (.slice a k c) (.bool fr) (.int .i64 v3)
          have hin := HIN3.out.kept hS (fun i hi h => by have := HF.out i hi; omega) (fun h => by omega)
          have hkk := HK3.out.trans hS (fun i hi h => by omega)
          have hnn := (row_keptI (row_keptI HOW.out hk3 (fun _ _ h => h)) hS (fun i hi h => HOB.out i hi h)).nsl (F := fun i => w.heap.size ≤ i) (fun i hi => by have := (World.ownsRow.lt HOW.out i hi).1; have := HGZ.out; show w.heap.size ≤ i; omega)
          clear z0 z1 z2 z3 z4 x0 x1 x2 x3 x4
          obtain ⟨z0, z1, z2, z3, z4⟩ := cells5 hfin
          generalize hW3 : World.setCell _ _ _ = W3 at z0 z1 z2 z3 z4 hin hkk hnn ⊢
          exact bodyPost_ret (v := .tuple #[.agg #[.int .i64 v0, .int .u64 v1, .slice a k c, .bool fr, .int .i64 v3], .int .i64 0]) (by simp [results, Tryd.results10, go_sem, z0, z1, z2, z3, z4]) rfl ⟨_, by rw [HFIN.out], by rw [HFIN.out]; exact hin, by rw [HFIN.out]; exact ⟨_, rfl, hnn, hv10, hv11, by show l.length ≤ 1000; have := HLK.out; omega⟩, hkk⟩
      · have heb : (er != 0) = true := by simpa using he
        have HFIN : Hid (readC s = (⟨lx, er⟩, cf0, er)) := Lib.hid (by rw [HRS.out, if_pos he])
        clear he
        go_wp2_with fail
        have hfin := cf9_set HZZ.out (.int .i64 0) (.int .u64 0) (.slice none 0 0) (.bool false) (.int .i64 0)
        have hS := cf9_kept wr w.heap.size (.int .i64 0) (.int .u64 0) (.slice none 0 0) (.bool false) (.int .i64 0)
        have hin := HIN.out.kept hS (fun i hi h => by have := HF.out i hi; omega) (fun h => by omega)
        have hkk := HK.out.trans hS (fun i hi h => by omega)
        clear z0 z1 z2 z3 z4 x0 x1 x2 x3 x4
        obtain ⟨z0, z1, z2, z3, z4⟩ := cells5 hfin
        generalize hW3 : World.setCell _ _ _ = W3 at z0 z1 z2 z3 z4 hin hkk ⊢
        exact bodyPost_ret (v := .tuple #[.agg #[.int .i64 0, .int .u64 0, .slice none 0 0, .bool false, .int .i64 0], .int .i64 er]) (by simp [results, Tryd.results10, go_sem, z0, z1, z2, z3, z4]) rfl ⟨_, by rw [HFIN.out], by rw [HFIN.out]; exact hin, by rw [HFIN.out]; exact ⟨_, rfl, NSl.nil _ _, Int.le_refl _, by show (0 : Int) ≤ topE; decide, Nat.zero_le _⟩, hkk⟩
end Go.Proofs.YtbdenjmnohhhiaaDoor
