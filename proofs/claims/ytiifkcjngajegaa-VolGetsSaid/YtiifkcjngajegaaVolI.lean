/-
  Layer 30: the root block's bytes: Put of the package.
-/
import Derived.Test.YtiifkcjngajegaaVolH
import Derived.Test.YtiifkcjngajegaaIno2
import Derived.Test.YtiifkcjngajegaaOutB
namespace Go.Proofs.Ytiifkcjngajegaa
open Go.RowKit
set_option linter.unusedVariables false

/-- A writer of at most 1561 bytes that has these; its blocks are F's, or new, and none of P's. -/
def PuV (w : World) (F : Nat → Prop) (go : Nat) (P : Nat → Prop) (bs : List Int) (wr : World) : Prop :=
  ∃ Fo, OutAt wr Fo go ⟨bs, 1561, 0⟩ ∧ (∀ i, Fo i → (F i ∨ w.heap.size ≤ i) ∧ i < wr.heap.size) ∧ (∀ k, P k → ¬ Fo k ∧ k < wr.heap.size) ∧ Kept F w wr
theorem PuV.no {w wr w' : World} {F P : Nat → Prop} {go : Nat} {bs : List Int} (h : PuV w F go P bs wr) (hk : Kept NoB wr w') : PuV w F go P bs w' := by
  obtain ⟨Fo, h1, h2, h3, h4⟩ := h
  exact ⟨Fo, h1.kept hk (fun _ _ h => h), fun i hi => ⟨(h2 i hi).1, Nat.lt_of_lt_of_le (h2 i hi).2 hk.size⟩, fun k hk' => ⟨(h3 k hk').1, Nat.lt_of_lt_of_le (h3 k hk').2 hk.size⟩, h4.trans hk (fun _ _ h => absurd h (fun h => h))⟩
theorem PuV.add {w wr w' : World} {F P : Nat → Prop} {go b : Nat} {bs : List Int} (h : PuV w F go P bs wr) (hk : Kept NoB wr w') (hb : wr.heap.size ≤ b) (hb' : b < w'.heap.size) : PuV w F go (fun k => P k ∨ k = b) bs w' := by
  obtain ⟨Fo, h1, h2, h3, h4⟩ := h
  refine ⟨Fo, h1.kept hk (fun _ _ h => h), fun i hi => ⟨(h2 i hi).1, Nat.lt_of_lt_of_le (h2 i hi).2 hk.size⟩, fun k hk' => ?_, h4.trans hk (fun _ _ h => absurd h (fun h => h))⟩
  rcases hk' with hk' | rfl
  · exact ⟨(h3 k hk').1, Nat.lt_of_lt_of_le (h3 k hk').2 hk.size⟩
  · exact ⟨fun hf => by have := (h2 _ hf).2; omega, hb'⟩
theorem PuV.less {w wr : World} {F P Q : Nat → Prop} {go : Nat} {bs : List Int} (h : PuV w F go P bs wr) (hq : ∀ k, Q k → P k) : PuV w F go Q bs wr := by
  obtain ⟨Fo, h1, h2, h3, h4⟩ := h
  exact ⟨Fo, h1, h2, fun k hk => h3 k (hq k hk), h4⟩
theorem put_fits30 (n : Int) (width : Nat) (h1 : 1 ≤ width) (h8 : width ≤ 8) (hn : n.toNat < 256 ^ width) : putErr n width = 0 := by
  unfold putErr
  rw [if_neg (by omega), Int.toNat_natCast, if_pos (Nat.div_eq_of_lt hn)]
theorem PuV.put {w wr : World} {F P : Nat → Prop} {go : Nat} {bs : List Int} (h : PuV w F go P bs wr) (n : Int) (width : Nat) (h0 : 0 ≤ n) (h1 : 1 ≤ width) (h8 : width ≤ 8) (hn : n.toNat < 256 ^ width) (hb : bs.length + width ≤ 1561) :
    Calls Try.prog 49 #[.pointer (some ⟨go, 0, none⟩), .int .u64 n, .int .i64 width] wr fun r w' => r = .returned (.tuple #[]) ∧ PuV w F go P (bs ++ be n.toNat width) w' ∧ ∃ S, Kept S wr w' ∧ ∀ k, P k → ¬ S k := by
  obtain ⟨Fo, ho, h2, h3, h4⟩ := h
  refine (Put_any go ⟨bs, 1561, 0⟩ n width Fo wr ho h0 (by show bs.length ≤ 1000000; omega)).mono ?_
  rintro r w' ⟨rfl, hO, hk⟩
  rw [put_fits30 n width h1 h8 hn, Int.toNat_natCast] at hO
  have he : (⟨bs, 1561, 0⟩ : OSt).emit 0 (be n.toNat width) = ⟨bs ++ be n.toNat width, 1561, 0⟩ := by
    unfold OSt.emit
    rw [if_pos rfl, if_pos rfl, if_pos (by rw [be_len]; show (width : Int) ≤ 1561 - (bs.length : Int); omega)]
  rw [he] at hO
  have hs := hk.size
  have hs4 := h4.size
  refine ⟨rfl, ⟨fun k => (Fo k ∨ wr.heap.size ≤ k) ∧ k < w'.heap.size, hO.mono (fun k hk' hh => ⟨hh, hk'⟩), fun i hi => ⟨?_, hi.2⟩, fun k hp => ⟨fun hf => ?_, Nat.lt_of_lt_of_le (h3 k hp).2 hs⟩, h4.trans hk (fun i hi hf => ?_)⟩, Fo, hk, fun k hp => (h3 k hp).1⟩
  · rcases hi.1 with hi | hi
    · exact (h2 i hi).1
    · exact .inr (by omega)
  · rcases hf.1 with hf | hf
    · exact (h3 k hp).1 hf
    · have := (h3 k hp).2; omega
  · rcases (h2 i hf).1 with hh | hh
    · exact hh
    · omega

theorem PuV.keeps {w wr : World} {F P : Nat → Prop} {go : Nat} {bs : List Int} (h : PuV w F go P bs wr) : Kept F w wr := by obtain ⟨_, _, _, _, h⟩ := h; exact h
theorem PuV.out_ {w wr : World} {F P : Nat → Prop} {go : Nat} {bs : List Int} (h : PuV w F go P bs wr) : ∃ Fo, OutAt wr Fo go ⟨bs, 1561, 0⟩ := by obtain ⟨Fo, h, _⟩ := h; exact ⟨Fo, h⟩
theorem PuV.text {w wr : World} {F P G : Nat → Prop} {go : Nat} {bs d : List Int} {v : Value} (h : PuV w F go P bs wr) (hv : BSl wr G v d) (hG : ∀ k, G k → P k) (hd : d.length ≤ 64) (hb : bs.length + 2 + d.length ≤ 1561) :
    Calls Try.prog 54 #[.pointer (some ⟨go, 0, none⟩), v] wr fun r w' => r = .returned (.tuple #[]) ∧ PuV w F go P (bs ++ be d.length 2 ++ d) w' ∧ ∃ S, Kept S wr w' ∧ ∀ k, P k → ¬ S k := by
  obtain ⟨Fo, ho, h2, h3, h4⟩ := h
  refine (Text_any go ⟨bs, 1561, 0⟩ v d Fo G wr ho hv (fun k hk => (h3 k (hG k hk)).1) (by show bs.length ≤ 900000; omega) (by omega)).mono ?_
  rintro r w' ⟨rfl, hO, hk⟩
  have hte : textErr d = 0 := by unfold textErr; rw [if_neg (by omega)]
  rw [hte] at hO
  have he : (⟨bs, 1561, 0⟩ : OSt).emit 0 (be d.length 2 ++ d) = ⟨bs ++ be d.length 2 ++ d, 1561, 0⟩ := by
    unfold OSt.emit
    rw [if_pos rfl, if_pos rfl, if_pos (by rw [List.length_append, be_len]; show ((2 + d.length : Nat) : Int) ≤ 1561 - (bs.length : Int); omega), List.append_assoc]
  rw [he] at hO
  have hs := hk.size
  have hs4 := h4.size
  refine ⟨rfl, ⟨fun k => (Fo k ∨ wr.heap.size ≤ k) ∧ k < w'.heap.size, hO.mono (fun k hk' hh => ⟨hh, hk'⟩), fun i hi => ⟨?_, hi.2⟩, fun k hp => ⟨fun hf => ?_, Nat.lt_of_lt_of_le (h3 k hp).2 hs⟩, h4.trans hk (fun i hi hf => ?_)⟩, Fo, hk, fun k hp => (h3 k hp).1⟩
  · rcases hi.1 with hi | hi
    · exact (h2 i hi).1
    · exact .inr (by omega)
  · rcases hf.1 with hf | hf
    · exact (h3 k hp).1 hf
    · have := (h3 k hp).2; omega
  · rcases (h2 i hf).1 with hh | hh
    · exact hh
    · omega
/-- The bytes of patches. -/
def bytQ (p : Pt) : List Int := be p.1.toNat 4 ++ be p.2.1.toNat 8 ++ be p.2.2.length 2 ++ p.2.2
def bytQs (l : List Pt) : List Int := l.flatMap bytQ
def bytP (l : List Pt) : List Int := if l = [] then [] else be l.length 1 ++ bytQs l
theorem bytQs_snoc (l : List Pt) (p : Pt) : bytQs (l ++ [p]) = bytQs l ++ bytQ p := by unfold bytQs; rw [List.flatMap_append]; simp
theorem bytQ_len (p : Pt) : (bytQ p).length = 14 + p.2.2.length := by unfold bytQ; simp only [List.length_append, be_len]
theorem bytQs_len (l : List Pt) (h : ∀ j, j < l.length → (ptl l j).2.2.length ≤ 64) : (bytQs l).length ≤ 78 * l.length := by
  have hm : ∀ p ∈ l, p.2.2.length ≤ 64 := fun p hp => by
    obtain ⟨j, hj, rfl⟩ := List.getElem_of_mem hp
    have := h j hj
    rwa [ptl_eq hj] at this
  clear h
  induction l with
  | nil => simp [bytQs]
  | cons p l ih =>
    have h1 := ih (fun q hq => hm q (by simp [hq]))
    have h2 := hm p (by simp)
    have h3 := bytQ_len p
    unfold bytQs at h1 ⊢
    rw [List.flatMap_cons, List.length_append, List.length_cons]
    omega
theorem ptl_take (l : List Pt) (k j : Nat) (h : j < k) : ptl (l.take k) j = ptl l j := by unfold ptl; rw [List.getD_eq_getElem?_getD, List.getD_eq_getElem?_getD, List.getElem?_take, if_pos h]
theorem take_snoc30 {l : List Pt} {k : Nat} (h : k < l.length) : l.take (k + 1) = l.take k ++ [ptl l k] := by rw [ptl_eq h]; exact List.take_succ_eq_append_getElem h
theorem chkGo_zero {n b : Int} {l : List Pt} : ∀ {prev : Int}, chkGo n b prev l = 0 → ∀ j, j < l.length → (ptl l j).2.2.length ≤ 64 := by
  induction l with
  | nil => intro prev _ j hj; cases hj
  | cons p l ih =>
    intro prev h j hj
    rw [chkGo] at h
    by_cases hs : chkStep n b prev p = 0
    · rw [if_pos hs] at h
      cases j with
      | zero =>
        show p.2.2.length ≤ 64
        unfold chkStep at hs
        split at hs
        · cases hs
        · split at hs
          · cases hs
          · split at hs
            · cases hs
            · omega
      | succ j => exact ih h j (by simpa using hj)
    · rw [if_neg hs] at h; exact absurd h hs
theorem chkP_zero {n b : Int} {l : List Pt} (h : chkP n b l = 0) : rgt30 n b ∧ l.length ≤ 20 ∧ chkGo n b 0 l = 0 ∧ ∀ j, j < l.length → (ptl l j).2.2.length ≤ 64 := by
  unfold chkP at h
  by_cases hr : rgt30 n b
  · rw [if_neg (fun hh => hh hr)] at h
    by_cases h2 : 20 < l.length
    · rw [if_pos h2] at h; cases h
    · rw [if_neg h2] at h; exact ⟨hr, by omega, h, chkGo_zero h⟩
  · rw [if_pos hr] at h; cases h
/-- What Put tells. -/
def putP (n b : Int) (l : List Pt) : List Int := if chkP n b l = 0 then bytP l else []
def VPutRel (w1 : World) (l : List Pt) (iv : Value) (wr : World) : Prop :=
  ∃ k : Nat, k ≤ l.length ∧ iv = .int .i64 k ∧ PuV w1 NoB w1.heap.size (fun i => i < w1.heap.size) (be l.length 1 ++ bytQs (l.take k)) wr
set_option maxRecDepth 100000 in
set_option maxHeartbeats 4000000 in
theorem vPut_bad (n b : Int) (v : Value) (l : List Pt) (F G : Nat → Prop) (w : World) (h : PSl w F G v l) (hkeys : ∀ j, j < l.length → 0 ≤ (ptl l j).1 ∧ (ptl l j).1 < 4294967296) (hz : chkP n b l ≠ 0 ∨ l = []) :
    Calls Try.prog 27 #[.agg #[.int .i64 n, .int .i64 b], v] w (BErr (chkP n b l) [] w) := by
  obtain ⟨a, c, rfl, hmax⟩ := h.form
  have hk0 := (Kept.refl NoB w).alloc (.cells #[.int .i64 n, .int .i64 b] 44)
  have HK0 := Lib.hid hk0
  have HB := Lib.hid (heap_alloc_new w (.cells #[.int .i64 n, .int .i64 b] 44))
  obtain ⟨c0, c1⟩ := cell2_30 HB.out
  have HP := Lib.hid (h.no hk0)
  have HC := Lib.hid (vCheck_any n b _ l _ _ _ (h.no hk0) hkeys)
  obtain ⟨er, her⟩ : ∃ er, er = chkP n b l := ⟨_, rfl⟩
  rw [← her] at HC hz ⊢
  clear h hk0 hkeys her
  by_cases he : er = 0
  · have hl : l = [] := hz.resolve_left (fun h => h he)
    have g1 : (er != 0) = false := by rw [he]; rfl
    have g2 : ((l.length : Int) == 0) = true := by rw [hl]; rfl
    clear hz he hl
    go_enter Try.func27, Try.ntmps27
    go_wp2_with (go_at_call 25; refine HC.out.mono ?_; rintro e w1 ⟨rfl, hk⟩; have HK1 := Lib.hid (HK0.out.trans hk (fun _ _ h => h)); have HP1 := Lib.hid (HP.out.no hk); clear hk c0 c1)
    go_ret2
    exact BErr.mk (BSl.nil _ (fun _ => False)) (fun _ h => h.elim) HK1.out
  · have g1 : (er != 0) = true := bne_iff_ne.2 he
    clear hz he
    go_enter Try.func27, Try.ntmps27
    go_wp2_with (go_at_call 25; refine HC.out.mono ?_; rintro e w1 ⟨rfl, hk⟩; have HK1 := Lib.hid (HK0.out.trans hk (fun _ _ h => h)); have HP1 := Lib.hid (HP.out.no hk); clear hk c0 c1)
    go_ret2
    exact BErr.mk (BSl.nil _ (fun _ => False)) (fun _ h => h.elim) HK1.out
set_option maxRecDepth 100000 in
set_option maxHeartbeats 20000000 in
theorem vPut_ok (n b : Int) (v : Value) (l : List Pt) (F G : Nat → Prop) (w : World) (h : PSl w F G v l) (hG : ∀ k, G k → k < w.heap.size) (hkeys : ∀ j, j < l.length → (0 ≤ (ptl l j).1 ∧ (ptl l j).1 < 4294967296) ∧ 0 ≤ (ptl l j).2.1 ∧ (ptl l j).2.1 < 18446744073709551616) (hz : chkP n b l = 0) (hl : l ≠ []) :
    Calls Try.prog 27 #[.agg #[.int .i64 n, .int .i64 b], v] w (BErr 0 (bytP l) w) := by
  obtain ⟨hrg, hl20, _, hd64⟩ := chkP_zero hz
  obtain ⟨a, c, rfl, hmax⟩ := h.form
  have hk0 := (Kept.refl NoB w).alloc (.cells #[.int .i64 n, .int .i64 b] 44)
  have HK0 := Lib.hid hk0
  have HB := Lib.hid (heap_alloc_new w (.cells #[.int .i64 n, .int .i64 b] 44))
  obtain ⟨c0, c1⟩ := cell2_30 HB.out
  have HP := Lib.hid (h.no hk0)
  have HC := Lib.hid (vCheck_any n b _ l _ _ _ (h.no hk0) (fun j hj => (hkeys j hj).1))
  rw [hz] at HC
  have HKY := Lib.hid hkeys
  have HD64 := Lib.hid hd64
  have HGG := Lib.hid hG
  have g2 : ((l.length : Int) == 0) = false := by simpa using hl
  have wl : IntKind.u64.wrap (l.length : Int) = (l.length : Int) := IntWalk.u64_in _ (by omega)
  have HBP : Hid (bytP l = be l.length 1 ++ bytQs l) := Lib.hid (by unfold bytP; rw [if_neg hl])
  rw [HBP.out]
  have HQL := Lib.hid (bytQs_len l hd64)
  clear h hk0 hkeys hz hrg hd64 hG hl
  go_enter Try.func27, Try.ntmps27
  go_wp2_with (go_at_call 25; refine HC.out.mono ?_; rintro e w1 ⟨rfl, hk⟩; have HK1 := Lib.hid (HK0.out.trans hk (fun _ _ h => h)); have HP1 := Lib.hid (HP.out.no hk); clear hk c0 c1)
  refine (New_any 1561 w1 (by omega)).mono ?_
  rintro e w2 ⟨rfl, ho, hk⟩
  rw [show max (1561 : Int) 0 = 1561 from rfl] at ho
  have HP0 : Hid (PuV w1 NoB w1.heap.size (fun i => i < w1.heap.size) [] w2) := Lib.hid ⟨fun i => w1.heap.size ≤ i ∧ i < w2.heap.size, ho.mono (fun k hk h => ⟨h, hk⟩), fun i hi => ⟨.inr hi.1, hi.2⟩, fun k hk' => ⟨fun h => by omega, by have := hk.size; omega⟩, hk⟩
  have hnn : (l.length : Int).toNat = l.length := by omega
  clear ho hk
  go_wp2_with fail
  refine (HP0.out.put (l.length : Int) 1 (by omega) (by decide) (by decide) (by show (l.length : Int).toNat < 256; omega) (by simp)).mono ?_
  rintro e w5 ⟨rfl, hp, _⟩
  have HP3 : Hid (PuV w1 NoB w1.heap.size (fun i => i < w1.heap.size) (be l.length 1 ++ bytQs (l.take 0)) w5) := Lib.hid (by
    have : be l.length 1 ++ bytQs (l.take 0) = [] ++ be (l.length : Int).toNat 1 := by rw [hnn]; unfold bytQs; simp
    rw [this]; exact hp)
  clear hp wl hnn
  go_wp2_with fail
  go_loopw [29] (VPutRel w1 l) (fun i _ => l.length - (RowKit.intOf i).toNat)
  case atStart => exact ⟨0, Nat.zero_le _, rfl, HP3.out⟩
  case round =>
    obtain ⟨k, hk, rfl, hst⟩ := hrel
    have HST := Lib.hid hst
    have hkp := hst.keeps
    by_cases hlt : k < l.length
    · obtain ⟨bb, oo, da, dn, dc, ha, _, _, e0, e1, e2, hdn, hdd⟩ := (HP1.out.no hkp).at_ hlt
      subst ha
      have hky := HKY.out k hlt
      have hd6 := HD64.out k hlt
      have hbs : be l.length 1 ++ bytQs (l.take (k + 1)) = be l.length 1 ++ bytQs (l.take k) ++ be (ptl l k).1.toNat 4 ++ be (ptl l k).2.1.toNat 8 ++ be (ptl l k).2.2.length 2 ++ (ptl l k).2.2 := by rw [take_snoc30 hlt, bytQs_snoc]; unfold bytQ; simp only [List.append_assoc]
      have hlen : (be l.length 1 ++ bytQs (l.take k)).length ≤ 1 + 78 * k := by
        have := bytQs_len (l.take k) (fun j hj => by
          rw [List.length_take] at hj
          rw [ptl_take _ _ _ (by omega)]; exact HD64.out j (by omega))
        rw [List.length_append, be_len]
        rw [List.length_take] at this
        omega
      obtain ⟨x, hx⟩ : ∃ x, x = ptl l k := ⟨_, rfl⟩
      rw [← hx] at e0 e1 hdn hdd hky hd6 hbs
      obtain ⟨ky, vr, dd⟩ := x
      simp only at e0 e1 hdn hdd hky hd6 hbs
      have HBS := Lib.hid hbs
      obtain ⟨B, hB⟩ : ∃ B, B = be l.length 1 ++ bytQs (l.take k) := ⟨_, rfl⟩
      rw [← hB] at HBS HST hlen
      have hka := (Kept.refl NoB wr).alloc (.cells #[.int .u32 ky, .int .u64 vr, .slice da dn dc] 101)
      have hbx := heap_alloc_new wr (.cells #[.int .u32 ky, .int .u64 vr, .slice da dn dc] 101)
      have HBX := Lib.hid hbx
      have HPA := Lib.hid (HST.out.add hka (Nat.le_refl _) (heap_lt hbx))
      have hDD := hdd.kept hka (fun _ _ h => h)
      have w2' : IntKind.u64.wrap ky = ky := IntWalk.u64_in _ (by omega)
      have hk0 : (0 : Int) ≤ (k : Int) := by omega
      have hk1 : (k : Int) < (l.length : Int) := by omega
      have HSZ : Hid (w.heap.size ≤ w1.heap.size) := Lib.hid HK1.out.size
      clear hst hkp hx hbs hB hka hbx hdn
      go_wp2_with fail
      refine (HPA.out.put ky 4 hky.1.1 (by decide) (by decide) (by show ky.toNat < 4294967296; omega) (by omega)).mono ?_
      rintro e p1 ⟨rfl, hp1, S1, hs1, hS1⟩
      have HP1x := Lib.hid hp1
      have HBX1 := Lib.hid (hs1.heap (hS1 _ (.inr rfl)) HBX.out)
      have q1 := cell_of_row _ _ 1 _ _ _ HBX1.out
      have HD1 := Lib.hid (hDD.kept hs1 (fun k hk => hS1 k (.inl (by have := HGG.out k hk; have := HSZ.out; omega))))
      clear hp1 hs1 hS1 e0 e1 e2 hDD
      go_wp2_with fail
      refine (HP1x.out.put vr 8 hky.2.1 (by decide) (by decide) (by show vr.toNat < 18446744073709551616; omega) (by simp [be_len]; omega)).mono ?_
      rintro e p2 ⟨rfl, hp2, S2, hs2, hS2⟩
      have HP2x := Lib.hid hp2
      have HBX2 := Lib.hid (hs2.heap (hS2 _ (.inr rfl)) HBX1.out)
      have q2 := cell_of_row _ _ 2 _ _ _ HBX2.out
      have HD2 := Lib.hid (HD1.out.kept hs2 (fun k hk => hS2 k (.inl (by have := HGG.out k hk; have := HSZ.out; omega))))
      clear hp2 hs2 hS2 q1
      go_wp2_with fail
      refine (HP2x.out.text HD2.out (fun k hk => .inl (by have := HGG.out k hk; have := HSZ.out; omega)) hd6 (by simp [be_len]; omega)).mono ?_
      rintro e p3 ⟨rfl, hp3, _⟩
      have HP3x := Lib.hid (hp3.less (Q := fun i => i < w1.heap.size) (fun k hk => .inl hk))
      clear hp3 q2
      go_wp2_with fail
      go_roundw
      case rel => exact ⟨k + 1, by omega, by go_num, by rw [HBS.out]; exact HP3x.out⟩
      case measure => simp [RowKit.intOf]; omega
    · obtain rfl : k = l.length := by omega
      have HKZ := Lib.hid (HK1.out.trans hkp (fun _ _ h => h))
      have hbl : (be l.length 1 ++ bytQs l).length ≤ 1000000 := by rw [List.length_append, be_len]; have := HQL.out; omega
      obtain ⟨Fo, hfo⟩ := hst.out_
      rw [List.take_length] at hfo
      have HD := Lib.hid (Done_any w1.heap.size ⟨be l.length 1 ++ bytQs l, 1561, 0⟩ Fo wr hfo hbl)
      clear hst hkp hfo hbl
      go_wp2_with fail
      refine HD.out.mono ?_
      rintro e w9 ⟨v9, rfl, hb9, hk9⟩
      have HB9 := Lib.hid hb9
      have HK9 := Lib.hid (HKZ.out.trans hk9 (fun _ _ h => h))
      have hwz := HKZ.out.size
      clear hb9 hk9
      go_wp2
      go_ret2
      exact BErr.mk HB9.out (fun k hk => by omega) HK9.out
theorem vPut_any (n b : Int) (v : Value) (l : List Pt) (F G : Nat → Prop) (w : World) (h : PSl w F G v l) (hG : ∀ k, G k → k < w.heap.size) (hkeys : ∀ j, j < l.length → (0 ≤ (ptl l j).1 ∧ (ptl l j).1 < 4294967296) ∧ 0 ≤ (ptl l j).2.1 ∧ (ptl l j).2.1 < 18446744073709551616) :
    Calls Try.prog 27 #[.agg #[.int .i64 n, .int .i64 b], v] w (BErr (chkP n b l) (putP n b l) w) := by
  unfold putP
  by_cases hz : chkP n b l = 0
  · by_cases hl : l = []
    · have : (if chkP n b l = 0 then bytP l else []) = [] := by rw [if_pos hz]; unfold bytP; rw [if_pos hl]
      rw [this]
      exact vPut_bad n b v l F G w h (fun j hj => (hkeys j hj).1) (.inr hl)
    · rw [if_pos hz, hz]
      exact vPut_ok n b v l F G w h hG hkeys hz hl
  · rw [if_neg hz]
    exact vPut_bad n b v l F G w h (fun j hj => (hkeys j hj).1) (.inl hz)
end Go.Proofs.Ytiifkcjngajegaa
