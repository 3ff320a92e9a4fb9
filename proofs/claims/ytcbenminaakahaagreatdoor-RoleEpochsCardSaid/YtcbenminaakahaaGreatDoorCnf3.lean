/-
  Package conf: Copy. Whether two lists of numbers, two configurations, two lists of them are the same. Whether two configurations, two lists of them are the same. Package conf and its answer: who is settled; whether two are the same.
-/
import Derived.Test.YtcbenminaakahaaGreatDoorCnf2
namespace Go.Proofs.YtcbenminaakahaaGreatDoor
open Go.RowKit
set_option linter.unusedVariables false

/-- Each one's nodes are a row of the call's own, each another one. -/
def OwnC (B : Nat) (w : World) (l : List Cf) (us : Nat → Value) : Prop :=
  (∀ j, j < l.length → IOwn B w (us j) (nthC l j).ns ∧ 0 ≤ (nthC l j).ep ∧ (nthC l j).ep ≤ topE ∧ (nthC l j).ns.length ≤ 1000) ∧ (∀ i j k, i < l.length → j < l.length → i ≠ j → (us i).ownBlock = some k → (us j).ownBlock ≠ some k)
theorem OwnC.nodes {B : Nat} {w : World} {l : List Cf} {us : Nat → Value} (h : OwnC B w l us) : NodesC w (fun k => B ≤ k) l us := fun j hj => ⟨((h.1 j hj).1).nslB, (h.1 j hj).2⟩
theorem OnlyB.not {g k : Nat} (h : k ≠ g) : ¬ (fun i => i = g) k := h
theorem Kept.only' {S : Nat → Prop} {a w : World} (h : Kept S a w) {g : Nat} (hg : S g ∨ a.heap.size ≤ g) (o : Nat) (u : Value) : Kept S a (w.setCell ⟨g, o, none⟩ u) := h.setCell (p := ⟨g, o, none⟩) hg u
theorem row_ne {w : World} {r cap B : Nat} {l : List Cf} {us : Nat → Value} {v : Value} {ns : List Int} (h : RowC w r cap l us) (hv : IOwn B w v ns) : v.ownBlock ≠ some r := by
  obtain ⟨cs, h1, _⟩ := h
  exact (own_ne hv h1 (by decide)).symm
theorem RowC.put {w : World} {r cap : Nat} {l : List Cf} {us : Nat → Value} (h : RowC w r cap l us) {k : Nat} (hk : k < l.length) (v : Value) : RowC (w.setCell ⟨r, k * 5 + 2, none⟩ v) r cap l (fun j => if j = k then v else us j) := by
  obtain ⟨cs, h1, h2, h3, h4, h5⟩ := h
  refine ⟨cs.setIfInBounds (k * 5 + 2) v, by simp [World.setCell, Array.getElem?_modify, h1], by simpa using h2, h3, h4, fun m hm => ?_⟩
  rw [Array.getElem?_setIfInBounds]
  by_cases e : k * 5 + 2 = m
  · subst e
    rw [if_pos rfl, if_pos (by omega), cellC2, if_pos rfl]
  · rw [if_neg e, h5 m hm]
    congr 1
    unfold cellC
    split
    · rfl
    · split
      · rfl
      · split
        · rename_i hm2
          show us (m / 5) = if m / 5 = k then v else us (m / 5)
          rw [if_neg (by omega)]
        · rfl
def CopyEnd (l : List Cf) (w : World) (e : Ending) (w' : World) : Prop :=
  Kept NoB w w' ∧ ((l = [] ∧ ∃ a c, e = .returned (.slice a 0 c) ∧ c ≤ maxLen ∧ (a = none → c = 0)) ∨ ∃ r cap us, e = .returned (.slice (some ⟨r, 0, none⟩) l.length cap) ∧ w.heap.size ≤ r ∧ RowC w' r cap l us ∧ OwnC w.heap.size w' l us)
end Go.Proofs.YtcbenminaakahaaGreatDoor
namespace Go.Proofs.YtcbenminaakahaaGreatDoor
open Go.RowKit
set_option linter.unusedVariables false

theorem eq_list {l m : List Int} (hl : l.length = m.length) (h : ∀ j, j < l.length → l.getD j 0 = m.getD j 0) : l = m := by
  refine List.ext_getElem hl fun i h1 h2 => ?_
  have := h i h1
  rw [getD_at h1, getD_at h2] at this
  exact this
set_option maxRecDepth 100000 in
theorem Equal_any (v u : Value) (l m : List Int) (F G : Nat → Prop) (w : World) (hv : NSl w F v l) (hu : NSl w G u m) :
    Calls Tryz.prog 130 #[v, u] w (BoolE (decide (l = m)) w) := by
  obtain ⟨a, ca, rfl, _⟩ := id hv
  obtain ⟨b, cb, rfl, _⟩ := id hu
  have h1 := len_le hv
  have h2 := len_le hu
  have HV := Lib.hid hv
  have HU := Lib.hid hu
  clear hv hu
  by_cases hl : l.length = m.length
  · have HL := Lib.hid hl
    obtain ⟨n, hn⟩ : ∃ n, n = m.length := ⟨_, rfl⟩
    have hln : l.length = n := by omega
    have HN := Lib.hid hn
    have HLN := Lib.hid hln
    rw [← hn] at h2 ⊢
    rw [hln]
    rw [← hn] at HU
    rw [hln] at HV
    clear hl hn hln
    go_enter Tryz.func130, Tryz.ntmps130
    go_wp2
    go_loopw [5, 13] (fun _ i wr => ∃ k d : Nat, i = .int .i64 k ∧ k ≤ n ∧ (∀ j, j < k → l.getD j 0 = m.getD j 0) ∧ wr = w.drewN d) (fun _ i _ => n - (intOf i).toNat)
    case atStart => exact ⟨0, 0, rfl, Nat.zero_le _, fun j h => absurd h (by omega), rfl⟩
    case round =>
      obtain ⟨k, d, rfl, hk, hno, rfl⟩ := hrel
      have HNO := Lib.hid hno
      clear hno
      by_cases hlt : k < n
      · obtain ⟨b1, o1, rfl, _, _, hc1⟩ := HV.out.at_ (j := k) (by have := HLN.out; omega)
        obtain ⟨b2, o2, rfl, _, _, hc2⟩ := HU.out.at_ (j := k) (by have := HN.out; omega)
        obtain ⟨x, hx⟩ : ∃ x, x = l.getD k 0 := ⟨_, rfl⟩
        obtain ⟨y, hy⟩ : ∃ y, y = m.getD k 0 := ⟨_, rfl⟩
        rw [← hx] at hc1
        rw [← hy] at hc2
        have HX := Lib.hid hx
        have HY := Lib.hid hy
        have hk0 : (0 : Int) ≤ (k : Int) := by omega
        have hk1 : (k : Int) < (n : Int) := by omega
        clear hx hy
        by_cases he : x = y
        · have HE := Lib.hid he
          have heb : ((x : Int) != (y : Int)) = false := by simpa using he
          clear he
          go_wp2
          go_quiet (fail)
          go_wp2
          exact ⟨⟨k + 1, _, by go_num, by omega, fun j hj => by
            rcases Nat.lt_or_ge j k with h | h
            · exact HNO.out j h
            · obtain rfl : j = k := by omega
              rw [← HX.out, ← HY.out, HE.out], rfl⟩, by simp [intOf]; omega⟩
        · have HE := Lib.hid he
          have heb : ((x : Int) != (y : Int)) = true := by simpa using he
          clear he
          go_wp2
          go_quiet (fail)
          go_wp2
          go_ret
          exact ⟨(by rw [decide_eq_false (fun h => HE.out (by rw [HX.out, HY.out, h]))] <;> rfl), ((Kept.refl _ _).drewN _).drewN _⟩
      · obtain rfl : k = n := by omega
        go_wp2
        go_ret
        exact ⟨(by rw [decide_eq_true (eq_list HL.out (fun j hj => HNO.out j (by rw [HLN.out] at hj; exact hj)))] <;> rfl), (Kept.refl _ _).drewN _⟩
  · have hb : ((l.length : Int) != (m.length : Int)) = true := by simp; omega
    have HE : Hid (decide (l = m) = false) := Lib.hid (decide_eq_false (fun h => hl (by rw [h])))
    clear hl
    go_enter Tryz.func130, Tryz.ntmps130
    go_wp2
    go_ret
    exact ⟨(by rw [HE.out] <;> rfl), Kept.refl _ _⟩
set_option maxRecDepth 100000 in
theorem SameN_any (v u : Value) (l m : List Int) (F G : Nat → Prop) (w : World) (hv : NSl w F v l) (hu : NSl w G u m) :
    Calls Tryz.prog 131 #[v, u] w (BoolE (decide (l = m)) w) := by
  obtain ⟨a, ca, rfl, _⟩ := id hv
  obtain ⟨b, cb, rfl, _⟩ := id hu
  have h1 := len_le hv
  have h2 := len_le hu
  have HV := Lib.hid hv
  have HU := Lib.hid hu
  clear hv hu
  by_cases hl : l.length = m.length
  · have HL := Lib.hid hl
    obtain ⟨n, hn⟩ : ∃ n, n = m.length := ⟨_, rfl⟩
    have hln : l.length = n := by omega
    have HN := Lib.hid hn
    have HLN := Lib.hid hln
    rw [← hn] at h2 ⊢
    rw [hln]
    rw [← hn] at HU
    rw [hln] at HV
    clear hl hn hln
    go_enter Tryz.func131, Tryz.ntmps131
    go_wp2
    go_loopw [5] (fun i wr => ∃ k d : Nat, i = .int .i64 k ∧ k ≤ n ∧ (∀ j, j < k → l.getD j 0 = m.getD j 0) ∧ wr = w.drewN d) (fun i _ => n - (intOf i).toNat)
    case atStart => exact ⟨0, 0, rfl, Nat.zero_le _, fun j h => absurd h (by omega), rfl⟩
    case round =>
      obtain ⟨k, d, rfl, hk, hno, rfl⟩ := hrel
      have HNO := Lib.hid hno
      clear hno
      by_cases hlt : k < n
      · obtain ⟨b1, o1, rfl, _, _, hc1⟩ := HV.out.at_ (j := k) (by have := HLN.out; omega)
        obtain ⟨b2, o2, rfl, _, _, hc2⟩ := HU.out.at_ (j := k) (by have := HN.out; omega)
        obtain ⟨x, hx⟩ : ∃ x, x = l.getD k 0 := ⟨_, rfl⟩
        obtain ⟨y, hy⟩ : ∃ y, y = m.getD k 0 := ⟨_, rfl⟩
        rw [← hx] at hc1
        rw [← hy] at hc2
        have HX := Lib.hid hx
        have HY := Lib.hid hy
        have hk0 : (0 : Int) ≤ (k : Int) := by omega
        have hk1 : (k : Int) < (n : Int) := by omega
        clear hx hy
        by_cases he : x = y
        · have HE := Lib.hid he
          have heb : ((x : Int) != (y : Int)) = false := by simpa using he
          clear he
          go_wp2
          go_quiet (fail)
          go_wp2
          go_roundw
          case rel => exact ⟨k + 1, _, by go_num, by omega, fun j hj => by
            rcases Nat.lt_or_ge j k with h | h
            · exact HNO.out j h
            · obtain rfl : j = k := by omega
              rw [← HX.out, ← HY.out, HE.out], rfl⟩
          case measure => simp [intOf]; omega
        · have HE := Lib.hid he
          have heb : ((x : Int) != (y : Int)) = true := by simpa using he
          clear he
          go_wp2
          go_quiet (fail)
          go_wp2
          go_ret
          exact ⟨(by rw [decide_eq_false (fun h => HE.out (by rw [HX.out, HY.out, h]))] <;> rfl), ((Kept.refl _ _).drewN _).drewN _⟩
      · obtain rfl : k = n := by omega
        go_wp2
        go_ret
        exact ⟨(by rw [decide_eq_true (eq_list HL.out (fun j hj => HNO.out j (by rw [HLN.out] at hj; exact hj)))] <;> rfl), (Kept.refl _ _).drewN _⟩
  · have hb : ((l.length : Int) != (m.length : Int)) = true := by simp; omega
    have HE : Hid (decide (l = m) = false) := Lib.hid (decide_eq_false (fun h => hl (by rw [h])))
    clear hl
    go_enter Tryz.func131, Tryz.ntmps131
    go_wp2
    go_ret
    exact ⟨(by rw [HE.out] <;> rfl), Kept.refl _ _⟩
end Go.Proofs.YtcbenminaakahaaGreatDoor
namespace Go.Proofs.YtcbenminaakahaaGreatDoor
open Go.RowKit
set_option linter.unusedVariables false

theorem same_is (a b : Cf) (d : Bool) (hd : d = decide (a.ns = b.ns)) : sameC a b = (decide (a.ch = b.ch) && decide (a.ep = b.ep) && d && (a.fr == b.fr) && decide (a.jn = b.jn)) := by
  subst hd
  unfold sameC
  cases a; cases b
  rw [Bool.eq_iff_iff]
  simp [Cf.mk.injEq, and_assoc]
set_option maxRecDepth 100000 in
set_option maxHeartbeats 2000000 in
theorem CfSame_any (v u : Value) (a b : Cf) (F G : Nat → Prop) (w : World) (hv : CfV w F v a) (hu : CfV w G u b) : Calls Tryz.prog 62 #[v, u] w (BoolE (sameC a b) w) := by
  obtain ⟨x, rfl, hn, _, _, hl⟩ := hv
  obtain ⟨y, rfl, hm, _, _, hl2⟩ := hu
  obtain ⟨xa, xc, rfl, _⟩ := id hn
  obtain ⟨ya, yc, rfl, _⟩ := id hm
  obtain ⟨d, hd⟩ : ∃ d, d = decide (a.ns = b.ns) := ⟨_, rfl⟩
  have HS := Lib.hid (same_is a b d hd)
  have HE := Lib.hid (fun w' (hk : Kept NoB w w') => hd ▸ Equal_any _ _ a.ns b.ns F G w' (hn.kept hk (fun _ _ _ h => h)) (hm.kept hk (fun _ _ _ h => h)))
  obtain ⟨s, hs⟩ : ∃ s, s = sameC a b := ⟨_, rfl⟩
  rw [← hs] at HS ⊢
  clear hn hm hd hs
  obtain ⟨ch, ep, ns, fr, jn⟩ := a
  obtain ⟨ch2, ep2, ns2, fr2, jn2⟩ := b
  simp only at HS HE hl hl2 ⊢
  by_cases e1 : ch = ch2
  rotate_left
  · have b1 : ((ch : Int) == (ch2 : Int)) = false := by simpa using e1
    have HF : Hid (s = false) := Lib.hid (by rw [HS.out, decide_eq_false e1]; simp)
    clear e1
    go_enter Tryz.func62, Tryz.ntmps62
    go_wp2
    go_ret
    exact ⟨(by rw [HF.out] <;> rfl), ((Kept.refl _ _).alloc _).alloc _⟩
  subst e1
  by_cases e2 : ep = ep2
  rotate_left
  · have b1 : ((ep : Int) == (ep2 : Int)) = false := by simpa using e2
    have HF : Hid (s = false) := Lib.hid (by rw [HS.out, decide_eq_false e2]; simp)
    clear e2
    go_enter Tryz.func62, Tryz.ntmps62
    go_wp2
    go_ret
    exact ⟨(by rw [HF.out] <;> rfl), ((Kept.refl _ _).alloc _).alloc _⟩
  subst e2
  have HK := Lib.hid (((Kept.refl NoB w).alloc (.cells #[.int .i64 ch, .int .u64 ep, .slice xa ns.length xc, .bool fr, .int .i64 jn] 29)).alloc (.cells #[.int .i64 ch, .int .u64 ep, .slice ya ns2.length yc, .bool fr2, .int .i64 jn2] 29))
  have hb := heap_alloc_new (w.alloc (.cells #[.int .i64 ch, .int .u64 ep, .slice xa ns.length xc, .bool fr, .int .i64 jn] 29)) (.cells #[.int .i64 ch, .int .u64 ep, .slice ya ns2.length yc, .bool fr2, .int .i64 jn2] 29)
  have hz : (w.alloc (.cells #[.int .i64 ch, .int .u64 ep, .slice xa ns.length xc, .bool fr, .int .i64 jn] 29)).heap.size = w.heap.size + 1 := by simp
  rw [hz] at hb
  have HB := Lib.hid hb
  have HA := Lib.hid (balloc (heap_alloc_new w (.cells #[.int .i64 ch, .int .u64 ep, .slice xa ns.length xc, .bool fr, .int .i64 jn] 29)) (.cells #[.int .i64 ch, .int .u64 ep, .slice ya ns2.length yc, .bool fr2, .int .i64 jn2] 29))
  clear hb hz
  obtain ⟨q, hq⟩ : ∃ q, q = decide (jn = jn2) := ⟨_, rfl⟩
  have HQ : Hid (s = (d && (fr == fr2) && q)) := Lib.hid (by rw [HS.out, hq]; simp)
  have b3 : ((jn : Int) == (jn2 : Int)) = q := by rw [hq]; rfl
  have b4 : ((jn2 : Int) == (jn : Int)) = q := by rw [hq, Bool.eq_iff_iff]; simp; exact ⟨fun h => h.symm, fun h => h.symm⟩
  clear hq
  cases fr <;> cases fr2 <;> cases d <;> cases q
  all_goals
    go_enter Tryz.func62, Tryz.ntmps62
    go_wp2_with (go_at_call 130; refine (HE.out _ HK.out).mono ?_; rintro e w1 ⟨rfl, hk1⟩; obtain ⟨c0, c1, c2, c3, c4⟩ := cells5 (hk1.heap (fun h => h) HA.out); obtain ⟨d0, d1, d2, d3, d4⟩ := cells5 (hk1.heap (fun h => h) HB.out); have HK1 := Lib.hid (HK.out.trans hk1 (fun _ _ h => h)); clear hk1)
    go_ret
    exact ⟨retB (by rw [HQ.out]; rfl), (by first | exact HK1.out | exact ((Kept.refl _ _).alloc _).alloc _)⟩
set_option maxRecDepth 100000 in
set_option maxHeartbeats 2000000 in
theorem RSame_any (v u : Value) (a b : Cf) (F G : Nat → Prop) (w : World) (hv : CfV w F v a) (hu : CfV w G u b) : Calls Tryz.prog 67 #[v, u] w (BoolE (sameC a b) w) := by
  obtain ⟨x, rfl, hn, _, _, hl⟩ := hv
  obtain ⟨y, rfl, hm, _, _, hl2⟩ := hu
  obtain ⟨xa, xc, rfl, _⟩ := id hn
  obtain ⟨ya, yc, rfl, _⟩ := id hm
  obtain ⟨d, hd⟩ : ∃ d, d = decide (a.ns = b.ns) := ⟨_, rfl⟩
  have HS := Lib.hid (same_is a b d hd)
  have HE := Lib.hid (fun w' (hk : Kept NoB w w') => hd ▸ SameN_any _ _ a.ns b.ns F G w' (hn.kept hk (fun _ _ _ h => h)) (hm.kept hk (fun _ _ _ h => h)))
  obtain ⟨s, hs⟩ : ∃ s, s = sameC a b := ⟨_, rfl⟩
  rw [← hs] at HS ⊢
  clear hn hm hd hs
  obtain ⟨ch, ep, ns, fr, jn⟩ := a
  obtain ⟨ch2, ep2, ns2, fr2, jn2⟩ := b
  simp only at HS HE hl hl2 ⊢
  by_cases e1 : ch = ch2
  rotate_left
  · have b1 : ((ch : Int) == (ch2 : Int)) = false := by simpa using e1
    have HF : Hid (s = false) := Lib.hid (by rw [HS.out, decide_eq_false e1]; simp)
    clear e1
    go_enter Tryz.func67, Tryz.ntmps67
    go_wp2
    go_ret
    exact ⟨(by rw [HF.out] <;> rfl), ((Kept.refl _ _).alloc _).alloc _⟩
  subst e1
  by_cases e2 : ep = ep2
  rotate_left
  · have b1 : ((ep : Int) == (ep2 : Int)) = false := by simpa using e2
    have HF : Hid (s = false) := Lib.hid (by rw [HS.out, decide_eq_false e2]; simp)
    clear e2
    go_enter Tryz.func67, Tryz.ntmps67
    go_wp2
    go_ret
    exact ⟨(by rw [HF.out] <;> rfl), ((Kept.refl _ _).alloc _).alloc _⟩
  subst e2
  have HK := Lib.hid (((Kept.refl NoB w).alloc (.cells #[.int .i64 ch, .int .u64 ep, .slice xa ns.length xc, .bool fr, .int .i64 jn] 29)).alloc (.cells #[.int .i64 ch, .int .u64 ep, .slice ya ns2.length yc, .bool fr2, .int .i64 jn2] 29))
  have hb := heap_alloc_new (w.alloc (.cells #[.int .i64 ch, .int .u64 ep, .slice xa ns.length xc, .bool fr, .int .i64 jn] 29)) (.cells #[.int .i64 ch, .int .u64 ep, .slice ya ns2.length yc, .bool fr2, .int .i64 jn2] 29)
  have hz : (w.alloc (.cells #[.int .i64 ch, .int .u64 ep, .slice xa ns.length xc, .bool fr, .int .i64 jn] 29)).heap.size = w.heap.size + 1 := by simp
  rw [hz] at hb
  have HB := Lib.hid hb
  have HA := Lib.hid (balloc (heap_alloc_new w (.cells #[.int .i64 ch, .int .u64 ep, .slice xa ns.length xc, .bool fr, .int .i64 jn] 29)) (.cells #[.int .i64 ch, .int .u64 ep, .slice ya ns2.length yc, .bool fr2, .int .i64 jn2] 29))
  clear hb hz
  obtain ⟨q, hq⟩ : ∃ q, q = decide (jn = jn2) := ⟨_, rfl⟩
  have HQ : Hid (s = (d && (fr == fr2) && q)) := Lib.hid (by rw [HS.out, hq]; simp)
  have b3 : ((jn : Int) == (jn2 : Int)) = q := by rw [hq]; rfl
  have b4 : ((jn2 : Int) == (jn : Int)) = q := by rw [hq, Bool.eq_iff_iff]; simp; exact ⟨fun h => h.symm, fun h => h.symm⟩
  clear hq
  cases fr <;> cases fr2 <;> cases d <;> cases q
  all_goals
    go_enter Tryz.func67, Tryz.ntmps67
    go_wp2_with (go_at_call 131; refine (HE.out _ HK.out).mono ?_; rintro e w1 ⟨rfl, hk1⟩; obtain ⟨c0, c1, c2, c3, c4⟩ := cells5 (hk1.heap (fun h => h) HA.out); obtain ⟨d0, d1, d2, d3, d4⟩ := cells5 (hk1.heap (fun h => h) HB.out); have HK1 := Lib.hid (HK.out.trans hk1 (fun _ _ h => h)); clear hk1)
    go_ret
    exact ⟨retB (by rw [HQ.out]; rfl), (by first | exact HK1.out | exact ((Kept.refl _ _).alloc _).alloc _)⟩
end Go.Proofs.YtcbenminaakahaaGreatDoor
namespace Go.Proofs.YtcbenminaakahaaGreatDoor
open Go.RowKit
set_option linter.unusedVariables false

end Go.Proofs.YtcbenminaakahaaGreatDoor
