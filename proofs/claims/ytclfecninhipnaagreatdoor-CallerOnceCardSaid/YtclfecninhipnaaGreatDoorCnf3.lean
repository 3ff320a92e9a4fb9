/-
  Package conf and its answer: who is settled; whether two are the same. Configurations of any size in memory, and whether they are few. The statements' own functions of layer 9: one in both; one order. Whether two lists of numbers, two configurations, two lists of them are the same. Whether two configurations, two lists of them are the same. Whether two lists of configurations are the same; what may be, of few. Package conf: the rules of the kinds; whether a command is possible. Package conf: whether a command of each kind is possible.
-/
import Derived.Test.YtclfecninhipnaaGreatDoorCnf2
import Derived.Test.YtclfecninhipnaaGreatDoorCnf1
import Derived.BigQuiet
import Derived.Test.YtclfecninhipnaaGreatDoorCmd1
import Derived.Laws.EntriesVeiled
namespace Go.Proofs.YtclfecninhipnaaGreatDoor
open Go.RowKit
set_option linter.unusedVariables false

end Go.Proofs.YtclfecninhipnaaGreatDoor
namespace Go.Proofs.YtclfecninhipnaaGreatDoor
open Go.RowKit
set_option linter.unusedVariables false

/-- A configuration by value, as large as it likes. -/
def CfR (w : World) (F : Nat → Prop) (v : Value) (c : Cf) : Prop :=
  ∃ u, v = .agg #[.int .i64 c.ch, .int .u64 c.ep, u, .bool c.fr, .int .i64 c.jn] ∧ NSl w F u c.ns ∧ 0 ≤ c.ep ∧ c.ep ≤ topE
/-- In five cells. -/
def CfL (w : World) (F : Nat → Prop) (b o : Nat) (c : Cf) : Prop :=
  ∃ u, w.cell? ⟨b, o, none⟩ = some (.int .i64 c.ch) ∧ w.cell? ⟨b, o + 1, none⟩ = some (.int .u64 c.ep) ∧ w.cell? ⟨b, o + 2, none⟩ = some u ∧ w.cell? ⟨b, o + 3, none⟩ = some (.bool c.fr) ∧
    w.cell? ⟨b, o + 4, none⟩ = some (.int .i64 c.jn) ∧ NSl w F u c.ns ∧ 0 ≤ c.ep ∧ c.ep ≤ topE
/-- A slice of them. -/
def CfsR (w : World) (F : Nat → Prop) (v : Value) (l : List Cf) : Prop :=
  ∃ a cap, v = .slice a l.length cap ∧ l.length ≤ cap ∧ cap ≤ maxLen ∧ (a = none → cap = 0) ∧
    (0 < l.length → ∃ b o, a = some ⟨b, o, none⟩ ∧ F b ∧ b < w.heap.size ∧ ∀ j, j < l.length → CfL w F b (o + j * 5) (nthC l j))
def Few (l : List Cf) : Prop := l.length ≤ 6 ∧ ∀ j, j < l.length → (nthC l j).ns.length ≤ 30
instance (l : List Cf) : Decidable (Few l) := inferInstanceAs (Decidable (_ ∧ _))
theorem CfR.cfV {w : World} {F : Nat → Prop} {v : Value} {c : Cf} (h : CfR w F v c) (hf : c.ns.length ≤ 30) : CfV w F v c := by
  obtain ⟨u, h1, h2, h3, h4⟩ := h
  exact ⟨u, h1, h2, h3, h4, by omega⟩
theorem CfsR.cfs {w : World} {F : Nat → Prop} {v : Value} {l : List Cf} (h : CfsR w F v l) (hf : Few l) : CfsAt w F v l := by
  obtain ⟨a, cap, h1, h2, h3, h4, h5⟩ := h
  refine ⟨a, cap, h1, h2, h3, h4, fun hl => ?_⟩
  obtain ⟨b, o, ha, hF, hb, hc⟩ := h5 hl
  refine ⟨b, o, ha, hF, hb, fun j hj => ?_⟩
  obtain ⟨u, e0, e1, e2, e3, e4, hn, q0, q1⟩ := hc j hj
  exact ⟨u, e0, e1, e2, e3, e4, hn, q0, q1, by have := hf.2 j hj; omega⟩
end Go.Proofs.YtclfecninhipnaaGreatDoor
namespace Go.Proofs.YtclfecninhipnaaGreatDoor
open Go.RowKit
set_option linter.unusedVariables false

/-- What is left of the old numbers, in their order, and at most one new one. -/
def Ordd (a b : List Int) : Prop := ∃ (p : Int → Bool) (ex : List Int), b = a.filter p ++ ex ∧ ex.length ≤ 1 ∧ ∀ x ∈ ex, x ∉ a
theorem Ordd.refl (a : List Int) : Ordd a a := ⟨fun _ => true, [], (by rw [List.append_nil]; exact (List.filter_eq_self.2 (fun _ _ => rfl)).symm), by simp, fun _ h => by cases h⟩
end Go.Proofs.YtclfecninhipnaaGreatDoor
namespace Go.Proofs.YtclfecninhipnaaGreatDoor
open Go.RowKit
set_option linter.unusedVariables false

theorem eq_list {l m : List Int} (hl : l.length = m.length) (h : ∀ j, j < l.length → l.getD j 0 = m.getD j 0) : l = m := by
  refine List.ext_getElem hl fun i h1 h2 => ?_
  have := h i h1
  rw [getD_at h1, getD_at h2] at this
  exact this
set_option maxRecDepth 100000 in
theorem Equal_any (v u : Value) (l m : List Int) (F G : Nat → Prop) (w : World) (hv : NSl w F v l) (hu : NSl w G u m) :
    Calls Tryz.prog 123 #[v, u] w (BoolE (decide (l = m)) w) := by
  obtain ⟨a, ca, rfl, _⟩ := id hv
  obtain ⟨b, cb, rfl, _⟩ := id hu
  have h1 := len_le hv
  have h2 := len_le hu
  have HV := Lib.hid hv
  have HU := Lib.hid hu
  clear hv hu
  by_cases hl : l.length = m.length
  · have HL := Lib.hid hl
    obtain ⟨n, hn⟩ : ∃ n, n = m.length := ⟨_, rfl⟩
    have hln : l.length = n := by omega
    have HN := Lib.hid hn
    have HLN := Lib.hid hln
    rw [← hn] at h2 ⊢
    rw [hln]
    rw [← hn] at HU
    rw [hln] at HV
    clear hl hn hln
    go_enter Tryz.func123, Tryz.ntmps123
    go_wp2
    go_loopw [5, 13] (fun _ i wr => ∃ k d : Nat, i = .int .i64 k ∧ k ≤ n ∧ (∀ j, j < k → l.getD j 0 = m.getD j 0) ∧ wr = w.drewN d) (fun _ i _ => n - (intOf i).toNat)
    case atStart => exact ⟨0, 0, rfl, Nat.zero_le _, fun j h => absurd h (by omega), rfl⟩
    case round =>
      obtain ⟨k, d, rfl, hk, hno, rfl⟩ := hrel
      have HNO := Lib.hid hno
      clear hno
      by_cases hlt : k < n
      · obtain ⟨b1, o1, rfl, _, _, hc1⟩ := HV.out.at_ (j := k) (by have := HLN.out; omega)
        obtain ⟨b2, o2, rfl, _, _, hc2⟩ := HU.out.at_ (j := k) (by have := HN.out; omega)
        obtain ⟨x, hx⟩ : ∃ x, x = l.getD k 0 := ⟨_, rfl⟩
        obtain ⟨y, hy⟩ : ∃ y, y = m.getD k 0 := ⟨_, rfl⟩
        rw [← hx] at hc1
        rw [← hy] at hc2
        have HX := Lib.hid hx
        have HY := Lib.hid hy
        have hk0 : (0 : Int) ≤ (k : Int) := by omega
        have hk1 : (k : Int) < (n : Int) := by omega
        clear hx hy
        by_cases he : x = y
        · have HE := Lib.hid he
          have heb : ((x : Int) != (y : Int)) = false := by simpa using he
          clear he
          go_wp2
          go_quiet (fail)
          go_wp2
          exact ⟨⟨k + 1, _, by go_num, by omega, fun j hj => by
            rcases Nat.lt_or_ge j k with h | h
            · exact HNO.out j h
            · obtain rfl : j = k := by omega
              rw [← HX.out, ← HY.out, HE.out], rfl⟩, by simp [intOf]; omega⟩
        · have HE := Lib.hid he
          have heb : ((x : Int) != (y : Int)) = true := by simpa using he
          clear he
          go_wp2
          go_quiet (fail)
          go_wp2
          go_ret
          exact ⟨(by rw [decide_eq_false (fun h => HE.out (by rw [HX.out, HY.out, h]))] <;> rfl), ((Kept.refl _ _).drewN _).drewN _⟩
      · obtain rfl : k = n := by omega
        go_wp2
        go_ret
        exact ⟨(by rw [decide_eq_true (eq_list HL.out (fun j hj => HNO.out j (by rw [HLN.out] at hj; exact hj)))] <;> rfl), (Kept.refl _ _).drewN _⟩
  · have hb : ((l.length : Int) != (m.length : Int)) = true := by simp; omega
    have HE : Hid (decide (l = m) = false) := Lib.hid (decide_eq_false (fun h => hl (by rw [h])))
    clear hl
    go_enter Tryz.func123, Tryz.ntmps123
    go_wp2
    go_ret
    exact ⟨(by rw [HE.out] <;> rfl), Kept.refl _ _⟩
end Go.Proofs.YtclfecninhipnaaGreatDoor
namespace Go.Proofs.YtclfecninhipnaaGreatDoor
open Go.RowKit
set_option linter.unusedVariables false

theorem same_is (a b : Cf) (d : Bool) (hd : d = decide (a.ns = b.ns)) : sameC a b = (decide (a.ch = b.ch) && decide (a.ep = b.ep) && d && (a.fr == b.fr) && decide (a.jn = b.jn)) := by
  subst hd
  unfold sameC
  cases a; cases b
  rw [Bool.eq_iff_iff]
  simp [Cf.mk.injEq, and_assoc]
set_option maxRecDepth 100000 in
set_option maxHeartbeats 2000000 in
theorem CfSame_any (v u : Value) (a b : Cf) (F G : Nat → Prop) (w : World) (hv : CfV w F v a) (hu : CfV w G u b) : Calls Tryz.prog 64 #[v, u] w (BoolE (sameC a b) w) := by
  obtain ⟨x, rfl, hn, _, _, hl⟩ := hv
  obtain ⟨y, rfl, hm, _, _, hl2⟩ := hu
  obtain ⟨xa, xc, rfl, _⟩ := id hn
  obtain ⟨ya, yc, rfl, _⟩ := id hm
  obtain ⟨d, hd⟩ : ∃ d, d = decide (a.ns = b.ns) := ⟨_, rfl⟩
  have HS := Lib.hid (same_is a b d hd)
  have HE := Lib.hid (fun w' (hk : Kept NoB w w') => hd ▸ Equal_any _ _ a.ns b.ns F G w' (hn.kept hk (fun _ _ _ h => h)) (hm.kept hk (fun _ _ _ h => h)))
  obtain ⟨s, hs⟩ : ∃ s, s = sameC a b := ⟨_, rfl⟩
  rw [← hs] at HS ⊢
  clear hn hm hd hs
  obtain ⟨ch, ep, ns, fr, jn⟩ := a
  obtain ⟨ch2, ep2, ns2, fr2, jn2⟩ := b
  simp only at HS HE hl hl2 ⊢
  by_cases e1 : ch = ch2
  rotate_left
  · have b1 : ((ch : Int) == (ch2 : Int)) = false := by simpa using e1
    have HF : Hid (s = false) := Lib.hid (by rw [HS.out, decide_eq_false e1]; simp)
    clear e1
    go_enter Tryz.func64, Tryz.ntmps64
    go_wp2
    go_ret
    exact ⟨(by rw [HF.out] <;> rfl), ((Kept.refl _ _).alloc _).alloc _⟩
  subst e1
  by_cases e2 : ep = ep2
  rotate_left
  · have b1 : ((ep : Int) == (ep2 : Int)) = false := by simpa using e2
    have HF : Hid (s = false) := Lib.hid (by rw [HS.out, decide_eq_false e2]; simp)
    clear e2
    go_enter Tryz.func64, Tryz.ntmps64
    go_wp2
    go_ret
    exact ⟨(by rw [HF.out] <;> rfl), ((Kept.refl _ _).alloc _).alloc _⟩
  subst e2
  have HK := Lib.hid (((Kept.refl NoB w).alloc (.cells #[.int .i64 ch, .int .u64 ep, .slice xa ns.length xc, .bool fr, .int .i64 jn] 44)).alloc (.cells #[.int .i64 ch, .int .u64 ep, .slice ya ns2.length yc, .bool fr2, .int .i64 jn2] 44))
  have hb := heap_alloc_new (w.alloc (.cells #[.int .i64 ch, .int .u64 ep, .slice xa ns.length xc, .bool fr, .int .i64 jn] 44)) (.cells #[.int .i64 ch, .int .u64 ep, .slice ya ns2.length yc, .bool fr2, .int .i64 jn2] 44)
  have hz : (w.alloc (.cells #[.int .i64 ch, .int .u64 ep, .slice xa ns.length xc, .bool fr, .int .i64 jn] 44)).heap.size = w.heap.size + 1 := by simp
  rw [hz] at hb
  have HB := Lib.hid hb
  have HA := Lib.hid (balloc (heap_alloc_new w (.cells #[.int .i64 ch, .int .u64 ep, .slice xa ns.length xc, .bool fr, .int .i64 jn] 44)) (.cells #[.int .i64 ch, .int .u64 ep, .slice ya ns2.length yc, .bool fr2, .int .i64 jn2] 44))
  clear hb hz
  obtain ⟨q, hq⟩ : ∃ q, q = decide (jn = jn2) := ⟨_, rfl⟩
  have HQ : Hid (s = (d && (fr == fr2) && q)) := Lib.hid (by rw [HS.out, hq]; simp)
  have b3 : ((jn : Int) == (jn2 : Int)) = q := by rw [hq]; rfl
  have b4 : ((jn2 : Int) == (jn : Int)) = q := by rw [hq, Bool.eq_iff_iff]; simp; exact ⟨fun h => h.symm, fun h => h.symm⟩
  clear hq
  cases fr <;> cases fr2 <;> cases d <;> cases q
  all_goals
    go_enter Tryz.func64, Tryz.ntmps64
    go_wp2_with (go_at_call 123; refine (HE.out _ HK.out).mono ?_; rintro e w1 ⟨rfl, hk1⟩; obtain ⟨c0, c1, c2, c3, c4⟩ := cells5 (hk1.heap (fun h => h) HA.out); obtain ⟨d0, d1, d2, d3, d4⟩ := cells5 (hk1.heap (fun h => h) HB.out); have HK1 := Lib.hid (HK.out.trans hk1 (fun _ _ h => h)); clear hk1)
    go_ret
    exact ⟨retB (by rw [HQ.out]; rfl), (by first | exact HK1.out | exact ((Kept.refl _ _).alloc _).alloc _)⟩
end Go.Proofs.YtclfecninhipnaaGreatDoor
namespace Go.Proofs.YtclfecninhipnaaGreatDoor
open Go.RowKit
set_option linter.unusedVariables false

end Go.Proofs.YtclfecninhipnaaGreatDoor
namespace Go.Proofs.YtclfecninhipnaaGreatDoor
open Go.RowKit
set_option linter.unusedVariables false

abbrev fnv (f : FuncId) : Value := .func (.func f) #[] #[]
def RuleEnd (f g : FuncId) (w : World) (e : Ending) (w' : World) : Prop := e = .returned (.agg #[fnv f, fnv g]) ∧ Kept NoB w w'
end Go.Proofs.YtclfecninhipnaaGreatDoor
namespace Go.Proofs.YtclfecninhipnaaGreatDoor
open Go.RowKit
set_option linter.unusedVariables false

def IntE (x : Int) (w : World) (e : Ending) (w' : World) : Prop := e = .returned (.int .i64 x) ∧ Kept NoB w w'
theorem cells1 {w : World} {b : Nat} {x : Value} {t : TypeId} (h : w.heap[b]? = some (.cells #[x] t (0, 0))) : w.cell? ⟨b, 0, none⟩ = some x := cell_of_row _ _ 0 _ _ _ h
end Go.Proofs.YtclfecninhipnaaGreatDoor
