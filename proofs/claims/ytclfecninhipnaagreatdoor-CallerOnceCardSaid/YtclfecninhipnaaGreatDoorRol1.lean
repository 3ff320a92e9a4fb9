/-
  Roles: in plain words; numbers in a slice: the first place of one; configurations of any size: Right of both. Package role: Head, Tail, inside, Of. Package role: inside. Package role: inside, Of. The chapter's Of; Of of the program. The chapter's Of. Roles fit together, in plain words (P19.4). Package role and the chapter: Reader, Newer.
-/
import Derived.Test.YtclfecninhipnaaGreatDoorCnf3
import Derived.Test.YtclfecninhipnaaGreatDoorCho1
import Derived.IntWalk
import Derived.Deep.Cut
namespace Go.Proofs.YtclfecninhipnaaGreatDoor
open Go.RowKit
set_option linter.unusedVariables false

/-- What a node is. -/
structure Rl where
  inn : Bool
  joins : Bool
  head : Bool
  tail : Bool
  waits : Bool
  place : Int
  pred : Int
  succ : Int
def rl0 : Rl := ⟨false, false, false, false, false, 0, 0, 0⟩
def rlV (r : Rl) : Value := .agg #[.bool r.inn, .bool r.joins, .bool r.head, .bool r.tail, .bool r.waits, .int .i64 r.place, .int .i64 r.pred, .int .i64 r.succ]
def lastN (c : Cf) : Int := c.ns.getD (c.ns.length - 1) 0
def predN (c : Cf) (k : Nat) : Int := if k = 0 then 0 else c.ns.getD (k - 1) 0
def succN (c : Cf) (k : Nat) : Int := if k + 1 = c.ns.length then c.jn else c.ns.getD (k + 1) 0
def insR (c : Cf) (k : Nat) : Rl := ⟨true, false, decide (k = 0), decide (k + 1 = c.ns.length), decide (k + 1 = c.ns.length) && c.fr, k, predN c k, succN c k⟩
def joinR (c : Cf) : Rl := ⟨false, true, false, false, true, 0, lastN c, 0⟩
def plc (l : List Int) (x : Int) : Nat := l.findIdx (· == x)
def rlOf (c : Cf) (n : Int) : Rl := if rgtB c = true then (if n ∈ c.ns then insR c (plc c.ns n) else if n ≠ 0 ∧ n = c.jn then joinR c else rl0) else rl0
theorem plc_lt {l : List Int} {x : Int} (h : x ∈ l) : plc l x < l.length := by
  unfold plc
  exact List.findIdx_lt_length.2 ⟨x, h, by simp⟩
theorem plc_at {l : List Int} {x : Int} (h : x ∈ l) : l.getD (plc l x) 0 = x := by
  have h1 := plc_lt h
  rw [getD_at h1]
  have h2 : (l[l.findIdx (· == x)]'h1 == x) = true := @List.findIdx_getElem _ (· == x) l h1
  exact eq_of_beq h2
theorem plc_of {l : List Int} {x : Int} {k : Nat} (h : k < l.length) (he : l.getD k 0 = x) (hno : x ∉ l.take k) : plc l x = k := by
  unfold plc
  refine (List.findIdx_eq h).2 ⟨by rw [← getD_at h, he]; simp, fun j hj => ?_⟩
  refine beq_eq_false_iff_ne.2 fun e => hno ?_
  rw [← e]
  exact List.mem_take_iff_getElem.2 ⟨j, by omega, rfl⟩
theorem rgt_of {c : Cf} (h : rgtB c = true) : Rgt c := of_decide_eq_true h
theorem nsq_of {c : Cf} (h : rgtB c = true) : Unq c.ns := by
  have h1 := (rgt_of h).2.2.2.2.2.2
  unfold Cf.mem at h1
  split at h1
  · exact h1
  · exact ⟨fun x hx => h1.1 x (List.mem_append_left _ hx), (List.nodup_append.1 h1.2).1⟩
theorem jn_not {c : Cf} (h : rgtB c = true) (h0 : c.jn ≠ 0) : c.jn ∉ c.ns ∧ 1 ≤ c.jn ∧ c.jn ≤ 24 := by
  have h1 := (rgt_of h).2.2.2.2.2.2
  unfold Cf.mem at h1
  rw [if_neg h0] at h1
  refine ⟨fun hx => (List.nodup_append.1 h1.2).2.2 _ hx _ (by simp) rfl, ?_⟩
  exact h1.1 _ (List.mem_append_right _ (by simp))
theorem zero_not {c : Cf} (h : rgtB c = true) : (0 : Int) ∉ c.ns := fun h0 => by
  have := (nsq_of h).1 0 h0
  omega
/-- In a row without a number twice a number has one place. -/
theorem nodup_place {l : List Int} (h : l.Nodup) {i j : Nat} (hi : i < l.length) (hj : j < l.length) (e : l.getD i 0 = l.getD j 0) : i = j := by
  rw [getD_at hi, getD_at hj] at e
  exact (List.getElem_inj h).1 e
theorem plc_nodup {l : List Int} (h : l.Nodup) {k : Nat} (hk : k < l.length) : plc l (l.getD k 0) = k := by
  have hm : l.getD k 0 ∈ l := by rw [getD_at hk]; exact List.getElem_mem hk
  exact nodup_place h (plc_lt hm) hk (plc_at hm)

/-- The first place of a number, or -1. -/
theorem IndexP19 (v : Value) (l : List Int) (x : Int) (F : Nat → Prop) (w : World) (h : NSl w F v l) :
    Calls Tryz.prog 128 #[v, .int .i64 x] w fun e w' => (e = .returned (.int .i64 (if x ∈ l then (plc l x : Int) else -1))) ∧ w = w' := by
  obtain ⟨a, cap, rfl, _⟩ := id h
  have hl := len_le h
  have H := Lib.hid h
  clear h
  obtain ⟨d, hd⟩ : ∃ d, d = (if x ∈ l then (plc l x : Int) else -1) := ⟨_, rfl⟩
  rw [← hd]
  have HD := Lib.hid hd
  clear hd
  go_enter Tryz.func128, Tryz.ntmps128
  go_wp2
  go_loop [8] (fun i => ∃ k : Nat, i = .int .i64 k ∧ k ≤ l.length ∧ x ∉ l.take k) (fun i => l.length - (intOf i).toNat)
  case atStart => exact ⟨0, rfl, Nat.zero_le _, by simp⟩
  case round =>
    obtain ⟨k, rfl, hk, hno⟩ := hrel
    have HN := Lib.hid hno
    clear hno
    by_cases hlt : k < l.length
    · obtain ⟨b, o, rfl, _, _, hc⟩ := H.out.at_ hlt
      have HT := Lib.hid (take_one hlt)
      have HA : Hid (l.getD k 0 ∈ l) := Lib.hid (by rw [getD_at hlt]; exact List.getElem_mem _)
      have HP : Hid (∀ x, l.getD k 0 = x → x ∉ l.take k → plc l x = k) := Lib.hid (fun x he hno => plc_of hlt he hno)
      obtain ⟨y, hy⟩ : ∃ y, y = l.getD k 0 := ⟨_, rfl⟩
      rw [← hy] at hc HT HA HP
      have hk1 : (k : Int) < (l.length : Int) := by omega
      clear hy
      by_cases he : x = y
      · subst he
        have HE : Hid (d = (k : Int)) := Lib.hid (by rw [HD.out, if_pos HA.out, HP.out x rfl HN.out])
        go_wp2
        go_ret
        exact ⟨(by rw [HE.out] <;> rfl), rfl⟩
      · have hb : ((x : Int) == (y : Int)) = false := by simpa using he
        have HE := Lib.hid he
        clear he
        go_wp2
        go_round
        case rel => exact ⟨k + 1, by go_num, by omega, by
          rw [HT.out]
          simp only [List.mem_append, List.mem_singleton, not_or]
          exact ⟨HN.out, HE.out⟩⟩
        case measure => simp [intOf]; omega
    · obtain rfl : k = l.length := by omega
      have HE : Hid (d = -1) := Lib.hid (by rw [HD.out, if_neg (by have := HN.out; rwa [List.take_length] at this)])
      go_wp2
      go_ret
      exact ⟨(by rw [HE.out] <;> rfl), rfl⟩

theorem CfR.kept {S F : Nat → Prop} {w w' : World} {v : Value} {c : Cf} (h : CfR w F v c) (hk : Kept S w w') (hs : ∀ k, k < w.heap.size → F k → ¬ S k) : CfR w' F v c := by
  obtain ⟨u, h1, h2, h3⟩ := h
  exact ⟨u, h1, h2.kept hk hs, h3⟩
theorem CfR.no {F : Nat → Prop} {w w' : World} {v : Value} {c : Cf} (h : CfR w F v c) (hk : Kept NoB w w') : CfR w' F v c := h.kept hk (fun _ _ _ h => h)
theorem CfR.v {F : Nat → Prop} {w : World} {v : Value} {c : Cf} (h : CfR w F v c) (hl : c.ns.length ≤ 1000) : CfV w F v c := by
  obtain ⟨u, h1, h2, h3, h4⟩ := h
  exact ⟨u, h1, h2, h3, h4, hl⟩
theorem great_not {c : Cf} (h : 1000 < c.ns.length) : rgtB c = false := decide_eq_false fun hr => by have := hr.2.2.2.2.1; omega
theorem Right19 (v : Value) (c : Cf) (F : Nat → Prop) (w : World) (h : CfR w F v c) : Calls Tryz.prog 48 #[v] w (BoolE (rgtB c) w) := by
  by_cases hl : c.ns.length ≤ 1000
  · exact Right_any v c F w (h.v hl)
  · rw [great_not (by omega)]
    exact Right_great v c F w h (by omega)
end Go.Proofs.YtclfecninhipnaaGreatDoor
namespace Go.Proofs.YtclfecninhipnaaGreatDoor
open Go.RowKit
set_option linter.unusedVariables false

def NumE19 (r : Int) (w : World) (e : Ending) (w' : World) : Prop := e = .returned (.int .i64 r) ∧ Kept NoB w w'
def headN (c : Cf) : Int := if rgtB c = true then c.ns.getD 0 0 else 0
def tailN (c : Cf) : Int := if rgtB c = true then lastN c else 0
set_option maxRecDepth 100000 in
theorem Head19 (v : Value) (c : Cf) (F : Nat → Prop) (w : World) (h : CfR w F v c) : Calls Tryz.prog 59 #[v] w (NumE19 (headN c) w) := by
  obtain ⟨u, rfl, hn, h0, htop⟩ := id h
  obtain ⟨a, cap, rfl, hn1, hn2, _⟩ := id hn
  unfold maxLen at hn2
  have HR := Lib.hid (fun w' (hk : Kept NoB w w') => Right19 _ c F w' (h.no hk))
  have HN := Lib.hid (fun w' (hk : Kept NoB w w') => hn.kept hk (fun _ _ _ h => h))
  have HL : Hid (rgtB c = true → 1 ≤ c.ns.length) := Lib.hid (fun h => (rgt_of h).2.2.2.1)
  have HD : Hid (headN c = if rgtB c = true then c.ns.getD 0 0 else 0) := Lib.hid rfl
  have hb := heap_alloc_new w (.cells #[.int .i64 c.ch, .int .u64 c.ep, .slice a c.ns.length cap, .bool c.fr, .int .i64 c.jn] 44)
  have HK := Lib.hid ((Kept.refl NoB w).alloc (.cells #[.int .i64 c.ch, .int .u64 c.ep, .slice a c.ns.length cap, .bool c.fr, .int .i64 c.jn] 44))
  obtain ⟨r, hr⟩ : ∃ r, r = rgtB c := ⟨_, rfl⟩
  rw [← hr] at HR HL HD
  obtain ⟨d, hd⟩ : ∃ d, d = headN c := ⟨_, rfl⟩
  rw [← hd] at HD ⊢
  obtain ⟨ch, ep, ns, fr, jn⟩ := c
  simp only at HR HN HL HD hb HK hn1 h0 htop ⊢
  have HB := Lib.hid hb
  clear h hn hr hd hb
  go_enter Tryz.func59, Tryz.ntmps59
  go_wp2_with fail
  refine (HR.out _ HK.out).mono ?_
  rintro e w1 ⟨rfl, hk⟩
  have HK1 := Lib.hid (HK.out.trans hk (fun _ _ h => h))
  obtain ⟨c0, c1, c2, c3, c4⟩ := cells5 (hk.heap (fun h => h) HB.out)
  clear hk
  cases r with
  | false =>
    go_wp2
    go_ret
    exact ⟨(by rw [HD.out]; rfl), HK1.out⟩
  | true =>
    have hl1 := HL.out rfl
    have hl1i : (0 : Int) < (ns.length : Int) := by omega
    obtain ⟨b, o, rfl, _, _, hc⟩ := (HN.out _ HK1.out).at_ (j := 0) (by omega)
    rw [Nat.add_zero] at hc
    obtain ⟨y, hy⟩ : ∃ y, y = ns.getD 0 0 := ⟨_, rfl⟩
    rw [← hy] at hc HD
    clear hy
    go_wp2
    go_ret
    exact ⟨(by rw [HD.out]; rfl), HK1.out⟩
end Go.Proofs.YtclfecninhipnaaGreatDoor
namespace Go.Proofs.YtclfecninhipnaaGreatDoor
open Go.RowKit
set_option linter.unusedVariables false

def nearV (c : Cf) (x : Int) : Int := if x < 0 then 0 else if (c.ns.length : Int) - 1 < x then c.jn else c.ns.getD x.toNat 0
/-- What a place's neighbour's literal reads: the last place, and the configuration. -/
structure NearB (w : World) (F : Nat → Prop) (c : Cf) (g b : Nat) (ua : Option Addr) (uc : Nat) : Prop where
  last : w.cell? ⟨g, 0, none⟩ = some (.int .i64 ((c.ns.length : Int) - 1))
  nodes : w.cell? ⟨b, 2, none⟩ = some (.slice ua c.ns.length uc)
  join : w.cell? ⟨b, 4, none⟩ = some (.int .i64 c.jn)
  row : NSl w F (.slice ua c.ns.length uc) c.ns
theorem near_pred (c : Cf) (k : Nat) (hk : k < c.ns.length) : nearV c ((k : Int) - 1) = predN c k := by
  unfold nearV predN
  by_cases h : k = 0
  · rw [if_pos h, if_pos (by omega)]
  · rw [if_neg h, if_neg (by omega), if_neg (by omega), show ((k : Int) - 1).toNat = k - 1 by omega]
theorem near_succ (c : Cf) (k : Nat) (hk : k < c.ns.length) : nearV c ((k : Int) + 1) = succN c k := by
  unfold nearV succN
  by_cases h : k + 1 = c.ns.length
  · rw [if_pos h, if_neg (by omega), if_pos (by omega)]
  · rw [if_neg h, if_neg (by omega), if_neg (by omega), show ((k : Int) + 1).toNat = k + 1 by omega]
/-- A role that was laid into its block. -/
theorem rl_cells {w : World} {b : Nat} {t : TypeId} (r : Rl) {x0 x1 x2 x3 x4 x5 x6 x7 : Value} (h : w.heap[b]? = some (.cells #[x0, x1, x2, x3, x4, x5, x6, x7] t (0, 0))) :
    ((((((((w.setCell ⟨b, 0, none⟩ (.bool r.inn)).setCell ⟨b, 1, none⟩ (.bool r.joins)).setCell ⟨b, 2, none⟩ (.bool r.head)).setCell ⟨b, 3, none⟩ (.bool r.tail)).setCell ⟨b, 4, none⟩ (.bool r.waits)).setCell ⟨b, 5, none⟩ (.int .i64 r.place)).setCell ⟨b, 6, none⟩ (.int .i64 r.pred)).setCell ⟨b, 7, none⟩ (.int .i64 r.succ)).heap[b]? =
      some (.cells #[.bool r.inn, .bool r.joins, .bool r.head, .bool r.tail, .bool r.waits, .int .i64 r.place, .int .i64 r.pred, .int .i64 r.succ] t (0, 0)) := by
  simp [World.setCell, Array.getElem?_modify, h]
theorem rl_kept {w0 w : World} {b : Nat} (r : Rl) (h : Kept NoB w0 w) (hb : w0.heap.size ≤ b) :
    Kept NoB w0 ((((((((w.setCell ⟨b, 0, none⟩ (.bool r.inn)).setCell ⟨b, 1, none⟩ (.bool r.joins)).setCell ⟨b, 2, none⟩ (.bool r.head)).setCell ⟨b, 3, none⟩ (.bool r.tail)).setCell ⟨b, 4, none⟩ (.bool r.waits)).setCell ⟨b, 5, none⟩ (.int .i64 r.place)).setCell ⟨b, 6, none⟩ (.int .i64 r.pred)).setCell ⟨b, 7, none⟩ (.int .i64 r.succ)) :=
  ((((((((h.setCell (.inr hb) _).setCell (.inr hb) _).setCell (.inr hb) _).setCell (.inr hb) _).setCell (.inr hb) _).setCell (.inr hb) _).setCell (.inr hb) _).setCell (.inr hb) _)
theorem rl_keptS {S : Nat → Prop} {w0 w : World} {b : Nat} (r : Rl) (h : Kept S w0 w) (hb : S b ∨ w0.heap.size ≤ b) :
    Kept S w0 ((((((((w.setCell ⟨b, 0, none⟩ (.bool r.inn)).setCell ⟨b, 1, none⟩ (.bool r.joins)).setCell ⟨b, 2, none⟩ (.bool r.head)).setCell ⟨b, 3, none⟩ (.bool r.tail)).setCell ⟨b, 4, none⟩ (.bool r.waits)).setCell ⟨b, 5, none⟩ (.int .i64 r.place)).setCell ⟨b, 6, none⟩ (.int .i64 r.pred)).setCell ⟨b, 7, none⟩ (.int .i64 r.succ)) :=
  ((((((((h.setCell hb _).setCell hb _).setCell hb _).setCell hb _).setCell hb _).setCell hb _).setCell hb _).setCell hb _)
theorem cells8 {w : World} {b : Nat} {t : TypeId} {x0 x1 x2 x3 x4 x5 x6 x7 : Value} (h : w.heap[b]? = some (.cells #[x0, x1, x2, x3, x4, x5, x6, x7] t (0, 0))) :
    w.cell? ⟨b, 0, none⟩ = some x0 ∧ w.cell? ⟨b, 1, none⟩ = some x1 ∧ w.cell? ⟨b, 2, none⟩ = some x2 ∧ w.cell? ⟨b, 3, none⟩ = some x3 ∧ w.cell? ⟨b, 4, none⟩ = some x4 ∧ w.cell? ⟨b, 5, none⟩ = some x5 ∧ w.cell? ⟨b, 6, none⟩ = some x6 ∧ w.cell? ⟨b, 7, none⟩ = some x7 :=
  ⟨cell_of_row _ _ 0 _ _ _ h, cell_of_row _ _ 1 _ _ _ h, cell_of_row _ _ 2 _ _ _ h, cell_of_row _ _ 3 _ _ _ h, cell_of_row _ _ 4 _ _ _ h, cell_of_row _ _ 5 _ _ _ h, cell_of_row _ _ 6 _ _ _ h, cell_of_row _ _ 7 _ _ _ h⟩
theorem frz {w : World} {b : Nat} {cs : Array Value} {t : TypeId} (h : w.heap[b]? = some (.cells cs t (0, 0))) (o : Nat) : w.frozen? ⟨b, o, none⟩ = false := by simp [World.frozen?, h]
end Go.Proofs.YtclfecninhipnaaGreatDoor
namespace Go.Proofs.YtclfecninhipnaaGreatDoor
open Go.RowKit
set_option linter.unusedVariables false
set_option linter.unusedSimpArgs false

def RlE (r : Rl) (w : World) (e : Ending) (w' : World) : Prop := e = .returned (rlV r) ∧ Kept NoB w w'
end Go.Proofs.YtclfecninhipnaaGreatDoor
namespace Go.Proofs.YtclfecninhipnaaGreatDoor
open Go.RowKit
set_option linter.unusedVariables false
set_option linter.unusedSimpArgs false

end Go.Proofs.YtclfecninhipnaaGreatDoor
namespace Go.Proofs.YtclfecninhipnaaGreatDoor
open Go.RowKit
set_option linter.unusedVariables false
set_option linter.unusedSimpArgs false

theorem bset_o19 {w : World} {g k : Nat} {o : Obj} (h : w.heap[g]? = some o) (i : Nat) (u : Value) (hk : ¬ k = g) : (w.setCell ⟨k, i, none⟩ u).heap[g]? = some o := by simp [World.setCell, Array.getElem?_modify, h, hk]
theorem bset19 {w : World} {g : Nat} {cs : Array Value} {t : TypeId} {fr : Nat × Nat} (h : w.heap[g]? = some (.cells cs t fr)) (i : Nat) (u : Value) : (w.setCell ⟨g, i, none⟩ u).heap[g]? = some (.cells (cs.setIfInBounds i u) t fr) := by simp [World.setCell, Array.getElem?_modify, h]
theorem balloc19 {w : World} {g : Nat} {o : Obj} (h : w.heap[g]? = some o) (x : Obj) : (w.alloc x).heap[g]? = some o := (heap_alloc_old w x (heap_lt h)).trans h
theorem rl_two {w : World} {b : Nat} {t : TypeId} {x0 x1 x2 x3 x4 x5 x6 x7 y z : Value} (h : w.heap[b]? = some (.cells #[x0, x1, x2, x3, x4, x5, x6, x7] t (0, 0))) :
    ((w.setCell ⟨b, 6, none⟩ y).setCell ⟨b, 7, none⟩ z).heap[b]? = some (.cells #[x0, x1, x2, x3, x4, x5, y, z] t (0, 0)) := by
  simp [World.setCell, Array.getElem?_modify, h]
end Go.Proofs.YtclfecninhipnaaGreatDoor
namespace Go.Proofs.YtclfecninhipnaaGreatDoor
open Go.RowKit
set_option linter.unusedVariables false

theorem rl_in {c : Cf} (h : rgtB c = true) {k : Nat} (hk : k < c.ns.length) : rlOf c (c.ns.getD k 0) = insR c k := by
  unfold rlOf
  rw [if_pos h, if_pos (by rw [getD_at hk]; exact List.getElem_mem hk), plc_nodup (nsq_of h).2 hk]
theorem rl_join {c : Cf} (h : rgtB c = true) (h0 : c.jn ≠ 0) : rlOf c c.jn = joinR c := by
  unfold rlOf
  rw [if_pos h, if_neg (jn_not h h0).1, if_pos ⟨h0, rfl⟩]
/-- What any number is. -/
theorem rl_cases {c : Cf} (h : rgtB c = true) (n : Int) : (∃ k, k < c.ns.length ∧ n = c.ns.getD k 0 ∧ n ∈ c.ns ∧ rlOf c n = insR c k) ∨ (n ∉ c.ns ∧ n ≠ 0 ∧ n = c.jn ∧ rlOf c n = joinR c) ∨ (n ∉ c.ns ∧ rlOf c n = rl0) := by
  by_cases hm : n ∈ c.ns
  · refine .inl ⟨plc c.ns n, plc_lt hm, (plc_at hm).symm, hm, ?_⟩
    unfold rlOf
    rw [if_pos h, if_pos hm]
  · by_cases hj : n ≠ 0 ∧ n = c.jn
    · refine .inr (.inl ⟨hm, hj.1, hj.2, ?_⟩)
      unfold rlOf
      rw [if_pos h, if_neg hm, if_pos hj]
    · refine .inr (.inr ⟨hm, ?_⟩)
      unfold rlOf
      rw [if_pos h, if_neg hm, if_neg hj]
theorem ns_pos {c : Cf} (h : rgtB c = true) {k : Nat} (hk : k < c.ns.length) : 1 ≤ c.ns.getD k 0 ∧ c.ns.getD k 0 ≤ 24 := by
  rw [getD_at hk]
  exact (nsq_of h).1 _ (List.getElem_mem hk)
theorem len_pos {c : Cf} (h : rgtB c = true) : 1 ≤ c.ns.length ∧ c.ns.length ≤ 5 := ⟨(rgt_of h).2.2.2.1, (rgt_of h).2.2.2.2.1⟩
theorem jn_range {c : Cf} (h : rgtB c = true) : 0 ≤ c.jn ∧ c.jn ≤ 24 := by
  by_cases h0 : c.jn = 0
  · rw [h0]; decide
  · have := jn_not h h0; omega
theorem pred_range {c : Cf} (h : rgtB c = true) {k : Nat} (hk : k < c.ns.length) : 0 ≤ predN c k ∧ predN c k ≤ 24 := by
  unfold predN
  split
  · decide
  · have := ns_pos h (show k - 1 < c.ns.length by omega)
    omega
theorem succ_range {c : Cf} (h : rgtB c = true) {k : Nat} (hk : k < c.ns.length) : 0 ≤ succN c k ∧ succN c k ≤ 24 := by
  unfold succN
  split
  · exact jn_range h
  · have := ns_pos h (show k + 1 < c.ns.length by omega)
    omega
/-- Neighbours are nodes, or 0. -/
theorem near_range (c : Cf) (n : Int) : (0 ≤ (rlOf c n).pred ∧ (rlOf c n).pred ≤ 24) ∧ (0 ≤ (rlOf c n).succ ∧ (rlOf c n).succ ≤ 24) := by
  cases h : rgtB c with
  | false =>
    have : rlOf c n = rl0 := by unfold rlOf; rw [h]; rfl
    rw [this]
    decide
  | true =>
    rcases rl_cases h n with ⟨k, hk, _, _, e⟩ | ⟨_, _, _, e⟩ | ⟨_, e⟩
    · rw [e]
      exact ⟨pred_range h hk, succ_range h hk⟩
    · rw [e]
      have h1 := len_pos h
      have := ns_pos h (show c.ns.length - 1 < c.ns.length by omega)
      refine ⟨?_, (by show (0 : Int) ≤ 0 ∧ (0 : Int) ≤ 24; decide)⟩
      show 0 ≤ lastN c ∧ lastN c ≤ 24
      unfold lastN
      omega
    · rw [e]
      decide
theorem pred_back {c : Cf} (h : rgtB c = true) (n : Int) (hp : (rlOf c n).pred ≠ 0) : (rlOf c (rlOf c n).pred).succ = n := by
  rcases rl_cases h n with ⟨k, hk, hn, _, e⟩ | ⟨_, h0, hj, e⟩ | ⟨_, e⟩
  · rw [e] at hp ⊢
    have hp' : predN c k ≠ 0 := hp
    show (rlOf c (predN c k)).succ = n
    unfold predN at hp' ⊢
    by_cases h0 : k = 0
    · rw [if_pos h0] at hp'; exact absurd rfl hp'
    · rw [if_neg h0, rl_in h (by omega)]
      show succN c (k - 1) = n
      unfold succN
      rw [if_neg (by omega), show k - 1 + 1 = k by omega, hn]
  · rw [e]
    have h1 := len_pos h
    show (rlOf c (lastN c)).succ = n
    unfold lastN
    rw [rl_in h (by omega)]
    show succN c (c.ns.length - 1) = n
    unfold succN
    rw [if_pos (by omega), hj]
  · rw [e] at hp; exact absurd rfl hp
theorem succ_back {c : Cf} (h : rgtB c = true) (n : Int) (hp : (rlOf c n).succ ≠ 0) : (rlOf c (rlOf c n).succ).pred = n := by
  rcases rl_cases h n with ⟨k, hk, hn, _, e⟩ | ⟨_, h0, hj, e⟩ | ⟨_, e⟩
  · rw [e] at hp ⊢
    have hp' : succN c k ≠ 0 := hp
    show (rlOf c (succN c k)).pred = n
    unfold succN at hp' ⊢
    by_cases h0 : k + 1 = c.ns.length
    · rw [if_pos h0] at hp' ⊢
      rw [rl_join h hp']
      show lastN c = n
      unfold lastN
      rw [hn, show c.ns.length - 1 = k by omega]
    · rw [if_neg h0, rl_in h (by omega)]
      show predN c (k + 1) = n
      unfold predN
      rw [if_neg (by omega), show k + 1 - 1 = k by omega, hn]
  · rw [e] at hp; exact absurd rfl hp
  · rw [e] at hp; exact absurd rfl hp
theorem join_in (c : Cf) (n : Int) : ((rlOf c n).joins && (rlOf c n).inn) = false := by
  cases h : rgtB c with
  | false =>
    have : rlOf c n = rl0 := by unfold rlOf; rw [h]; rfl
    rw [this]
    rfl
  | true => rcases rl_cases h n with ⟨k, hk, _, _, e⟩ | ⟨_, _, _, e⟩ | ⟨_, e⟩ <;> rw [e] <;> rfl
theorem head_pred {c : Cf} (h : rgtB c = true) (n : Int) (hi : (rlOf c n).inn = true) : (rlOf c n).head = decide ((rlOf c n).pred = 0) := by
  rcases rl_cases h n with ⟨k, hk, hn, _, e⟩ | ⟨_, h0, hj, e⟩ | ⟨_, e⟩
  · rw [e]
    show decide (k = 0) = decide (predN c k = 0)
    refine decide_eq_decide.2 ?_
    unfold predN
    by_cases h0 : k = 0
    · rw [if_pos h0]; exact ⟨fun _ => rfl, fun _ => h0⟩
    · rw [if_neg h0]
      have := ns_pos h (show k - 1 < c.ns.length by omega)
      omega
  · rw [e] at hi; cases hi
  · rw [e] at hi; cases hi
theorem tail_succ {c : Cf} (h : rgtB c = true) (n : Int) (hi : (rlOf c n).inn = true) : (rlOf c n).tail = decide ((rlOf c n).succ = c.jn) := by
  rcases rl_cases h n with ⟨k, hk, hn, _, e⟩ | ⟨_, h0, hj, e⟩ | ⟨_, e⟩
  · rw [e]
    show decide (k + 1 = c.ns.length) = decide (succN c k = c.jn)
    refine decide_eq_decide.2 ?_
    unfold succN
    by_cases h0 : k + 1 = c.ns.length
    · rw [if_pos h0]; exact ⟨fun _ => rfl, fun _ => h0⟩
    · rw [if_neg h0]
      refine ⟨fun h1 => absurd h1 h0, fun h1 => ?_⟩
      have h2 := ns_pos h (show k + 1 < c.ns.length by omega)
      have h3 := jn_not h (by omega)
      exact absurd (by rw [← h1, getD_at (by omega)]; exact List.getElem_mem _) h3.1
  · rw [e] at hi; cases hi
  · rw [e] at hi; cases hi
/-! ### how many there are -/
/-- Of the numbers up to N those that are nodes. -/
def cntN (l : List Int) (N : Int) : Nat := l.countP (fun x => decide (x ≤ N))
theorem cnt_zero {l : List Int} (h : ∀ x ∈ l, 1 ≤ x) : cntN l 0 = 0 := by
  unfold cntN
  rw [List.countP_eq_zero]
  intro x hx
  have := h x hx
  simp only [decide_eq_true_eq]
  omega
theorem cnt_all {l : List Int} {N : Int} (h : ∀ x ∈ l, x ≤ N) : cntN l N = l.length := by
  unfold cntN
  rw [List.countP_eq_length]
  intro x hx
  simpa using h x hx
theorem cnt_step {l : List Int} (h : l.Nodup) (N : Int) : cntN l (N + 1) = cntN l N + (if N + 1 ∈ l then 1 else 0) := by
  induction l with
  | nil => simp [cntN]
  | cons y l ih =>
    have hd := List.nodup_cons.1 h
    have hi := ih hd.2
    unfold cntN at hi ⊢
    rw [List.countP_cons, List.countP_cons, hi]
    by_cases e : y = N + 1
    · subst e
      have h2 : ¬ N + 1 ≤ N := by omega
      simp [hd.1, h2]
    · have h1 : (N + 1 ∈ y :: l) ↔ N + 1 ∈ l := by
        rw [List.mem_cons]
        exact ⟨fun h => h.elim (fun h => absurd h.symm e) id, .inr⟩
      have h2 : decide (y ≤ N + 1) = decide (y ≤ N) := decide_eq_decide.2 (by omega)
      rw [h2]
      simp only [h1]
      omega
theorem in_iff {c : Cf} (h : rgtB c = true) (n : Int) : (rlOf c n).inn = decide (n ∈ c.ns) := by
  rcases rl_cases h n with ⟨k, hk, hn, hm, e⟩ | ⟨hm, h0, hj, e⟩ | ⟨hm, e⟩
  · rw [e, decide_eq_true hm]; rfl
  · rw [e, decide_eq_false hm]; rfl
  · rw [e, decide_eq_false hm]; rfl
theorem head_iff {c : Cf} (h : rgtB c = true) (n : Int) : (rlOf c n).head = decide (n = c.ns.getD 0 0) := by
  have hl := len_pos h
  rcases rl_cases h n with ⟨k, hk, hn, hm, e⟩ | ⟨hm, h0, hj, e⟩ | ⟨hm, e⟩
  · rw [e]
    show decide (k = 0) = _
    refine decide_eq_decide.2 ⟨fun h0 => by rw [hn, h0], fun h1 => ?_⟩
    exact nodup_place (nsq_of h).2 hk (by omega) (hn ▸ h1)
  · rw [e]
    show false = _
    refine (decide_eq_false fun h1 => hm ?_).symm
    rw [h1, getD_at (by omega)]; exact List.getElem_mem _
  · rw [e]
    show false = _
    refine (decide_eq_false fun h1 => hm ?_).symm
    rw [h1, getD_at (by omega)]; exact List.getElem_mem _
theorem tail_iff {c : Cf} (h : rgtB c = true) (n : Int) : (rlOf c n).tail = decide (n = c.ns.getD (c.ns.length - 1) 0) := by
  have hl := len_pos h
  rcases rl_cases h n with ⟨k, hk, hn, hm, e⟩ | ⟨hm, h0, hj, e⟩ | ⟨hm, e⟩
  · rw [e]
    show decide (k + 1 = c.ns.length) = _
    refine decide_eq_decide.2 ⟨fun h0 => by rw [hn, show c.ns.length - 1 = k by omega], fun h1 => ?_⟩
    have := nodup_place (nsq_of h).2 hk (show c.ns.length - 1 < c.ns.length by omega) (hn ▸ h1)
    omega
  · rw [e]
    show false = _
    refine (decide_eq_false fun h1 => hm ?_).symm
    rw [h1, getD_at (by omega)]; exact List.getElem_mem _
  · rw [e]
    show false = _
    refine (decide_eq_false fun h1 => hm ?_).symm
    rw [h1, getD_at (by omega)]; exact List.getElem_mem _
end Go.Proofs.YtclfecninhipnaaGreatDoor
namespace Go.Proofs.YtclfecninhipnaaGreatDoor
open Go.RowKit
set_option linter.unusedVariables false
set_option linter.unusedSimpArgs false

def readN (c : Cf) (p : Int) : Int := if rgtB c = true then c.ns.getD ((if p < 0 then 0 else p.toNat) % c.ns.length) 0 else 0
set_option maxRecDepth 100000 in
theorem Reader19 (v : Value) (c : Cf) (p : Int) (hp : p ≤ 9223372036854775807) (F : Nat → Prop) (w : World) (h : CfR w F v c) : Calls Tryz.prog 58 #[v, .int .i64 p] w (NumE19 (readN c p) w) := by
  obtain ⟨u, rfl, hn, h0, htop⟩ := id h
  obtain ⟨a, cap, rfl, hn1, hn2, _⟩ := id hn
  unfold maxLen at hn2
  have HR := Lib.hid (fun w' (hk : Kept NoB w w') => Right19 _ c F w' (h.no hk))
  have HN := Lib.hid (fun w' (hk : Kept NoB w w') => hn.kept hk (fun _ _ _ h => h))
  have HL : Hid (rgtB c = true → 1 ≤ c.ns.length ∧ c.ns.length ≤ 5) := Lib.hid len_pos
  have HD : Hid (readN c p = if rgtB c = true then c.ns.getD ((if p < 0 then 0 else p.toNat) % c.ns.length) 0 else 0) := Lib.hid rfl
  have hb := heap_alloc_new w (.cells #[.int .i64 c.ch, .int .u64 c.ep, .slice a c.ns.length cap, .bool c.fr, .int .i64 c.jn] 44)
  have HK := Lib.hid ((Kept.refl NoB w).alloc (.cells #[.int .i64 c.ch, .int .u64 c.ep, .slice a c.ns.length cap, .bool c.fr, .int .i64 c.jn] 44))
  obtain ⟨r, hr⟩ : ∃ r, r = rgtB c := ⟨_, rfl⟩
  rw [← hr] at HR HL HD
  obtain ⟨d, hd⟩ : ∃ d, d = readN c p := ⟨_, rfl⟩
  rw [← hd] at HD ⊢
  obtain ⟨ch, ep, ns, fr, jn⟩ := c
  simp only at HR HN HL HD hb HK hn1 h0 htop ⊢
  have HB := Lib.hid hb
  clear h hn hr hd hb
  go_enter Tryz.func58, Tryz.ntmps58
  go_wp2_with fail
  refine (HR.out _ HK.out).mono ?_
  rintro e w1 ⟨rfl, hk⟩
  have HK1 := Lib.hid (HK.out.trans hk (fun _ _ h => h))
  obtain ⟨c0, c1, c2, c3, c4⟩ := cells5 (hk.heap (fun h => h) HB.out)
  clear hk
  cases r with
  | false =>
    go_wp2
    go_ret
    exact ⟨(by rw [HD.out] <;> rfl), HK1.out⟩
  | true =>
    have hl := HL.out (by trivial)
    have hl1 : (1 : Int) ≤ (ns.length : Int) := by omega
    have hz : ¬ (ns.length : Int) = 0 := by omega
    have hzb : ((ns.length : Int) == 0) = false := beq_eq_false_iff_ne.2 hz
    have hnil : ¬ ns = [] := fun h => by rw [h] at hl; exact absurd hl.1 (by decide)
    by_cases hp0 : p < 0
    · obtain ⟨b, o, rfl, _, _, hc⟩ := (HN.out _ HK1.out).at_ (j := 0) (by omega)
      rw [Nat.add_zero] at hc
      rw [if_pos (by trivial), if_pos hp0, Nat.zero_mod] at HD
      obtain ⟨y, hy⟩ : ∃ y, y = ns.getD 0 0 := ⟨_, rfl⟩
      rw [← hy] at hc HD
      have hki : (0 : Int) < (ns.length : Int) := by omega
      clear hy hl
      go_wp2_with fail
      go_region
      all_goals go_wp2
      all_goals go_ret
      all_goals exact ⟨(by rw [HD.out] <;> rfl), (by first | exact HK1.out | exact HK1.out.drew)⟩
    · obtain ⟨q, rfl⟩ : ∃ q : Nat, p = (q : Int) := ⟨p.toNat, by omega⟩
      rw [if_pos (by trivial), if_neg hp0, Int.toNat_natCast] at HD
      obtain ⟨k, hk⟩ : ∃ k : Nat, k = q % ns.length := ⟨_, rfl⟩
      have hkl : k < ns.length := by rw [hk]; exact Nat.mod_lt _ (by omega)
      have hmod : (q : Int) % (ns.length : Int) = (k : Int) := by rw [hk]; omega
      have hmod2 : Int.tmod (q : Int) (ns.length : Int) = (k : Int) := by
        rw [Int.tmod_eq_emod_of_nonneg (by omega)]; exact hmod
      rw [← hk] at HD
      obtain ⟨b, o, rfl, _, _, hc⟩ := (HN.out _ HK1.out).at_ (j := k) hkl
      obtain ⟨y, hy⟩ : ∃ y, y = ns.getD k 0 := ⟨_, rfl⟩
      rw [← hy] at hc HD
      have hki : (k : Int) < (ns.length : Int) := by omega
      have hk0 : (0 : Int) ≤ (k : Int) := by omega
      have hq0 : (0 : Int) ≤ (q : Int) := by omega
      clear hk hy hl hkl hp0
      go_wp2_with fail
      go_region
      all_goals go_wp2
      all_goals go_ret
      all_goals exact ⟨(by rw [HD.out] <;> rfl), (by first | exact HK1.out | exact HK1.out.drew)⟩
end Go.Proofs.YtclfecninhipnaaGreatDoor
