/-
  Roles: in plain words; numbers in a slice: the first place of one; configurations of any size: Right of both.
-/
import Derived.Test.YtajneoaljpljpaaCnfQ
import Derived.Test.YtajneoaljpljpaaChoQ
namespace Go.Proofs.Ytajneoaljpljpaa
open Go.RowKit
set_option linter.unusedVariables false

/-- What a node is. -/
structure Rl where
  inn : Bool
  joins : Bool
  head : Bool
  tail : Bool
  waits : Bool
  place : Int
  pred : Int
  succ : Int
def rl0 : Rl := ⟨false, false, false, false, false, 0, 0, 0⟩
def rlV (r : Rl) : Value := .agg #[.bool r.inn, .bool r.joins, .bool r.head, .bool r.tail, .bool r.waits, .int .i64 r.place, .int .i64 r.pred, .int .i64 r.succ]
def lastN (c : Cf) : Int := c.ns.getD (c.ns.length - 1) 0
def predN (c : Cf) (k : Nat) : Int := if k = 0 then 0 else c.ns.getD (k - 1) 0
def succN (c : Cf) (k : Nat) : Int := if k + 1 = c.ns.length then c.jn else c.ns.getD (k + 1) 0
def insR (c : Cf) (k : Nat) : Rl := ⟨true, false, decide (k = 0), decide (k + 1 = c.ns.length), decide (k + 1 = c.ns.length) && c.fr, k, predN c k, succN c k⟩
def joinR (c : Cf) : Rl := ⟨false, true, false, false, true, 0, lastN c, 0⟩
def plc (l : List Int) (x : Int) : Nat := l.findIdx (· == x)
def rlOf (c : Cf) (n : Int) : Rl := if rgtB c = true then (if n ∈ c.ns then insR c (plc c.ns n) else if n ≠ 0 ∧ n = c.jn then joinR c else rl0) else rl0
theorem plc_lt {l : List Int} {x : Int} (h : x ∈ l) : plc l x < l.length := by
  unfold plc
  exact List.findIdx_lt_length.2 ⟨x, h, by simp⟩
theorem plc_at {l : List Int} {x : Int} (h : x ∈ l) : l.getD (plc l x) 0 = x := by
  have h1 := plc_lt h
  rw [getD_at h1]
  have h2 : (l[l.findIdx (· == x)]'h1 == x) = true := @List.findIdx_getElem _ (· == x) l h1
  exact eq_of_beq h2
theorem plc_of {l : List Int} {x : Int} {k : Nat} (h : k < l.length) (he : l.getD k 0 = x) (hno : x ∉ l.take k) : plc l x = k := by
  unfold plc
  refine (List.findIdx_eq h).2 ⟨by rw [← getD_at h, he]; simp, fun j hj => ?_⟩
  refine beq_eq_false_iff_ne.2 fun e => hno ?_
  rw [← e]
  exact List.mem_take_iff_getElem.2 ⟨j, by omega, rfl⟩
theorem rgt_of {c : Cf} (h : rgtB c = true) : Rgt c := of_decide_eq_true h
theorem nsq_of {c : Cf} (h : rgtB c = true) : Unq c.ns := by
  have h1 := (rgt_of h).2.2.2.2.2.2
  unfold Cf.mem at h1
  split at h1
  · exact h1
  · exact ⟨fun x hx => h1.1 x (List.mem_append_left _ hx), (List.nodup_append.1 h1.2).1⟩
theorem jn_not {c : Cf} (h : rgtB c = true) (h0 : c.jn ≠ 0) : c.jn ∉ c.ns ∧ 1 ≤ c.jn ∧ c.jn ≤ 24 := by
  have h1 := (rgt_of h).2.2.2.2.2.2
  unfold Cf.mem at h1
  rw [if_neg h0] at h1
  refine ⟨fun hx => (List.nodup_append.1 h1.2).2.2 _ hx _ (by simp) rfl, ?_⟩
  exact h1.1 _ (List.mem_append_right _ (by simp))
theorem zero_not {c : Cf} (h : rgtB c = true) : (0 : Int) ∉ c.ns := fun h0 => by
  have := (nsq_of h).1 0 h0
  omega
/-- In a row without a number twice a number has one place. -/
theorem nodup_place {l : List Int} (h : l.Nodup) {i j : Nat} (hi : i < l.length) (hj : j < l.length) (e : l.getD i 0 = l.getD j 0) : i = j := by
  rw [getD_at hi, getD_at hj] at e
  exact (List.getElem_inj h).1 e
theorem plc_nodup {l : List Int} (h : l.Nodup) {k : Nat} (hk : k < l.length) : plc l (l.getD k 0) = k := by
  have hm : l.getD k 0 ∈ l := by rw [getD_at hk]; exact List.getElem_mem hk
  exact nodup_place h (plc_lt hm) hk (plc_at hm)

/-- The first place of a number, or -1. -/
theorem IndexP_any (v : Value) (l : List Int) (x : Int) (F : Nat → Prop) (w : World) (h : NSl w F v l) :
    Calls Try.prog 23 #[v, .int .i64 x] w fun e w' => (e = .returned (.int .i64 (if x ∈ l then (plc l x : Int) else -1))) ∧ w = w' := by
  obtain ⟨a, cap, rfl, _⟩ := id h
  have hl := len_le h
  have H := Lib.hid h
  clear h
  obtain ⟨d, hd⟩ : ∃ d, d = (if x ∈ l then (plc l x : Int) else -1) := ⟨_, rfl⟩
  rw [← hd]
  have HD := Lib.hid hd
  clear hd
  go_enter Try.func23, Try.ntmps23
  go_wp2
  go_loop [8] (fun i => ∃ k : Nat, i = .int .i64 k ∧ k ≤ l.length ∧ x ∉ l.take k) (fun i => l.length - (intOf i).toNat)
  case atStart => exact ⟨0, rfl, Nat.zero_le _, by simp⟩
  case round =>
    obtain ⟨k, rfl, hk, hno⟩ := hrel
    have HN := Lib.hid hno
    clear hno
    by_cases hlt : k < l.length
    · obtain ⟨b, o, rfl, _, _, hc⟩ := H.out.at_ hlt
      have HT := Lib.hid (take_one hlt)
      have HA : Hid (l.getD k 0 ∈ l) := Lib.hid (by rw [getD_at hlt]; exact List.getElem_mem _)
      have HP : Hid (∀ x, l.getD k 0 = x → x ∉ l.take k → plc l x = k) := Lib.hid (fun x he hno => plc_of hlt he hno)
      obtain ⟨y, hy⟩ : ∃ y, y = l.getD k 0 := ⟨_, rfl⟩
      rw [← hy] at hc HT HA HP
      have hk1 : (k : Int) < (l.length : Int) := by omega
      clear hy
      by_cases he : x = y
      · subst he
        have HE : Hid (d = (k : Int)) := Lib.hid (by rw [HD.out, if_pos HA.out, HP.out x rfl HN.out])
        go_wp2
        go_ret
        exact ⟨(by rw [HE.out] <;> rfl), rfl⟩
      · have hb : ((x : Int) == (y : Int)) = false := by simpa using he
        have HE := Lib.hid he
        clear he
        go_wp2
        go_round
        case rel => exact ⟨k + 1, by go_num, by omega, by
          rw [HT.out]
          simp only [List.mem_append, List.mem_singleton, not_or]
          exact ⟨HN.out, HE.out⟩⟩
        case measure => simp [intOf]; omega
    · obtain rfl : k = l.length := by omega
      have HE : Hid (d = -1) := Lib.hid (by rw [HD.out, if_neg (by have := HN.out; rwa [List.take_length] at this)])
      go_wp2
      go_ret
      exact ⟨(by rw [HE.out] <;> rfl), rfl⟩

theorem CfR.kept {S F : Nat → Prop} {w w' : World} {v : Value} {c : Cf} (h : CfR w F v c) (hk : Kept S w w') (hs : ∀ k, k < w.heap.size → F k → ¬ S k) : CfR w' F v c := by
  obtain ⟨u, h1, h2, h3⟩ := h
  exact ⟨u, h1, h2.kept hk hs, h3⟩
theorem CfR.no {F : Nat → Prop} {w w' : World} {v : Value} {c : Cf} (h : CfR w F v c) (hk : Kept NoB w w') : CfR w' F v c := h.kept hk (fun _ _ _ h => h)
theorem CfR.v {F : Nat → Prop} {w : World} {v : Value} {c : Cf} (h : CfR w F v c) (hl : c.ns.length ≤ 1000) : CfV w F v c := by
  obtain ⟨u, h1, h2, h3, h4⟩ := h
  exact ⟨u, h1, h2, h3, h4, hl⟩
theorem great_not {c : Cf} (h : 1000 < c.ns.length) : rgtB c = false := decide_eq_false fun hr => by have := hr.2.2.2.2.1; omega
theorem Right19 (v : Value) (c : Cf) (F : Nat → Prop) (w : World) (h : CfR w F v c) : Calls Try.prog 22 #[v] w (BoolE (rgtB c) w) := by
  by_cases hl : c.ns.length ≤ 1000
  · exact Right_any v c F w (h.v hl)
  · rw [great_not (by omega)]
    exact Right_great v c F w h (by omega)
theorem RRight19 (v : Value) (c : Cf) (F : Nat → Prop) (w : World) (h : CfR w F v c) : Calls Try.prog 21 #[v] w (BoolE (rgtB c) w) := by
  by_cases hl : c.ns.length ≤ 1000
  · exact RRight_any v c F w (h.v hl)
  · rw [great_not (by omega)]
    exact RRight_great v c F w h (by omega)
end Go.Proofs.Ytajneoaljpljpaa
