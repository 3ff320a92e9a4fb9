/-
  Configurations and numbers that came in, opened (for a seat of plain rows). Roles: in plain words; numbers in a slice: the first place of one; configurations of any size: Right of both. Package role: Head, Tail, inside, Of. Package role: inside. Package role: inside, Of. The chapter's Of; Of of the program. The chapter's Of. Roles fit together, in plain words (P19.4).
-/
import Derived.Test.YtcbenminaakahaaGreatDoorFrameP
import Derived.Test.YtcbenminaakahaaGreatDoorCnf2
import Derived.Test.YtcbenminaakahaaGreatDoorCnf3
import Derived.Test.YtcbenminaakahaaGreatDoorCho1
import Derived.IntWalk
import Derived.Deep.Cut
namespace Go.Proofs.YtcbenminaakahaaGreatDoor
open Go.ChangeShapes Go.WideShapes Go.ChangeAt Go.RowKit Go.Deep
set_option linter.unusedVariables false

theorem addr_add9 (b o j : Nat) : (⟨b, o, none⟩ : Addr).add j = ⟨b, o + j, none⟩ := by unfold Addr.add; split <;> simp_all
theorem pick_all9 {α : Type} {m : Nat} {Q : Nat → α → Prop} (z : α) (h : ∀ j, j < m → ∃ x, Q j x) : ∃ f : Nat → α, ∀ j, j < m → Q j (f j) :=
  ⟨fun j => if hj : j < m then Classical.choose (h j hj) else z, fun j hj => by
    simp only [dif_pos hj]
    exact Classical.choose_spec (h j hj)⟩
section
variable {H : Type} {enc : TypeId × Value → H} {W : World} {base b0 : Nat}
/-- A slice of numbers in a cell. -/
theorem nsl_cell {fuel : Nat} {c : Value} {x : DataW H × List MemPlace} (h : DataW.trod enc Tryz.prog W base (fun _ => true) true fuel 27 [c] = some x) : ∃ l : List Int, NSl W (fun _ => True) c l := by
  rcases open_ints Tryz.underlying27 Tryz.underlying3 (by kernel_rfl) h with ⟨hcs, _⟩ | ⟨x, len, cap, zs, hcs, _, hl, hm, hz, _, hcell, hwz⟩
  · simp only [List.cons.injEq, and_true] at hcs
    subst hcs
    exact ⟨[], NSl.nil _ _⟩
  · simp only [List.cons.injEq, and_true] at hcs
    subst hcs
    have hzl : zs.length = cap := by simpa using hz
    have e : (zs.take len).length = len := by rw [List.length_take]; omega
    refine ⟨zs.take len, some x, cap, by rw [e], by omega, hm, (fun h => by cases h), fun hp => ?_⟩
    rw [e] at hp
    obtain ⟨b, o, spot⟩ := x
    have h0 := hcell 0 (by omega)
    have hspot : spot = none := by simpa [Addr.add] using World.cell?_spot h0
    subst hspot
    have hbl := World.block_lt_of_cell? W _ h0
    rw [addr_add9] at hbl
    refine ⟨b, o, rfl, trivial, hbl, fun j hj => ?_⟩
    rw [e] at hj
    rw [← addr_add9, hcell j (by omega)]
    simp [show j < len by omega]
theorem array5 {α : Type} {cs : Array α} (h : cs.size = 5) : ∃ c0 c1 c2 c3 c4, cs = #[c0, c1, c2, c3, c4] := by
  obtain ⟨l⟩ := cs
  match l, h with
  | [c0, c1, c2, c3, c4], _ => exact ⟨c0, c1, c2, c3, c4, rfl⟩
set_option maxRecDepth 100000 in
/-- Five cells that read as a configuration. -/
theorem cf_cells {fuel : Nat} {c0 c1 c2 c3 c4 : Value} {x : DataW H × List MemPlace} (ht : DataW.trod enc Tryz.prog W base (fun _ => true) true fuel 29 [c0, c1, c2, c3, c4] = some x) :
    ∃ c : Cf, c0 = .int .i64 c.ch ∧ c1 = .int .u64 c.ep ∧ NSl W (fun _ => True) c2 c.ns ∧ c3 = .bool c.fr ∧ c4 = .int .i64 c.jn ∧ 0 ≤ c.ep ∧ c.ep ≤ topE := by
  obtain ⟨xs, n', _, _, _, hxl, hg⟩ := DataW.trod_struct Tryz.underlying29 ht
  have hxl5 : xs.length = 5 := hxl
  match xs, hxl5 with
  | [y0, y1, y2, y3, y4], _ =>
    have g0 : DataW.trod enc Tryz.prog W base (fun _ => true) true n' 3 [c0] = some y0 := hg 0 _ rfl
    have g1 : DataW.trod enc Tryz.prog W base (fun _ => true) true n' 22 [c1] = some y1 := hg 1 _ rfl
    have g2 : DataW.trod enc Tryz.prog W base (fun _ => true) true n' 27 [c2] = some y2 := hg 2 _ rfl
    have g3 : DataW.trod enc Tryz.prog W base (fun _ => true) true n' 4 [c3] = some y3 := hg 3 _ rfl
    have g4 : DataW.trod enc Tryz.prog W base (fun _ => true) true n' 3 [c4] = some y4 := hg 4 _ rfl
    obtain ⟨k0, e0, _, _⟩ := DataW.trod_int Tryz.underlying3 g0
    obtain ⟨k1, e1, _, w1⟩ := DataW.trod_int Tryz.underlying22 g1
    obtain ⟨l, hl⟩ := nsl_cell g2
    obtain ⟨k3, e3, _⟩ := DataW.trod_bool Tryz.underlying4 g3
    obtain ⟨k4, e4, _, _⟩ := DataW.trod_int Tryz.underlying3 g4
    simp only [List.cons.injEq, and_true] at e0 e1 e3 e4
    subst e0 e1 e3 e4
    have hk := bounds_u64 w1
    exact ⟨⟨k0, k1, l, k3, k4⟩, rfl, rfl, hl, rfl, rfl, hk.1, hk.2⟩
set_option maxRecDepth 100000 in
/-- A configuration by value. -/
theorem cf_open {r : Reach} {v : Value} {d : DataW H} {p : List MemPlace} (hv : Value.okWide Tryz.prog W r b0 29 v)
    (h : DataW.Trod enc Tryz.prog W base (fun _ => true) true 29 v d p) : ∃ c : Cf, CfR W (fun _ => True) v c := by
  obtain ⟨cs, rfl, hsz⟩ := okWide_struct Tryz.underlying29 hv
  have hC : Tryz.prog.cellsOf 29 = 5 := by kernel_rfl
  obtain ⟨c0, c1, c2, c3, c4, rfl⟩ := array5 (hsz.trans hC)
  obtain ⟨fuel, hf⟩ := h
  obtain ⟨c, rfl, rfl, hn, rfl, rfl, h0, h1⟩ := cf_cells (by simpa [Value.cells] using hf)
  exact ⟨c, c2, rfl, hn, h0, h1⟩
/-- A slice of numbers. -/
theorem ns_open {d : DataW H} {p : List MemPlace} {a : Option Addr} {len cap : Nat}
    (h : DataW.Trod enc Tryz.prog W base (fun _ => true) true 27 (.slice a len cap) d p) : ∃ l : List Int, NSl W (fun _ => True) (.slice a len cap) l := by
  obtain ⟨fuel, hf⟩ := h
  exact nsl_cell (by simpa [Value.cells] using hf)
end
end Go.Proofs.YtcbenminaakahaaGreatDoor
namespace Go.Proofs.YtcbenminaakahaaGreatDoor
open Go.RowKit
set_option linter.unusedVariables false

/-- What a node is. -/
structure Rl where
  inn : Bool
  joins : Bool
  head : Bool
  tail : Bool
  waits : Bool
  place : Int
  pred : Int
  succ : Int
def rl0 : Rl := ⟨false, false, false, false, false, 0, 0, 0⟩
def rlV (r : Rl) : Value := .agg #[.bool r.inn, .bool r.joins, .bool r.head, .bool r.tail, .bool r.waits, .int .i64 r.place, .int .i64 r.pred, .int .i64 r.succ]
def lastN (c : Cf) : Int := c.ns.getD (c.ns.length - 1) 0
def predN (c : Cf) (k : Nat) : Int := if k = 0 then 0 else c.ns.getD (k - 1) 0
def succN (c : Cf) (k : Nat) : Int := if k + 1 = c.ns.length then c.jn else c.ns.getD (k + 1) 0
def insR (c : Cf) (k : Nat) : Rl := ⟨true, false, decide (k = 0), decide (k + 1 = c.ns.length), decide (k + 1 = c.ns.length) && c.fr, k, predN c k, succN c k⟩
def joinR (c : Cf) : Rl := ⟨false, true, false, false, true, 0, lastN c, 0⟩
def plc (l : List Int) (x : Int) : Nat := l.findIdx (· == x)
def rlOf (c : Cf) (n : Int) : Rl := if rgtB c = true then (if n ∈ c.ns then insR c (plc c.ns n) else if n ≠ 0 ∧ n = c.jn then joinR c else rl0) else rl0
theorem plc_lt {l : List Int} {x : Int} (h : x ∈ l) : plc l x < l.length := by
  unfold plc
  exact List.findIdx_lt_length.2 ⟨x, h, by simp⟩
theorem plc_at {l : List Int} {x : Int} (h : x ∈ l) : l.getD (plc l x) 0 = x := by
  have h1 := plc_lt h
  rw [getD_at h1]
  have h2 : (l[l.findIdx (· == x)]'h1 == x) = true := @List.findIdx_getElem _ (· == x) l h1
  exact eq_of_beq h2
theorem plc_of {l : List Int} {x : Int} {k : Nat} (h : k < l.length) (he : l.getD k 0 = x) (hno : x ∉ l.take k) : plc l x = k := by
  unfold plc
  refine (List.findIdx_eq h).2 ⟨by rw [← getD_at h, he]; simp, fun j hj => ?_⟩
  refine beq_eq_false_iff_ne.2 fun e => hno ?_
  rw [← e]
  exact List.mem_take_iff_getElem.2 ⟨j, by omega, rfl⟩
theorem rgt_of {c : Cf} (h : rgtB c = true) : Rgt c := of_decide_eq_true h
theorem nsq_of {c : Cf} (h : rgtB c = true) : Unq c.ns := by
  have h1 := (rgt_of h).2.2.2.2.2.2
  unfold Cf.mem at h1
  split at h1
  · exact h1
  · exact ⟨fun x hx => h1.1 x (List.mem_append_left _ hx), (List.nodup_append.1 h1.2).1⟩
theorem jn_not {c : Cf} (h : rgtB c = true) (h0 : c.jn ≠ 0) : c.jn ∉ c.ns ∧ 1 ≤ c.jn ∧ c.jn ≤ 24 := by
  have h1 := (rgt_of h).2.2.2.2.2.2
  unfold Cf.mem at h1
  rw [if_neg h0] at h1
  refine ⟨fun hx => (List.nodup_append.1 h1.2).2.2 _ hx _ (by simp) rfl, ?_⟩
  exact h1.1 _ (List.mem_append_right _ (by simp))
theorem zero_not {c : Cf} (h : rgtB c = true) : (0 : Int) ∉ c.ns := fun h0 => by
  have := (nsq_of h).1 0 h0
  omega
/-- In a row without a number twice a number has one place. -/
theorem nodup_place {l : List Int} (h : l.Nodup) {i j : Nat} (hi : i < l.length) (hj : j < l.length) (e : l.getD i 0 = l.getD j 0) : i = j := by
  rw [getD_at hi, getD_at hj] at e
  exact (List.getElem_inj h).1 e
theorem plc_nodup {l : List Int} (h : l.Nodup) {k : Nat} (hk : k < l.length) : plc l (l.getD k 0) = k := by
  have hm : l.getD k 0 ∈ l := by rw [getD_at hk]; exact List.getElem_mem hk
  exact nodup_place h (plc_lt hm) hk (plc_at hm)

/-- The first place of a number, or -1. -/
theorem IndexP_any (v : Value) (l : List Int) (x : Int) (F : Nat → Prop) (w : World) (h : NSl w F v l) :
    Calls Tryz.prog 171 #[v, .int .i64 x] w fun e w' => (e = .returned (.int .i64 (if x ∈ l then (plc l x : Int) else -1))) ∧ w = w' := by
  obtain ⟨a, cap, rfl, _⟩ := id h
  have hl := len_le h
  have H := Lib.hid h
  clear h
  obtain ⟨d, hd⟩ : ∃ d, d = (if x ∈ l then (plc l x : Int) else -1) := ⟨_, rfl⟩
  rw [← hd]
  have HD := Lib.hid hd
  clear hd
  go_enter Tryz.func171, Tryz.ntmps171
  go_wp2
  go_loop [8] (fun i => ∃ k : Nat, i = .int .i64 k ∧ k ≤ l.length ∧ x ∉ l.take k) (fun i => l.length - (intOf i).toNat)
  case atStart => exact ⟨0, rfl, Nat.zero_le _, by simp⟩
  case round =>
    obtain ⟨k, rfl, hk, hno⟩ := hrel
    have HN := Lib.hid hno
    clear hno
    by_cases hlt : k < l.length
    · obtain ⟨b, o, rfl, _, _, hc⟩ := H.out.at_ hlt
      have HT := Lib.hid (take_one hlt)
      have HA : Hid (l.getD k 0 ∈ l) := Lib.hid (by rw [getD_at hlt]; exact List.getElem_mem _)
      have HP : Hid (∀ x, l.getD k 0 = x → x ∉ l.take k → plc l x = k) := Lib.hid (fun x he hno => plc_of hlt he hno)
      obtain ⟨y, hy⟩ : ∃ y, y = l.getD k 0 := ⟨_, rfl⟩
      rw [← hy] at hc HT HA HP
      have hk1 : (k : Int) < (l.length : Int) := by omega
      clear hy
      by_cases he : x = y
      · subst he
        have HE : Hid (d = (k : Int)) := Lib.hid (by rw [HD.out, if_pos HA.out, HP.out x rfl HN.out])
        go_wp2
        go_ret
        exact ⟨(by rw [HE.out] <;> rfl), rfl⟩
      · have hb : ((x : Int) == (y : Int)) = false := by simpa using he
        have HE := Lib.hid he
        clear he
        go_wp2
        go_round
        case rel => exact ⟨k + 1, by go_num, by omega, by
          rw [HT.out]
          simp only [List.mem_append, List.mem_singleton, not_or]
          exact ⟨HN.out, HE.out⟩⟩
        case measure => simp [intOf]; omega
    · obtain rfl : k = l.length := by omega
      have HE : Hid (d = -1) := Lib.hid (by rw [HD.out, if_neg (by have := HN.out; rwa [List.take_length] at this)])
      go_wp2
      go_ret
      exact ⟨(by rw [HE.out] <;> rfl), rfl⟩

theorem CfR.kept {S F : Nat → Prop} {w w' : World} {v : Value} {c : Cf} (h : CfR w F v c) (hk : Kept S w w') (hs : ∀ k, k < w.heap.size → F k → ¬ S k) : CfR w' F v c := by
  obtain ⟨u, h1, h2, h3⟩ := h
  exact ⟨u, h1, h2.kept hk hs, h3⟩
theorem CfR.no {F : Nat → Prop} {w w' : World} {v : Value} {c : Cf} (h : CfR w F v c) (hk : Kept NoB w w') : CfR w' F v c := h.kept hk (fun _ _ _ h => h)
theorem CfR.v {F : Nat → Prop} {w : World} {v : Value} {c : Cf} (h : CfR w F v c) (hl : c.ns.length ≤ 1000) : CfV w F v c := by
  obtain ⟨u, h1, h2, h3, h4⟩ := h
  exact ⟨u, h1, h2, h3, h4, hl⟩
theorem great_not {c : Cf} (h : 1000 < c.ns.length) : rgtB c = false := decide_eq_false fun hr => by have := hr.2.2.2.2.1; omega
theorem Right19 (v : Value) (c : Cf) (F : Nat → Prop) (w : World) (h : CfR w F v c) : Calls Tryz.prog 115 #[v] w (BoolE (rgtB c) w) := by
  by_cases hl : c.ns.length ≤ 1000
  · exact Right_any v c F w (h.v hl)
  · rw [great_not (by omega)]
    exact Right_great v c F w h (by omega)
theorem RRight19 (v : Value) (c : Cf) (F : Nat → Prop) (w : World) (h : CfR w F v c) : Calls Tryz.prog 118 #[v] w (BoolE (rgtB c) w) := by
  by_cases hl : c.ns.length ≤ 1000
  · exact RRight_any v c F w (h.v hl)
  · rw [great_not (by omega)]
    exact RRight_great v c F w h (by omega)
end Go.Proofs.YtcbenminaakahaaGreatDoor
namespace Go.Proofs.YtcbenminaakahaaGreatDoor
open Go.RowKit
set_option linter.unusedVariables false

def IntE (r : Int) (w : World) (e : Ending) (w' : World) : Prop := e = .returned (.int .i64 r) ∧ Kept NoB w w'
def headN (c : Cf) : Int := if rgtB c = true then c.ns.getD 0 0 else 0
def tailN (c : Cf) : Int := if rgtB c = true then lastN c else 0
set_option maxRecDepth 100000 in
theorem Tail19 (v : Value) (c : Cf) (F : Nat → Prop) (w : World) (h : CfR w F v c) : Calls Tryz.prog 173 #[v] w (IntE (tailN c) w) := by
  obtain ⟨u, rfl, hn, h0, htop⟩ := id h
  obtain ⟨a, cap, rfl, hn1, hn2, _⟩ := id hn
  unfold maxLen at hn2
  have HR := Lib.hid (fun w' (hk : Kept NoB w w') => Right19 _ c F w' (h.no hk))
  have HN := Lib.hid (fun w' (hk : Kept NoB w w') => hn.kept hk (fun _ _ _ h => h))
  have HL : Hid (rgtB c = true → 1 ≤ c.ns.length) := Lib.hid (fun h => (rgt_of h).2.2.2.1)
  have HD : Hid (tailN c = if rgtB c = true then c.ns.getD (c.ns.length - 1) 0 else 0) := Lib.hid rfl
  have hb := heap_alloc_new w (.cells #[.int .i64 c.ch, .int .u64 c.ep, .slice a c.ns.length cap, .bool c.fr, .int .i64 c.jn] 29)
  have HK := Lib.hid ((Kept.refl NoB w).alloc (.cells #[.int .i64 c.ch, .int .u64 c.ep, .slice a c.ns.length cap, .bool c.fr, .int .i64 c.jn] 29))
  obtain ⟨r, hr⟩ : ∃ r, r = rgtB c := ⟨_, rfl⟩
  rw [← hr] at HR HL HD
  obtain ⟨d, hd⟩ : ∃ d, d = tailN c := ⟨_, rfl⟩
  rw [← hd] at HD ⊢
  obtain ⟨ch, ep, ns, fr, jn⟩ := c
  simp only at HR HN HL HD hb HK hn1 h0 htop ⊢
  have HB := Lib.hid hb
  clear h hn hr hd hb
  go_enter Tryz.func173, Tryz.ntmps173
  go_wp2_with fail
  refine (HR.out _ HK.out).mono ?_
  rintro e w1 ⟨rfl, hk⟩
  have HK1 := Lib.hid (HK.out.trans hk (fun _ _ h => h))
  obtain ⟨c0, c1, c2, c3, c4⟩ := cells5 (hk.heap (fun h => h) HB.out)
  clear hk
  cases r with
  | false =>
    go_wp2
    go_ret
    exact ⟨(by rw [HD.out]; rfl), HK1.out⟩
  | true =>
    have hl1 := HL.out rfl
    obtain ⟨b, o, rfl, _, _, hc⟩ := (HN.out _ HK1.out).at_ (j := ns.length - 1) (by omega)
    obtain ⟨y, hy⟩ : ∃ y, y = ns.getD (ns.length - 1) 0 := ⟨_, rfl⟩
    rw [← hy] at hc HD
    obtain ⟨m, hm⟩ : ∃ m, m = ns.length - 1 := ⟨_, rfl⟩
    rw [← hm] at hc
    have hmi : (ns.length : Int) - 1 = (m : Int) := by omega
    have hm1 : (m : Int) < (ns.length : Int) := by omega
    have hm0 : (0 : Int) ≤ (m : Int) := by omega
    clear hy hm
    go_wp2
    go_ret
    exact ⟨(by rw [HD.out]; rfl), HK1.out⟩
set_option maxRecDepth 100000 in
theorem RTail19 (v : Value) (c : Cf) (F : Nat → Prop) (w : World) (h : CfR w F v c) : Calls Tryz.prog 181 #[v] w (IntE (tailN c) w) := by
  obtain ⟨u, rfl, hn, h0, htop⟩ := id h
  obtain ⟨a, cap, rfl, hn1, hn2, _⟩ := id hn
  unfold maxLen at hn2
  have HR := Lib.hid (fun w' (hk : Kept NoB w w') => RRight19 _ c F w' (h.no hk))
  have HN := Lib.hid (fun w' (hk : Kept NoB w w') => hn.kept hk (fun _ _ _ h => h))
  have HL : Hid (rgtB c = true → 1 ≤ c.ns.length) := Lib.hid (fun h => (rgt_of h).2.2.2.1)
  have HD : Hid (tailN c = if rgtB c = true then c.ns.getD (c.ns.length - 1) 0 else 0) := Lib.hid rfl
  have hb := heap_alloc_new w (.cells #[.int .i64 c.ch, .int .u64 c.ep, .slice a c.ns.length cap, .bool c.fr, .int .i64 c.jn] 29)
  have HK := Lib.hid ((Kept.refl NoB w).alloc (.cells #[.int .i64 c.ch, .int .u64 c.ep, .slice a c.ns.length cap, .bool c.fr, .int .i64 c.jn] 29))
  obtain ⟨r, hr⟩ : ∃ r, r = rgtB c := ⟨_, rfl⟩
  rw [← hr] at HR HL HD
  obtain ⟨d, hd⟩ : ∃ d, d = tailN c := ⟨_, rfl⟩
  rw [← hd] at HD ⊢
  obtain ⟨ch, ep, ns, fr, jn⟩ := c
  simp only at HR HN HL HD hb HK hn1 h0 htop ⊢
  have HB := Lib.hid hb
  clear h hn hr hd hb
  go_enter Tryz.func181, Tryz.ntmps181
  go_wp2_with fail
  refine (HR.out _ HK.out).mono ?_
  rintro e w1 ⟨rfl, hk⟩
  have HK1 := Lib.hid (HK.out.trans hk (fun _ _ h => h))
  obtain ⟨c0, c1, c2, c3, c4⟩ := cells5 (hk.heap (fun h => h) HB.out)
  clear hk
  cases r with
  | false =>
    go_wp2
    go_ret
    exact ⟨(by rw [HD.out]; rfl), HK1.out⟩
  | true =>
    have hl1 := HL.out rfl
    obtain ⟨b, o, rfl, _, _, hc⟩ := (HN.out _ HK1.out).at_ (j := ns.length - 1) (by omega)
    obtain ⟨y, hy⟩ : ∃ y, y = ns.getD (ns.length - 1) 0 := ⟨_, rfl⟩
    rw [← hy] at hc HD
    obtain ⟨m, hm⟩ : ∃ m, m = ns.length - 1 := ⟨_, rfl⟩
    rw [← hm] at hc
    have hmi : (ns.length : Int) - 1 = (m : Int) := by omega
    have hm1 : (m : Int) < (ns.length : Int) := by omega
    have hm0 : (0 : Int) ≤ (m : Int) := by omega
    clear hy hm
    go_wp2
    go_ret
    exact ⟨(by rw [HD.out]; rfl), HK1.out⟩
end Go.Proofs.YtcbenminaakahaaGreatDoor
namespace Go.Proofs.YtcbenminaakahaaGreatDoor
open Go.RowKit
set_option linter.unusedVariables false

def nearV (c : Cf) (x : Int) : Int := if x < 0 then 0 else if (c.ns.length : Int) - 1 < x then c.jn else c.ns.getD x.toNat 0
/-- What a place's neighbour's literal reads: the last place, and the configuration. -/
structure NearB (w : World) (F : Nat → Prop) (c : Cf) (g b : Nat) (ua : Option Addr) (uc : Nat) : Prop where
  last : w.cell? ⟨g, 0, none⟩ = some (.int .i64 ((c.ns.length : Int) - 1))
  nodes : w.cell? ⟨b, 2, none⟩ = some (.slice ua c.ns.length uc)
  join : w.cell? ⟨b, 4, none⟩ = some (.int .i64 c.jn)
  row : NSl w F (.slice ua c.ns.length uc) c.ns
set_option maxRecDepth 100000 in
theorem near_any (x : Int) (c : Cf) (g b : Nat) (ua : Option Addr) (uc : Nat) (F : Nat → Prop) (w : World) (hx : -1 ≤ x ∧ x ≤ 1000000) (h : NearB w F c g b ua uc) (hl : c.ns.length ≤ 1000) :
    Calls Tryz.prog 238 #[.int .i64 x, .pointer (some ⟨g, 0, none⟩), .pointer (some ⟨b, 0, none⟩)] w fun e w' => e = .returned (.int .i64 (nearV c x)) ∧ w = w' := by
  obtain ⟨hg, h2, h4, hn⟩ := h
  have HN := Lib.hid hn
  have HD : Hid (nearV c x = if x < 0 then 0 else if (c.ns.length : Int) - 1 < x then c.jn else c.ns.getD x.toNat 0) := Lib.hid rfl
  obtain ⟨d, hd⟩ : ∃ d, d = nearV c x := ⟨_, rfl⟩
  rw [← hd] at HD ⊢
  obtain ⟨ch, ep, ns, fr, jn⟩ := c
  simp only at hg h2 h4 HN HD hl ⊢
  clear hd hn
  by_cases h1 : x < 0
  · have hd1 : decide (x < 0) = true := decide_eq_true h1
    have HE : Hid (d = 0) := Lib.hid (by rw [HD.out, if_pos h1])
    clear HD
    go_enter Tryz.func238, Tryz.ntmps238
    go_wp2
    go_ret
    exact ⟨(by rw [HE.out] <;> rfl), rfl⟩
  · have hd1 : decide (x < 0) = false := decide_eq_false h1
    by_cases h3 : (ns.length : Int) - 1 < x
    · have hd2 : decide ((ns.length : Int) - 1 < x) = true := decide_eq_true h3
      have HE : Hid (d = jn) := Lib.hid (by rw [HD.out, if_neg h1, if_pos h3])
      clear HD
      go_enter Tryz.func238, Tryz.ntmps238
      go_wp2
      go_ret
      exact ⟨(by rw [HE.out] <;> rfl), rfl⟩
    · have hd2 : decide ((ns.length : Int) - 1 < x) = false := decide_eq_false h3
      have HE : Hid (d = ns.getD x.toNat 0) := Lib.hid (by rw [HD.out, if_neg h1, if_neg h3])
      obtain ⟨k, rfl⟩ : ∃ k : Nat, x = k := ⟨x.toNat, by omega⟩
      obtain ⟨bb, o, rfl, _, _, hc⟩ := HN.out.at_ (j := k) (by omega)
      rw [Int.toNat_natCast] at HE
      obtain ⟨y, hy⟩ : ∃ y, y = ns.getD k 0 := ⟨_, rfl⟩
      rw [← hy] at hc HE
      have hk1 : (k : Int) < (ns.length : Int) := by omega
      clear HD hy HN
      go_enter Tryz.func238, Tryz.ntmps238
      go_wp2
      go_ret
      exact ⟨(by rw [HE.out] <;> rfl), rfl⟩
theorem near_pred (c : Cf) (k : Nat) (hk : k < c.ns.length) : nearV c ((k : Int) - 1) = predN c k := by
  unfold nearV predN
  by_cases h : k = 0
  · rw [if_pos h, if_pos (by omega)]
  · rw [if_neg h, if_neg (by omega), if_neg (by omega), show ((k : Int) - 1).toNat = k - 1 by omega]
theorem near_succ (c : Cf) (k : Nat) (hk : k < c.ns.length) : nearV c ((k : Int) + 1) = succN c k := by
  unfold nearV succN
  by_cases h : k + 1 = c.ns.length
  · rw [if_pos h, if_neg (by omega), if_pos (by omega)]
  · rw [if_neg h, if_neg (by omega), if_neg (by omega), show ((k : Int) + 1).toNat = k + 1 by omega]
theorem ent_near : Enters 238 := fun args w => by kernel_rfl
/-- A role that was laid into its block. -/
theorem rl_cells {w : World} {b : Nat} {t : TypeId} (r : Rl) {x0 x1 x2 x3 x4 x5 x6 x7 : Value} (h : w.heap[b]? = some (.cells #[x0, x1, x2, x3, x4, x5, x6, x7] t (0, 0))) :
    ((((((((w.setCell ⟨b, 0, none⟩ (.bool r.inn)).setCell ⟨b, 1, none⟩ (.bool r.joins)).setCell ⟨b, 2, none⟩ (.bool r.head)).setCell ⟨b, 3, none⟩ (.bool r.tail)).setCell ⟨b, 4, none⟩ (.bool r.waits)).setCell ⟨b, 5, none⟩ (.int .i64 r.place)).setCell ⟨b, 6, none⟩ (.int .i64 r.pred)).setCell ⟨b, 7, none⟩ (.int .i64 r.succ)).heap[b]? =
      some (.cells #[.bool r.inn, .bool r.joins, .bool r.head, .bool r.tail, .bool r.waits, .int .i64 r.place, .int .i64 r.pred, .int .i64 r.succ] t (0, 0)) := by
  simp [World.setCell, Array.getElem?_modify, h]
theorem rl_kept {w0 w : World} {b : Nat} (r : Rl) (h : Kept NoB w0 w) (hb : w0.heap.size ≤ b) :
    Kept NoB w0 ((((((((w.setCell ⟨b, 0, none⟩ (.bool r.inn)).setCell ⟨b, 1, none⟩ (.bool r.joins)).setCell ⟨b, 2, none⟩ (.bool r.head)).setCell ⟨b, 3, none⟩ (.bool r.tail)).setCell ⟨b, 4, none⟩ (.bool r.waits)).setCell ⟨b, 5, none⟩ (.int .i64 r.place)).setCell ⟨b, 6, none⟩ (.int .i64 r.pred)).setCell ⟨b, 7, none⟩ (.int .i64 r.succ)) :=
  ((((((((h.setCell (.inr hb) _).setCell (.inr hb) _).setCell (.inr hb) _).setCell (.inr hb) _).setCell (.inr hb) _).setCell (.inr hb) _).setCell (.inr hb) _).setCell (.inr hb) _)
theorem rl_keptS {S : Nat → Prop} {w0 w : World} {b : Nat} (r : Rl) (h : Kept S w0 w) (hb : S b ∨ w0.heap.size ≤ b) :
    Kept S w0 ((((((((w.setCell ⟨b, 0, none⟩ (.bool r.inn)).setCell ⟨b, 1, none⟩ (.bool r.joins)).setCell ⟨b, 2, none⟩ (.bool r.head)).setCell ⟨b, 3, none⟩ (.bool r.tail)).setCell ⟨b, 4, none⟩ (.bool r.waits)).setCell ⟨b, 5, none⟩ (.int .i64 r.place)).setCell ⟨b, 6, none⟩ (.int .i64 r.pred)).setCell ⟨b, 7, none⟩ (.int .i64 r.succ)) :=
  ((((((((h.setCell hb _).setCell hb _).setCell hb _).setCell hb _).setCell hb _).setCell hb _).setCell hb _).setCell hb _)
theorem cells8 {w : World} {b : Nat} {t : TypeId} {x0 x1 x2 x3 x4 x5 x6 x7 : Value} (h : w.heap[b]? = some (.cells #[x0, x1, x2, x3, x4, x5, x6, x7] t (0, 0))) :
    w.cell? ⟨b, 0, none⟩ = some x0 ∧ w.cell? ⟨b, 1, none⟩ = some x1 ∧ w.cell? ⟨b, 2, none⟩ = some x2 ∧ w.cell? ⟨b, 3, none⟩ = some x3 ∧ w.cell? ⟨b, 4, none⟩ = some x4 ∧ w.cell? ⟨b, 5, none⟩ = some x5 ∧ w.cell? ⟨b, 6, none⟩ = some x6 ∧ w.cell? ⟨b, 7, none⟩ = some x7 :=
  ⟨cell_of_row _ _ 0 _ _ _ h, cell_of_row _ _ 1 _ _ _ h, cell_of_row _ _ 2 _ _ _ h, cell_of_row _ _ 3 _ _ _ h, cell_of_row _ _ 4 _ _ _ h, cell_of_row _ _ 5 _ _ _ h, cell_of_row _ _ 6 _ _ _ h, cell_of_row _ _ 7 _ _ _ h⟩
theorem frz {w : World} {b : Nat} {cs : Array Value} {t : TypeId} (h : w.heap[b]? = some (.cells cs t (0, 0))) (o : Nat) : w.frozen? ⟨b, o, none⟩ = false := by simp [World.frozen?, h]
end Go.Proofs.YtcbenminaakahaaGreatDoor
namespace Go.Proofs.YtcbenminaakahaaGreatDoor
open Go.RowKit
set_option linter.unusedVariables false
set_option linter.unusedSimpArgs false

def RlE (r : Rl) (w : World) (e : Ending) (w' : World) : Prop := e = .returned (rlV r) ∧ Kept NoB w w'
set_option maxRecDepth 100000 in
set_option maxHeartbeats 1000000 in
theorem inside_any (v : Value) (c : Cf) (k : Nat) (F : Nat → Prop) (w : World) (h : CfR w F v c) (hl : c.ns.length ≤ 1000) (hk : k < c.ns.length) : Calls Tryz.prog 172 #[v, .int .i64 k] w (RlE (insR c k) w) := by
  obtain ⟨u, rfl, hn, h0, htop⟩ := id h
  obtain ⟨a, cap, rfl, hn1, hn2, _⟩ := id hn
  unfold maxLen at hn2
  have hent : ∀ (args : Array Value) (w : World), Sem.run Tryz.prog (callFunc 238 args) w = .ok (.enter 238 args) w := ent_near
  have hmf : ∀ (fn : Fn) (first cap : Array Value) (w : World), (Instr.makeFunc fn first cap).run Tryz.prog w = .ok (.func fn first cap) w := fun _ _ _ _ => rfl
  have HNP := Lib.hid (fun g b w' (hw : NearB w' F c g b a cap) => near_pred c k hk ▸ near_any ((k : Int) - 1) c g b a cap F w' ⟨by omega, by omega⟩ hw hl)
  have HNS := Lib.hid (fun g b w' (hw : NearB w' F c g b a cap) => near_succ c k hk ▸ near_any ((k : Int) + 1) c g b a cap F w' ⟨by omega, by omega⟩ hw hl)
  have HB : Hid (∀ w' g b, Kept (fun k => k = w.heap.size + 1) w w' → w'.heap[b]? = some (.cells #[.int .i64 c.ch, .int .u64 c.ep, .slice a c.ns.length cap, .bool c.fr, .int .i64 c.jn] 29 (0, 0)) → w'.heap[g]? = some (.cells #[.int .i64 ((c.ns.length : Int) - 1)] 3 (0, 0)) → NearB w' F c g b a cap) :=
    Lib.hid (fun w' g b hk hb hg => ⟨cell_of_row _ _ 0 _ _ _ hg, cell_of_row _ _ 2 _ _ _ hb, cell_of_row _ _ 4 _ _ _ hb, hn.kept hk (fun i hi _ h => by omega)⟩)
  have HD : Hid (insR c k = ⟨true, false, ((k : Int) == 0), ((k : Int) == (c.ns.length : Int) - 1), ((k : Int) == (c.ns.length : Int) - 1) && c.fr, k, predN c k, succN c k⟩) := Lib.hid (by
    unfold insR
    rw [show decide (k = 0) = ((k : Int) == 0) from by rw [Bool.eq_iff_iff]; simp, show decide (k + 1 = c.ns.length) = ((k : Int) == (c.ns.length : Int) - 1) from by rw [Bool.eq_iff_iff]; simp; omega])
  obtain ⟨R, hR⟩ : ∃ R, R = insR c k := ⟨_, rfl⟩
  rw [← hR] at HD ⊢
  obtain ⟨P, hP⟩ : ∃ P, P = predN c k := ⟨_, rfl⟩
  obtain ⟨S, hS⟩ : ∃ S, S = succN c k := ⟨_, rfl⟩
  rw [← hP] at HNP HD
  rw [← hS] at HNS HD
  have hki : (k : Int) < (c.ns.length : Int) := by omega
  have hk1000 : (k : Int) ≤ 1000 := by omega
  have hk0 : (0 : Int) ≤ (k : Int) := by omega
  obtain ⟨W1, hW1⟩ : ∃ W1, W1 = (w.alloc (.cells #[.int .i64 c.ch, .int .u64 c.ep, .slice a c.ns.length cap, .bool c.fr, .int .i64 c.jn] 29)).alloc (.cells #[.bool false, .bool false, .bool false, .bool false, .bool false, .int .i64 0, .int .i64 0, .int .i64 0] 185) := ⟨_, rfl⟩
  have hs1 : W1.heap.size = w.heap.size + 2 := by rw [hW1]; simp
  have hb1 : W1.heap[w.heap.size]? = some (.cells #[.int .i64 c.ch, .int .u64 c.ep, .slice a c.ns.length cap, .bool c.fr, .int .i64 c.jn] 29 (0, 0)) := by rw [hW1]; exact ((Kept.refl NoB _).alloc _).heap (fun h => h) (heap_alloc_new w _)
  have hr1 : W1.heap[w.heap.size + 1]? = some (.cells #[.bool false, .bool false, .bool false, .bool false, .bool false, .int .i64 0, .int .i64 0, .int .i64 0] 185 (0, 0)) := by
    have := heap_alloc_new (w.alloc (.cells #[.int .i64 c.ch, .int .u64 c.ep, .slice a c.ns.length cap, .bool c.fr, .int .i64 c.jn] 29)) (.cells #[.bool false, .bool false, .bool false, .bool false, .bool false, .int .i64 0, .int .i64 0, .int .i64 0] 185)
    rw [show (w.alloc (.cells #[.int .i64 c.ch, .int .u64 c.ep, .slice a c.ns.length cap, .bool c.fr, .int .i64 c.jn] 29)).heap.size = w.heap.size + 1 by simp] at this
    rw [hW1]; exact this
  have HK1 : Hid (Kept NoB w W1) := Lib.hid (by rw [hW1]; exact ((Kept.refl _ _).alloc _).alloc _)
  have HB1 := Lib.hid hb1
  have HR1 := Lib.hid hr1
  have HS1 := Lib.hid hs1
  have HW1 := Lib.hid hW1
  clear h hn hR hP hS hW1 hb1 hr1 hs1
  obtain ⟨ch, ep, ns, fr, jn⟩ := c
  simp only at *
  go_enter Tryz.func172, Tryz.ntmps172
  go_wp2_with fail
  rw [← HW1.out]
  obtain ⟨T, hT⟩ : ∃ T, T = ((k : Int) == (ns.length : Int) - 1) := ⟨_, rfl⟩
  obtain ⟨Z, hZ⟩ : ∃ Z, Z = ((k : Int) == 0) := ⟨_, rfl⟩
  rw [← hT, ← hZ] at HD
  rw [← hT]
  have hZ' : ((k : Int) == 0) = Z := hZ.symm
  clear hT hZ
  obtain ⟨V, hV⟩ : ∃ V, V = W1.alloc (.cells #[.int .i64 ((ns.length : Int) - 1)] 3 (0, 0)) := ⟨_, rfl⟩
  rw [← hV]
  have HKV : Hid (Kept NoB w V) := Lib.hid (by rw [hV]; exact HK1.out.alloc _)
  have hkv : Kept NoB W1 V := by rw [hV]; exact (Kept.refl NoB _).alloc _
  have hb := hkv.heap (fun h => h) HB1.out
  have hr := hkv.heap (fun h => h) HR1.out
  have hg : V.heap[w.heap.size + 1 + 1]? = some (.cells #[.int .i64 ((ns.length : Int) - 1)] 3 (0, 0)) := by
    have := heap_alloc_new W1 (.cells #[.int .i64 ((ns.length : Int) - 1)] 3 (0, 0))
    rw [HS1.out] at this
    rw [hV]; exact this
  have hres : w.heap.size ≤ w.heap.size + 1 := by omega
  have hKS : Kept (fun k => k = w.heap.size + 1) w V := HKV.out.mono (fun _ _ h => absurd h (fun h => h))
  have HNB : Hid (∀ w', Kept (fun k => k = w.heap.size + 1) V w' → NearB w' F ⟨ch, ep, ns, fr, jn⟩ (w.heap.size + 1 + 1) w.heap.size a cap) := Lib.hid (fun w' hk => HB.out w' _ _ (hKS.trans hk (fun _ _ h => h)) (hk.heap (by show ¬ w.heap.size = w.heap.size + 1; omega) hb) (hk.heap (by show ¬ w.heap.size + 1 + 1 = w.heap.size + 1; omega) hg))
  have HP1 := Lib.hid (fun w' (hk : Kept (fun k => k = w.heap.size + 1) V w') => HNP.out _ _ w' (HNB.out w' hk))
  have HS2 := Lib.hid (fun w' (hk : Kept (fun k => k = w.heap.size + 1) V w') => HNS.out _ _ w' (HNB.out w' hk))
  have HRV := Lib.hid hr
  have HBV := Lib.hid hb
  obtain ⟨r0, r1, r2, r3, r4, r5, r6, r7⟩ := cells8 hr
  have z1 := frz hr
  clear hkv hV hb hr hg HB HNP HNS HB1 HR1 HW1 hKS
  have hwm : IntKind.i64.wrap ((k : Int) - 1) = (k : Int) - 1 := IntWalk.i64_in _ (by omega)
  have hwp : IntKind.i64.wrap ((k : Int) + 1) = (k : Int) + 1 := IntWalk.i64_in _ (by omega)
  cases T
  · have HE : Hid (R = ⟨true, false, Z, false, false, k, P, S⟩) := Lib.hid (by rw [HD.out]; rfl)
    have HTEN : Hid (∀ w', Kept (fun k => k = w.heap.size + 1) V w' → w'.cell? ⟨w.heap.size, 3, none⟩ = some (.bool fr)) := Lib.hid (fun w' hk => cell_of_row _ _ 3 _ _ _ (hk.heap (by show ¬ w.heap.size = w.heap.size + 1; omega) HBV.out))
    have HKe := Lib.hid (Kept.refl (fun k => k = w.heap.size + 1) V).drew
    have HT := Lib.hid (HTEN.out _ HKe.out)
    refine wp_region_noPanic ?_
    refine wp_region_held_drew (S := (fun w' => w'.cell? ⟨w.heap.size, 3, none⟩ = some (.bool fr))) (by kernel_rfl) ?_ (fun hHeld => ?_)
    · (try dsimp only); with_reducible exact HT.out
    refine wpAnyH_take (i := 0) (oi := { dst := some 16, op := Op.move (Operand.tmp 1), type := 3, pos := "role.go:121", after := #[], guard := none }) (v := ?_) rfl (by kernel_rfl) (by kernel_rfl) (by kernel_rfl) (fun _ _ _ h => h) (Or.inl ⟨by rfl, ?_⟩) (by assumption) ?_
    rotate_left
    · (intro w hSw; (try dsimp only at hSw); go_simp; try with_reducible rfl)
    try simp only [Act.put, List.setIfInBounds_toArray, List.set_cons_zero, List.set_cons_succ]
    refine wpAnyH_take (i := 1) (oi := { dst := some 17, op := Op.binOp BinOp.eql 3 (Operand.tmp 16) (Operand.const (Value.int IntKind.i64 0)) 3, type := 4, pos := "role.go:121", after := #[{ on := 0, ground := Ground.data }], guard := none }) (v := ?_) rfl (by kernel_rfl) (by kernel_rfl) (by kernel_rfl) (fun _ _ _ h => h) (Or.inl ⟨by rfl, ?_⟩) (by assumption) ?_
    rotate_left
    · (intro w hSw; (try dsimp only at hSw); go_simp; try with_reducible rfl)
    try simp only [Act.put, List.setIfInBounds_toArray, List.set_cons_zero, List.set_cons_succ]
    refine wpAnyH_take (i := 2) (oi := { dst := some 18, op := Op.move (Operand.tmp 7), type := 4, pos := "role.go:121", after := #[], guard := none }) (v := ?_) rfl (by kernel_rfl) (by kernel_rfl) (by kernel_rfl) (fun _ _ _ h => h) (Or.inl ⟨by rfl, ?_⟩) (by assumption) ?_
    rotate_left
    · (intro w hSw; (try dsimp only at hSw); go_simp; try with_reducible rfl)
    try simp only [Act.put, List.setIfInBounds_toArray, List.set_cons_zero, List.set_cons_succ]
    refine wpAnyH_take (i := 3) (oi := { dst := some 19, op := Op.move (Operand.tmp 7), type := 4, pos := "role.go:121", after := #[], guard := none }) (v := ?_) rfl (by kernel_rfl) (by kernel_rfl) (by kernel_rfl) (fun _ _ _ h => h) (Or.inl ⟨by rfl, ?_⟩) (by assumption) ?_
    rotate_left
    · (intro w hSw; (try dsimp only at hSw); go_simp; try with_reducible rfl)
    try simp only [Act.put, List.setIfInBounds_toArray, List.set_cons_zero, List.set_cons_succ]
    refine wpAnyH_take (i := 4) (oi := { dst := some 20, op := Op.move (Operand.tmp 19), type := 4, pos := "role.go:121", after := #[{ on := 3, ground := Ground.data }], guard := none }) (v := ?_) rfl (by kernel_rfl) (by kernel_rfl) (by kernel_rfl) (fun _ _ _ h => h) (Or.inl ⟨by rfl, ?_⟩) (by assumption) ?_
    rotate_left
    · (intro w hSw; (try dsimp only at hSw); go_simp; try with_reducible rfl)
    try simp only [Act.put, List.setIfInBounds_toArray, List.set_cons_zero, List.set_cons_succ]
    refine wpAnyH_take (i := 5) (oi := { dst := some 21, op := Op.fieldAddr 29 (Operand.tmp 2) 3, type := 0, pos := "role.go:121", after := #[{ on := 4, ground := Ground.guard }], guard := some (4, true) }) (v := undef) rfl (by kernel_rfl) (by kernel_rfl) (by kernel_rfl) (fun _ _ _ h => h) (Or.inr ⟨by rfl, rfl⟩) (by assumption) ?_
    try simp only [Act.put, List.setIfInBounds_toArray, List.set_cons_zero, List.set_cons_succ]
    refine wpAnyH_take (i := 6) (oi := { dst := some 22, op := Op.load 4 (Operand.tmp 21), type := 4, pos := "role.go:121", after := #[{ on := 5, ground := Ground.data }, { on := 4, ground := Ground.guard }], guard := some (4, true) }) (v := undef) rfl (by kernel_rfl) (by kernel_rfl) (by kernel_rfl) (fun _ _ _ h => h) (Or.inr ⟨by rfl, rfl⟩) (by assumption) ?_
    try simp only [Act.put, List.setIfInBounds_toArray, List.set_cons_zero, List.set_cons_succ]
    refine wpAnyH_take (i := 7) (oi := { dst := some 23, op := Op.pick (Operand.tmp 20) (Operand.tmp 22) (Operand.const (Value.bool false)), type := 4, pos := "role.go:121", after := #[{ on := 4, ground := Ground.data }, { on := 6, ground := Ground.data }], guard := none }) (v := ?_) rfl (by kernel_rfl) (by kernel_rfl) (by kernel_rfl) (fun _ _ _ h => h) (Or.inl ⟨by rfl, ?_⟩) (by assumption) ?_
    rotate_left
    · (intro w hSw; (try dsimp only at hSw); go_simp; try with_reducible rfl)
    try simp only [Act.put, List.setIfInBounds_toArray, List.set_cons_zero, List.set_cons_succ]
    refine wpAnyH_take (i := 8) (oi := { dst := some 24, op := Op.move (Operand.tmp 1), type := 3, pos := "role.go:121", after := #[], guard := none }) (v := ?_) rfl (by kernel_rfl) (by kernel_rfl) (by kernel_rfl) (fun _ _ _ h => h) (Or.inl ⟨by rfl, ?_⟩) (by assumption) ?_
    rotate_left
    · (intro w hSw; (try dsimp only at hSw); go_simp; try with_reducible rfl)
    try simp only [Act.put, List.setIfInBounds_toArray, List.set_cons_zero, List.set_cons_succ]
    refine wpAnyH_take (i := 9) (oi := { dst := some 25, op := Op.move (Operand.tmp 6), type := 325, pos := "role.go:121", after := #[], guard := none }) (v := ?_) rfl (by kernel_rfl) (by kernel_rfl) (by kernel_rfl) (fun _ _ _ h => h) (Or.inl ⟨by rfl, ?_⟩) (by assumption) ?_
    rotate_left
    · (intro w hSw; (try dsimp only at hSw); go_simp; try with_reducible rfl)
    try simp only [Act.put, List.setIfInBounds_toArray, List.set_cons_zero, List.set_cons_succ]
    refine wpAnyH_take (i := 10) (oi := { dst := some 26, op := Op.move (Operand.tmp 1), type := 3, pos := "role.go:121", after := #[], guard := none }) (v := ?_) rfl (by kernel_rfl) (by kernel_rfl) (by kernel_rfl) (fun _ _ _ h => h) (Or.inl ⟨by rfl, ?_⟩) (by assumption) ?_
    rotate_left
    · (intro w hSw; (try dsimp only at hSw); go_simp; try with_reducible rfl)
    try simp only [Act.put, List.setIfInBounds_toArray, List.set_cons_zero, List.set_cons_succ]
    refine wpAnyH_take (i := 11) (oi := { dst := some 27, op := Op.binOp BinOp.sub 3 (Operand.tmp 26) (Operand.const (Value.int IntKind.i64 1)) 3, type := 3, pos := "role.go:121", after := #[{ on := 10, ground := Ground.data }], guard := none }) (v := ?_) rfl (by kernel_rfl) (by kernel_rfl) (by kernel_rfl) (fun _ _ _ h => h) (Or.inl ⟨by rfl, ?_⟩) (by assumption) ?_
    rotate_left
    · (intro w hSw; (try dsimp only at hSw); go_simp; try with_reducible rfl)
    try simp only [Act.put, List.setIfInBounds_toArray, List.set_cons_zero, List.set_cons_succ]
    refine wpAnyH_take (i := 13) (oi := { dst := some 29, op := Op.move (Operand.tmp 6), type := 325, pos := "role.go:121", after := #[], guard := none }) (v := ?_) rfl (by kernel_rfl) (by kernel_rfl) (by kernel_rfl) (fun _ _ _ h => h) (Or.inl ⟨by rfl, ?_⟩) (by assumption) ?_
    rotate_left
    · (intro w hSw; (try dsimp only at hSw); go_simp; try with_reducible rfl)
    try simp only [Act.put, List.setIfInBounds_toArray, List.set_cons_zero, List.set_cons_succ]
    refine wpAnyH_take (i := 14) (oi := { dst := some 30, op := Op.move (Operand.tmp 1), type := 3, pos := "role.go:121", after := #[], guard := none }) (v := ?_) rfl (by kernel_rfl) (by kernel_rfl) (by kernel_rfl) (fun _ _ _ h => h) (Or.inl ⟨by rfl, ?_⟩) (by assumption) ?_
    rotate_left
    · (intro w hSw; (try dsimp only at hSw); go_simp; try with_reducible rfl)
    try simp only [Act.put, List.setIfInBounds_toArray, List.set_cons_zero, List.set_cons_succ]
    refine wpAnyH_take (i := 15) (oi := { dst := some 31, op := Op.binOp BinOp.add 3 (Operand.tmp 30) (Operand.const (Value.int IntKind.i64 1)) 3, type := 3, pos := "role.go:121", after := #[{ on := 14, ground := Ground.data }], guard := none }) (v := ?_) rfl (by kernel_rfl) (by kernel_rfl) (by kernel_rfl) (fun _ _ _ h => h) (Or.inl ⟨by rfl, ?_⟩) (by assumption) ?_
    rotate_left
    · (intro w hSw; (try dsimp only at hSw); go_simp; try with_reducible rfl)
    try simp only [Act.put, List.setIfInBounds_toArray, List.set_cons_zero, List.set_cons_succ]
    refine wpAnyH_ready (rs := [12]) (by kernel_rfl) (by simp) ?_
    refine AllReadyH.cons (o := { dst := some 28, op := Op.call { callee := Callee.value (Operand.tmp 25), args := #[Operand.tmp 27], argTypes := #[3] }, type := 3, pos := "role.go:121", after := #[{ on := 9, ground := Ground.data }, { on := 11, ground := Ground.data }, { on := 4, ground := Ground.chain }], guard := none }) rfl (fun K hK => ?_) AllReadyH.nil
    go_simp
    (go_at_call 238; (with_reducible refine (HP1.out _ HKe.out).mono ?_); rintro e w1 ⟨rfl, rfl⟩)
    replace HT := Lib.hid (HTEN.out _ HKe.out)
    first | (with_reducible refine hK.out _ _ ?_ (fun hHeld => ?_)) | (go_wp2_with fail; with_reducible refine hK.out _ _ ?_ (fun hHeld => ?_))
    · (try dsimp only); with_reducible exact HT.out
    clear hK K
    try simp only [Act.put, List.setIfInBounds_toArray, List.set_cons_zero, List.set_cons_succ]
    refine wpAnyH_ready (rs := [16]) (by kernel_rfl) (by simp) ?_
    refine AllReadyH.cons (o := { dst := some 32, op := Op.call { callee := Callee.value (Operand.tmp 29), args := #[Operand.tmp 31], argTypes := #[3] }, type := 3, pos := "role.go:121", after := #[{ on := 13, ground := Ground.data }, { on := 15, ground := Ground.data }, { on := 12, ground := Ground.chain }], guard := none }) rfl (fun K hK => ?_) AllReadyH.nil
    go_simp
    (go_at_call 238; (with_reducible refine (HS2.out _ HKe.out).mono ?_); rintro e w1 ⟨rfl, rfl⟩)
    replace HT := Lib.hid (HTEN.out _ HKe.out)
    first | (with_reducible refine hK.out _ _ ?_ (fun hHeld => ?_)) | (go_wp2_with fail; with_reducible refine hK.out _ _ ?_ (fun hHeld => ?_))
    · (try dsimp only); with_reducible exact HT.out
    clear hK K
    try simp only [Act.put, List.setIfInBounds_toArray, List.set_cons_zero, List.set_cons_succ]
    refine wpAnyH_take (i := 17) (oi := { dst := some 33, op := Op.build 185 #[(0, Operand.const (Value.bool true)), (2, Operand.tmp 17), (3, Operand.tmp 18), (4, Operand.tmp 23), (5, Operand.tmp 24), (6, Operand.tmp 28), (7, Operand.tmp 32)], type := 185, pos := "role.go:121", after := #[{ on := 1, ground := Ground.data }, { on := 2, ground := Ground.data }, { on := 7, ground := Ground.data }, { on := 8, ground := Ground.data }, { on := 12, ground := Ground.data }, { on := 16, ground := Ground.data }], guard := none }) (v := ?_) rfl (by kernel_rfl) (by kernel_rfl) (by kernel_rfl) (fun _ _ _ h => h) (Or.inl ⟨by rfl, ?_⟩) (by assumption) ?_
    rotate_left
    · (intro w hSw; (try dsimp only at hSw); go_simp; try with_reducible rfl)
    try simp only [Act.put, List.setIfInBounds_toArray, List.set_cons_zero, List.set_cons_succ]
    refine wpAnyH_ready (rs := [18]) (by kernel_rfl) (by simp) ?_
    refine AllReadyH.cons (o := { dst := none, op := Op.store 185 (Operand.tmp 4) (Operand.tmp 33), type := 0, pos := "role.go:121", after := #[{ on := 17, ground := Ground.data }, { on := 16, ground := Ground.chain }, { on := 0, ground := Ground.phase }, { on := 1, ground := Ground.phase }, { on := 2, ground := Ground.phase }, { on := 3, ground := Ground.phase }, { on := 4, ground := Ground.phase }, { on := 5, ground := Ground.phase }, { on := 6, ground := Ground.phase }, { on := 7, ground := Ground.phase }, { on := 8, ground := Ground.phase }, { on := 9, ground := Ground.phase }, { on := 10, ground := Ground.phase }, { on := 11, ground := Ground.phase }, { on := 12, ground := Ground.phase }, { on := 13, ground := Ground.phase }, { on := 14, ground := Ground.phase }, { on := 15, ground := Ground.phase }, { on := 16, ground := Ground.phase }, { on := 17, ground := Ground.phase }], guard := none }) rfl (fun K hK => ?_) AllReadyH.nil
    obtain ⟨r0, r1, r2, r3, r4, r5, r6, r7⟩ := cells8 (show V.drew.heap[w.heap.size + 1]? = _ from HRV.out)
    have z1 := frz (show V.drew.heap[w.heap.size + 1]? = _ from HRV.out)
    go_simp
    have hfin := rl_cells ⟨true, false, Z, false, false, k, P, S⟩ HRV.out
    have hkf := rl_kept ⟨true, false, Z, false, false, k, P, S⟩ HKV.out (b := w.heap.size + 1) hres
    have hks := rl_keptS (S := (fun k => k = w.heap.size + 1)) ⟨true, false, Z, false, false, k, P, S⟩ (Kept.refl _ V) (b := w.heap.size + 1) (.inl rfl)
    simp only at hfin hkf hks
    clear r0 r1 r2 r3 r4 r5 r6 r7 z1
    generalize hW : World.setCell _ _ _ = W3 at hfin hkf hks ⊢
    with_reducible refine hK.out _ _ ?_ (fun hHeld => ?_)
    · (try dsimp only); exact cell_of_row _ _ 3 _ _ _ (hks.drew.heap (by show ¬ w.heap.size = w.heap.size + 1; omega) HBV.out)
    clear hK K
    refine wpAnyH_done (by kernel_rfl) ?_ _
    refine NoPanic.normal ?_
    go_wp2
    obtain ⟨r0, r1, r2, r3, r4, r5, r6, r7⟩ := cells8 hfin
    exact bodyPost_ret (v := rlV ⟨true, false, Z, false, false, k, P, S⟩) (by simp [results, Tryz.results172, go_sem, r0, r1, r2, r3, r4, r5, r6, r7, rlV]) rfl ⟨by rw [HE.out], hkf.drew⟩
  · have HE : Hid (R = ⟨true, false, Z, true, fr, k, P, S⟩) := Lib.hid (by rw [HD.out]; rfl)
    have HTEN : Hid (∀ w', Kept (fun k => k = w.heap.size + 1) V w' → w'.cell? ⟨w.heap.size, 3, none⟩ = some (.bool fr)) := Lib.hid (fun w' hk => cell_of_row _ _ 3 _ _ _ (hk.heap (by show ¬ w.heap.size = w.heap.size + 1; omega) HBV.out))
    have HKe := Lib.hid (Kept.refl (fun k => k = w.heap.size + 1) V).drew
    have HT := Lib.hid (HTEN.out _ HKe.out)
    refine wp_region_noPanic ?_
    refine wp_region_held_drew (S := (fun w' => w'.cell? ⟨w.heap.size, 3, none⟩ = some (.bool fr))) (by kernel_rfl) ?_ (fun hHeld => ?_)
    · (try dsimp only); with_reducible exact HT.out
    refine wpAnyH_take (i := 0) (oi := { dst := some 16, op := Op.move (Operand.tmp 1), type := 3, pos := "role.go:121", after := #[], guard := none }) (v := ?_) rfl (by kernel_rfl) (by kernel_rfl) (by kernel_rfl) (fun _ _ _ h => h) (Or.inl ⟨by rfl, ?_⟩) (by assumption) ?_
    rotate_left
    · (intro w hSw; (try dsimp only at hSw); go_simp; try with_reducible rfl)
    try simp only [Act.put, List.setIfInBounds_toArray, List.set_cons_zero, List.set_cons_succ]
    refine wpAnyH_take (i := 1) (oi := { dst := some 17, op := Op.binOp BinOp.eql 3 (Operand.tmp 16) (Operand.const (Value.int IntKind.i64 0)) 3, type := 4, pos := "role.go:121", after := #[{ on := 0, ground := Ground.data }], guard := none }) (v := ?_) rfl (by kernel_rfl) (by kernel_rfl) (by kernel_rfl) (fun _ _ _ h => h) (Or.inl ⟨by rfl, ?_⟩) (by assumption) ?_
    rotate_left
    · (intro w hSw; (try dsimp only at hSw); go_simp; try with_reducible rfl)
    try simp only [Act.put, List.setIfInBounds_toArray, List.set_cons_zero, List.set_cons_succ]
    refine wpAnyH_take (i := 2) (oi := { dst := some 18, op := Op.move (Operand.tmp 7), type := 4, pos := "role.go:121", after := #[], guard := none }) (v := ?_) rfl (by kernel_rfl) (by kernel_rfl) (by kernel_rfl) (fun _ _ _ h => h) (Or.inl ⟨by rfl, ?_⟩) (by assumption) ?_
    rotate_left
    · (intro w hSw; (try dsimp only at hSw); go_simp; try with_reducible rfl)
    try simp only [Act.put, List.setIfInBounds_toArray, List.set_cons_zero, List.set_cons_succ]
    refine wpAnyH_take (i := 3) (oi := { dst := some 19, op := Op.move (Operand.tmp 7), type := 4, pos := "role.go:121", after := #[], guard := none }) (v := ?_) rfl (by kernel_rfl) (by kernel_rfl) (by kernel_rfl) (fun _ _ _ h => h) (Or.inl ⟨by rfl, ?_⟩) (by assumption) ?_
    rotate_left
    · (intro w hSw; (try dsimp only at hSw); go_simp; try with_reducible rfl)
    try simp only [Act.put, List.setIfInBounds_toArray, List.set_cons_zero, List.set_cons_succ]
    refine wpAnyH_take (i := 4) (oi := { dst := some 20, op := Op.move (Operand.tmp 19), type := 4, pos := "role.go:121", after := #[{ on := 3, ground := Ground.data }], guard := none }) (v := ?_) rfl (by kernel_rfl) (by kernel_rfl) (by kernel_rfl) (fun _ _ _ h => h) (Or.inl ⟨by rfl, ?_⟩) (by assumption) ?_
    rotate_left
    · (intro w hSw; (try dsimp only at hSw); go_simp; try with_reducible rfl)
    try simp only [Act.put, List.setIfInBounds_toArray, List.set_cons_zero, List.set_cons_succ]
    refine wpAnyH_take (i := 5) (oi := { dst := some 21, op := Op.fieldAddr 29 (Operand.tmp 2) 3, type := 0, pos := "role.go:121", after := #[{ on := 4, ground := Ground.guard }], guard := some (4, true) }) (v := ?_) rfl (by kernel_rfl) (by kernel_rfl) (by kernel_rfl) (fun _ _ _ h => h) (Or.inl ⟨by rfl, ?_⟩) (by assumption) ?_
    rotate_left
    · (intro w hSw; (try dsimp only at hSw); go_simp; try with_reducible rfl)
    try simp only [Act.put, List.setIfInBounds_toArray, List.set_cons_zero, List.set_cons_succ]
    refine wpAnyH_take (i := 6) (oi := { dst := some 22, op := Op.load 4 (Operand.tmp 21), type := 4, pos := "role.go:121", after := #[{ on := 5, ground := Ground.data }, { on := 4, ground := Ground.guard }], guard := some (4, true) }) (v := ?_) rfl (by kernel_rfl) (by kernel_rfl) (by kernel_rfl) (fun _ _ _ h => h) (Or.inl ⟨by rfl, ?_⟩) (by assumption) ?_
    rotate_left
    · (intro w hSw; (try dsimp only at hSw); go_simp; try with_reducible rfl)
    try simp only [Act.put, List.setIfInBounds_toArray, List.set_cons_zero, List.set_cons_succ]
    refine wpAnyH_take (i := 7) (oi := { dst := some 23, op := Op.pick (Operand.tmp 20) (Operand.tmp 22) (Operand.const (Value.bool false)), type := 4, pos := "role.go:121", after := #[{ on := 4, ground := Ground.data }, { on := 6, ground := Ground.data }], guard := none }) (v := ?_) rfl (by kernel_rfl) (by kernel_rfl) (by kernel_rfl) (fun _ _ _ h => h) (Or.inl ⟨by rfl, ?_⟩) (by assumption) ?_
    rotate_left
    · (intro w hSw; (try dsimp only at hSw); go_simp; try with_reducible rfl)
    try simp only [Act.put, List.setIfInBounds_toArray, List.set_cons_zero, List.set_cons_succ]
    refine wpAnyH_take (i := 8) (oi := { dst := some 24, op := Op.move (Operand.tmp 1), type := 3, pos := "role.go:121", after := #[], guard := none }) (v := ?_) rfl (by kernel_rfl) (by kernel_rfl) (by kernel_rfl) (fun _ _ _ h => h) (Or.inl ⟨by rfl, ?_⟩) (by assumption) ?_
    rotate_left
    · (intro w hSw; (try dsimp only at hSw); go_simp; try with_reducible rfl)
    try simp only [Act.put, List.setIfInBounds_toArray, List.set_cons_zero, List.set_cons_succ]
    refine wpAnyH_take (i := 9) (oi := { dst := some 25, op := Op.move (Operand.tmp 6), type := 325, pos := "role.go:121", after := #[], guard := none }) (v := ?_) rfl (by kernel_rfl) (by kernel_rfl) (by kernel_rfl) (fun _ _ _ h => h) (Or.inl ⟨by rfl, ?_⟩) (by assumption) ?_
    rotate_left
    · (intro w hSw; (try dsimp only at hSw); go_simp; try with_reducible rfl)
    try simp only [Act.put, List.setIfInBounds_toArray, List.set_cons_zero, List.set_cons_succ]
    refine wpAnyH_take (i := 10) (oi := { dst := some 26, op := Op.move (Operand.tmp 1), type := 3, pos := "role.go:121", after := #[], guard := none }) (v := ?_) rfl (by kernel_rfl) (by kernel_rfl) (by kernel_rfl) (fun _ _ _ h => h) (Or.inl ⟨by rfl, ?_⟩) (by assumption) ?_
    rotate_left
    · (intro w hSw; (try dsimp only at hSw); go_simp; try with_reducible rfl)
    try simp only [Act.put, List.setIfInBounds_toArray, List.set_cons_zero, List.set_cons_succ]
    refine wpAnyH_take (i := 11) (oi := { dst := some 27, op := Op.binOp BinOp.sub 3 (Operand.tmp 26) (Operand.const (Value.int IntKind.i64 1)) 3, type := 3, pos := "role.go:121", after := #[{ on := 10, ground := Ground.data }], guard := none }) (v := ?_) rfl (by kernel_rfl) (by kernel_rfl) (by kernel_rfl) (fun _ _ _ h => h) (Or.inl ⟨by rfl, ?_⟩) (by assumption) ?_
    rotate_left
    · (intro w hSw; (try dsimp only at hSw); go_simp; try with_reducible rfl)
    try simp only [Act.put, List.setIfInBounds_toArray, List.set_cons_zero, List.set_cons_succ]
    refine wpAnyH_take (i := 13) (oi := { dst := some 29, op := Op.move (Operand.tmp 6), type := 325, pos := "role.go:121", after := #[], guard := none }) (v := ?_) rfl (by kernel_rfl) (by kernel_rfl) (by kernel_rfl) (fun _ _ _ h => h) (Or.inl ⟨by rfl, ?_⟩) (by assumption) ?_
    rotate_left
    · (intro w hSw; (try dsimp only at hSw); go_simp; try with_reducible rfl)
    try simp only [Act.put, List.setIfInBounds_toArray, List.set_cons_zero, List.set_cons_succ]
    refine wpAnyH_take (i := 14) (oi := { dst := some 30, op := Op.move (Operand.tmp 1), type := 3, pos := "role.go:121", after := #[], guard := none }) (v := ?_) rfl (by kernel_rfl) (by kernel_rfl) (by kernel_rfl) (fun _ _ _ h => h) (Or.inl ⟨by rfl, ?_⟩) (by assumption) ?_
    rotate_left
    · (intro w hSw; (try dsimp only at hSw); go_simp; try with_reducible rfl)
    try simp only [Act.put, List.setIfInBounds_toArray, List.set_cons_zero, List.set_cons_succ]
    refine wpAnyH_take (i := 15) (oi := { dst := some 31, op := Op.binOp BinOp.add 3 (Operand.tmp 30) (Operand.const (Value.int IntKind.i64 1)) 3, type := 3, pos := "role.go:121", after := #[{ on := 14, ground := Ground.data }], guard := none }) (v := ?_) rfl (by kernel_rfl) (by kernel_rfl) (by kernel_rfl) (fun _ _ _ h => h) (Or.inl ⟨by rfl, ?_⟩) (by assumption) ?_
    rotate_left
    · (intro w hSw; (try dsimp only at hSw); go_simp; try with_reducible rfl)
    try simp only [Act.put, List.setIfInBounds_toArray, List.set_cons_zero, List.set_cons_succ]
    refine wpAnyH_ready (rs := [12]) (by kernel_rfl) (by simp) ?_
    refine AllReadyH.cons (o := { dst := some 28, op := Op.call { callee := Callee.value (Operand.tmp 25), args := #[Operand.tmp 27], argTypes := #[3] }, type := 3, pos := "role.go:121", after := #[{ on := 9, ground := Ground.data }, { on := 11, ground := Ground.data }, { on := 4, ground := Ground.chain }], guard := none }) rfl (fun K hK => ?_) AllReadyH.nil
    go_simp
    (go_at_call 238; (with_reducible refine (HP1.out _ HKe.out).mono ?_); rintro e w1 ⟨rfl, rfl⟩)
    replace HT := Lib.hid (HTEN.out _ HKe.out)
    first | (with_reducible refine hK.out _ _ ?_ (fun hHeld => ?_)) | (go_wp2_with fail; with_reducible refine hK.out _ _ ?_ (fun hHeld => ?_))
    · (try dsimp only); with_reducible exact HT.out
    clear hK K
    try simp only [Act.put, List.setIfInBounds_toArray, List.set_cons_zero, List.set_cons_succ]
    refine wpAnyH_ready (rs := [16]) (by kernel_rfl) (by simp) ?_
    refine AllReadyH.cons (o := { dst := some 32, op := Op.call { callee := Callee.value (Operand.tmp 29), args := #[Operand.tmp 31], argTypes := #[3] }, type := 3, pos := "role.go:121", after := #[{ on := 13, ground := Ground.data }, { on := 15, ground := Ground.data }, { on := 12, ground := Ground.chain }], guard := none }) rfl (fun K hK => ?_) AllReadyH.nil
    go_simp
    (go_at_call 238; (with_reducible refine (HS2.out _ HKe.out).mono ?_); rintro e w1 ⟨rfl, rfl⟩)
    replace HT := Lib.hid (HTEN.out _ HKe.out)
    first | (with_reducible refine hK.out _ _ ?_ (fun hHeld => ?_)) | (go_wp2_with fail; with_reducible refine hK.out _ _ ?_ (fun hHeld => ?_))
    · (try dsimp only); with_reducible exact HT.out
    clear hK K
    try simp only [Act.put, List.setIfInBounds_toArray, List.set_cons_zero, List.set_cons_succ]
    refine wpAnyH_take (i := 17) (oi := { dst := some 33, op := Op.build 185 #[(0, Operand.const (Value.bool true)), (2, Operand.tmp 17), (3, Operand.tmp 18), (4, Operand.tmp 23), (5, Operand.tmp 24), (6, Operand.tmp 28), (7, Operand.tmp 32)], type := 185, pos := "role.go:121", after := #[{ on := 1, ground := Ground.data }, { on := 2, ground := Ground.data }, { on := 7, ground := Ground.data }, { on := 8, ground := Ground.data }, { on := 12, ground := Ground.data }, { on := 16, ground := Ground.data }], guard := none }) (v := ?_) rfl (by kernel_rfl) (by kernel_rfl) (by kernel_rfl) (fun _ _ _ h => h) (Or.inl ⟨by rfl, ?_⟩) (by assumption) ?_
    rotate_left
    · (intro w hSw; (try dsimp only at hSw); go_simp; try with_reducible rfl)
    try simp only [Act.put, List.setIfInBounds_toArray, List.set_cons_zero, List.set_cons_succ]
    refine wpAnyH_ready (rs := [18]) (by kernel_rfl) (by simp) ?_
    refine AllReadyH.cons (o := { dst := none, op := Op.store 185 (Operand.tmp 4) (Operand.tmp 33), type := 0, pos := "role.go:121", after := #[{ on := 17, ground := Ground.data }, { on := 16, ground := Ground.chain }, { on := 0, ground := Ground.phase }, { on := 1, ground := Ground.phase }, { on := 2, ground := Ground.phase }, { on := 3, ground := Ground.phase }, { on := 4, ground := Ground.phase }, { on := 5, ground := Ground.phase }, { on := 6, ground := Ground.phase }, { on := 7, ground := Ground.phase }, { on := 8, ground := Ground.phase }, { on := 9, ground := Ground.phase }, { on := 10, ground := Ground.phase }, { on := 11, ground := Ground.phase }, { on := 12, ground := Ground.phase }, { on := 13, ground := Ground.phase }, { on := 14, ground := Ground.phase }, { on := 15, ground := Ground.phase }, { on := 16, ground := Ground.phase }, { on := 17, ground := Ground.phase }], guard := none }) rfl (fun K hK => ?_) AllReadyH.nil
    obtain ⟨r0, r1, r2, r3, r4, r5, r6, r7⟩ := cells8 (show V.drew.heap[w.heap.size + 1]? = _ from HRV.out)
    have z1 := frz (show V.drew.heap[w.heap.size + 1]? = _ from HRV.out)
    go_simp
    have hfin := rl_cells ⟨true, false, Z, true, fr, k, P, S⟩ HRV.out
    have hkf := rl_kept ⟨true, false, Z, true, fr, k, P, S⟩ HKV.out (b := w.heap.size + 1) hres
    have hks := rl_keptS (S := (fun k => k = w.heap.size + 1)) ⟨true, false, Z, true, fr, k, P, S⟩ (Kept.refl _ V) (b := w.heap.size + 1) (.inl rfl)
    simp only at hfin hkf hks
    clear r0 r1 r2 r3 r4 r5 r6 r7 z1
    generalize hW : World.setCell _ _ _ = W3 at hfin hkf hks ⊢
    with_reducible refine hK.out _ _ ?_ (fun hHeld => ?_)
    · (try dsimp only); exact cell_of_row _ _ 3 _ _ _ (hks.drew.heap (by show ¬ w.heap.size = w.heap.size + 1; omega) HBV.out)
    clear hK K
    refine wpAnyH_done (by kernel_rfl) ?_ _
    refine NoPanic.normal ?_
    go_wp2
    obtain ⟨r0, r1, r2, r3, r4, r5, r6, r7⟩ := cells8 hfin
    exact bodyPost_ret (v := rlV ⟨true, false, Z, true, fr, k, P, S⟩) (by simp [results, Tryz.results172, go_sem, r0, r1, r2, r3, r4, r5, r6, r7, rlV]) rfl ⟨by rw [HE.out], hkf.drew⟩
end Go.Proofs.YtcbenminaakahaaGreatDoor
namespace Go.Proofs.YtcbenminaakahaaGreatDoor
open Go.RowKit
set_option linter.unusedVariables false
set_option linter.unusedSimpArgs false

set_option maxRecDepth 100000 in
set_option maxHeartbeats 1000000 in
theorem Of19 (v : Value) (c : Cf) (n : Int) (F : Nat → Prop) (w : World) (h : CfR w F v c) : Calls Tryz.prog 114 #[v, .int .i64 n] w (RlE (rlOf c n) w) := by
  have HD : Hid (rlOf c n = if rgtB c = true then (if n ∈ c.ns then insR c (plc c.ns n) else if n ≠ 0 ∧ n = c.jn then joinR c else rl0) else rl0) := Lib.hid rfl
  have HL : Hid (rgtB c = true → c.ns.length ≤ 1000) := Lib.hid (fun h => by have := (rgt_of h).2.2.2.2.1; omega)
  have HR := Lib.hid (fun w' (hk : Kept NoB w w') => Right19 _ c F w' (h.no hk))
  have HT := Lib.hid (fun w' (hk : Kept NoB w w') => Tail19 _ c F w' (h.no hk))
  have HIN := Lib.hid (fun w' (hk : Kept NoB w w') hl k hk2 => inside_any _ c k F w' (h.no hk) hl hk2)
  obtain ⟨u, rfl, hn, h0, htop⟩ := id h
  obtain ⟨a, cap, rfl, hn1, hn2, _⟩ := id hn
  unfold maxLen at hn2
  have HI := Lib.hid (fun w' (hk : Kept NoB w w') => IndexP_any _ c.ns n F w' (hn.kept hk (fun _ _ _ h => h)))
  obtain ⟨W, hW⟩ : ∃ W, W = (w.alloc (.cells #[.int .i64 c.ch, .int .u64 c.ep, .slice a c.ns.length cap, .bool c.fr, .int .i64 c.jn] 29)).alloc (.cells #[.bool false, .bool false, .bool false, .bool false, .bool false, .int .i64 0, .int .i64 0, .int .i64 0] 185) := ⟨_, rfl⟩
  have HB : Hid (W.heap[w.heap.size]? = some (.cells #[.int .i64 c.ch, .int .u64 c.ep, .slice a c.ns.length cap, .bool c.fr, .int .i64 c.jn] 29 (0, 0))) := Lib.hid (by rw [hW]; exact ((Kept.refl NoB _).alloc _).heap (fun h => h) (heap_alloc_new w _))
  have HO : Hid (W.heap[w.heap.size + 1]? = some (.cells #[.bool false, .bool false, .bool false, .bool false, .bool false, .int .i64 0, .int .i64 0, .int .i64 0] 185 (0, 0))) := Lib.hid (by
    have := heap_alloc_new (w.alloc (.cells #[.int .i64 c.ch, .int .u64 c.ep, .slice a c.ns.length cap, .bool c.fr, .int .i64 c.jn] 29)) (.cells #[.bool false, .bool false, .bool false, .bool false, .bool false, .int .i64 0, .int .i64 0, .int .i64 0] 185)
    rw [show (w.alloc (.cells #[.int .i64 c.ch, .int .u64 c.ep, .slice a c.ns.length cap, .bool c.fr, .int .i64 c.jn] 29)).heap.size = w.heap.size + 1 by simp] at this
    rw [hW]; exact this)
  have HK : Hid (Kept NoB w W) := Lib.hid (by rw [hW]; exact ((Kept.refl _ _).alloc _).alloc _)
  have HW := Lib.hid hW
  have HTN : Hid (rgtB c = true → tailN c = lastN c) := Lib.hid (fun h => by unfold tailN; rw [if_pos h])
  have HJ : Hid (joinR c = ⟨false, true, false, false, true, 0, lastN c, 0⟩) := Lib.hid rfl
  have HM : Hid (n ∈ c.ns → plc c.ns n < c.ns.length) := Lib.hid (fun h => plc_lt h)
  have HZ : Hid (rgtB c = true → n = 0 → n ∉ c.ns) := Lib.hid (fun h e => by subst e; exact zero_not h)
  obtain ⟨r, hr⟩ : ∃ r, r = rgtB c := ⟨_, rfl⟩
  rw [← hr] at HR HD HL HTN HZ
  obtain ⟨R, hR⟩ : ∃ R, R = rlOf c n := ⟨_, rfl⟩
  rw [← hR] at HD ⊢
  clear h hn hr hR hW h0 htop
  go_enter Tryz.func114, Tryz.ntmps114
  go_wp2_with fail
  rw [← HW.out]
  refine (HR.out _ HK.out).mono ?_
  rintro e w1 ⟨rfl, hk⟩
  have HK1 := Lib.hid (HK.out.trans hk (fun _ _ h => h))
  have HB1 := Lib.hid (hk.heap (fun h => h) HB.out)
  have HO1 := Lib.hid (hk.heap (fun h => h) HO.out)
  obtain ⟨c0, c1, c2, c3, c4⟩ := cells5 HB1.out
  obtain ⟨r0, r1, r2, r3, r4, r5, r6, r7⟩ := cells8 HO1.out
  have z1 := frz HO1.out
  clear hk
  cases r with
  | false =>
    have HE : Hid (R = rl0) := Lib.hid (by rw [HD.out]; rfl)
    go_wp2
    have hfin := rl_cells rl0 HO1.out
    have hkf := rl_kept rl0 HK1.out (b := w.heap.size + 1) (by omega)
    unfold rl0 at hfin hkf
    simp only at hfin hkf
    clear r0 r1 r2 r3 r4 r5 r6 r7 z1 c0 c1 c2 c3 c4
    generalize hW : World.setCell _ _ _ = W3 at hfin hkf ⊢
    obtain ⟨r0, r1, r2, r3, r4, r5, r6, r7⟩ := cells8 hfin
    exact bodyPost_ret (v := rlV rl0) (by simp [results, Tryz.results114, go_sem, r0, r1, r2, r3, r4, r5, r6, r7, rlV, rl0]) rfl ⟨by rw [HE.out], hkf⟩
  | true =>
    go_wp2_with fail
    refine (HI.out _ HK1.out).mono ?_
    rintro e w2 ⟨rfl, rfl⟩
    by_cases hm : n ∈ c.ns
    · have hpl := HM.out hm
      have HE : Hid (R = insR c (plc c.ns n)) := Lib.hid (by rw [HD.out, if_pos (by trivial), if_pos hm])
      rw [if_pos hm]
      obtain ⟨k, hk⟩ : ∃ k, k = plc c.ns n := ⟨_, rfl⟩
      rw [← hk] at hpl HE ⊢
      have hk0 : (0 : Int) ≤ (k : Int) := by omega
      clear hk hm
      go_wp2_with fail
      refine (HIN.out _ HK1.out (HL.out (by trivial)) k hpl).mono ?_
      rintro e w2 ⟨rfl, hk2⟩
      have HK2 := Lib.hid (HK1.out.trans hk2 (fun _ _ h => h))
      have HO2 := Lib.hid (hk2.heap (fun h => h) HO1.out)
      clear r0 r1 r2 r3 r4 r5 r6 r7 z1 c0 c1 c2 c3 c4 hk2
      obtain ⟨r0, r1, r2, r3, r4, r5, r6, r7⟩ := cells8 HO2.out
      have z1 := frz HO2.out
      obtain ⟨y, hy⟩ : ∃ y, y = insR c k := ⟨_, rfl⟩
      rw [← hy] at HE ⊢
      clear hy
      obtain ⟨y0, y1, y2, y3, y4, y5, y6, y7⟩ := y
      unfold rlV
      simp only
      go_wp2
      have hfin := rl_cells ⟨y0, y1, y2, y3, y4, y5, y6, y7⟩ HO2.out
      have hkf := rl_kept ⟨y0, y1, y2, y3, y4, y5, y6, y7⟩ HK2.out (b := w.heap.size + 1) (by omega)
      simp only at hfin hkf
      clear r0 r1 r2 r3 r4 r5 r6 r7 z1
      generalize hW : World.setCell _ _ _ = W3 at hfin hkf ⊢
      obtain ⟨r0, r1, r2, r3, r4, r5, r6, r7⟩ := cells8 hfin
      exact bodyPost_ret (v := rlV ⟨y0, y1, y2, y3, y4, y5, y6, y7⟩) (by simp [results, Tryz.results114, go_sem, r0, r1, r2, r3, r4, r5, r6, r7, rlV]) rfl ⟨by rw [HE.out], hkf⟩
    · rw [if_neg hm]
      by_cases hz : n = 0
      · have HE : Hid (R = rl0) := Lib.hid (by rw [HD.out, if_pos (by trivial), if_neg hm, if_neg (by intro h; exact h.1 hz)])
        subst hz
        clear hm
        go_wp2
        have hfin := rl_cells rl0 HO1.out
        have hkf := rl_kept rl0 HK1.out (b := w.heap.size + 1) (by omega)
        unfold rl0 at hfin hkf
        simp only at hfin hkf
        clear r0 r1 r2 r3 r4 r5 r6 r7 z1 c0 c1 c2 c3 c4
        generalize hW : World.setCell _ _ _ = W3 at hfin hkf ⊢
        obtain ⟨r0, r1, r2, r3, r4, r5, r6, r7⟩ := cells8 hfin
        exact bodyPost_ret (v := rlV rl0) (by simp [results, Tryz.results114, go_sem, r0, r1, r2, r3, r4, r5, r6, r7, rlV, rl0]) rfl ⟨by rw [HE.out], hkf⟩
      · have hz1 : (n == 0) = false := beq_eq_false_iff_ne.2 hz
        have hz2 : (n != 0) = true := by simpa using hz
        by_cases hj : n = c.jn
        · have HE : Hid (R = ⟨false, true, false, false, true, 0, lastN c, 0⟩) := Lib.hid (by rw [HD.out, if_pos (by trivial), if_neg hm, if_pos ⟨hz, hj⟩, HJ.out])
          have hj1 : (n == c.jn) = true := by simpa using hj
          have HTN1 := Lib.hid (HTN.out (by trivial))
          have HTA := Lib.hid (HT.out w1 HK1.out)
          rw [HTN1.out] at HTA
          obtain ⟨q, hq⟩ : ∃ q, q = lastN c := ⟨_, rfl⟩
          rw [← hq] at HTA HE
          clear hm hz hj hq HTN1
          go_wp2_with fail
          refine HTA.out.mono ?_
          rintro e w2 ⟨rfl, hk2⟩
          have HK2 := Lib.hid (HK1.out.trans hk2 (fun _ _ h => h))
          have HO2 := Lib.hid (hk2.heap (fun h => h) HO1.out)
          clear r0 r1 r2 r3 r4 r5 r6 r7 z1 c0 c1 c2 c3 c4 hk2
          obtain ⟨r0, r1, r2, r3, r4, r5, r6, r7⟩ := cells8 HO2.out
          have z1 := frz HO2.out
          go_wp2
          have hfin := rl_cells ⟨false, true, false, false, true, 0, q, 0⟩ HO2.out
          have hkf := rl_kept ⟨false, true, false, false, true, 0, q, 0⟩ HK2.out (b := w.heap.size + 1) (by omega)
          simp only at hfin hkf
          clear r0 r1 r2 r3 r4 r5 r6 r7 z1
          generalize hW : World.setCell _ _ _ = W3 at hfin hkf ⊢
          obtain ⟨r0, r1, r2, r3, r4, r5, r6, r7⟩ := cells8 hfin
          exact bodyPost_ret (v := rlV ⟨false, true, false, false, true, 0, q, 0⟩) (by simp [results, Tryz.results114, go_sem, r0, r1, r2, r3, r4, r5, r6, r7, rlV]) rfl ⟨by rw [HE.out], hkf⟩
        · have HE : Hid (R = rl0) := Lib.hid (by rw [HD.out, if_pos (by trivial), if_neg hm, if_neg (by intro h; exact hj h.2)])
          have hj1 : (n == c.jn) = false := beq_eq_false_iff_ne.2 hj
          clear hm hz hj
          go_wp2
          have hfin := rl_cells rl0 HO1.out
          have hkf := rl_kept rl0 HK1.out (b := w.heap.size + 1) (by omega)
          unfold rl0 at hfin hkf
          simp only at hfin hkf
          clear r0 r1 r2 r3 r4 r5 r6 r7 z1 c0 c1 c2 c3 c4
          generalize hW : World.setCell _ _ _ = W3 at hfin hkf ⊢
          obtain ⟨r0, r1, r2, r3, r4, r5, r6, r7⟩ := cells8 hfin
          exact bodyPost_ret (v := rlV rl0) (by simp [results, Tryz.results114, go_sem, r0, r1, r2, r3, r4, r5, r6, r7, rlV, rl0]) rfl ⟨by rw [HE.out], hkf⟩
end Go.Proofs.YtcbenminaakahaaGreatDoor
namespace Go.Proofs.YtcbenminaakahaaGreatDoor
open Go.RowKit
set_option linter.unusedVariables false
set_option linter.unusedSimpArgs false

theorem bset_o19 {w : World} {g k : Nat} {o : Obj} (h : w.heap[g]? = some o) (i : Nat) (u : Value) (hk : ¬ k = g) : (w.setCell ⟨k, i, none⟩ u).heap[g]? = some o := by simp [World.setCell, Array.getElem?_modify, h, hk]
theorem bset19 {w : World} {g : Nat} {cs : Array Value} {t : TypeId} {fr : Nat × Nat} (h : w.heap[g]? = some (.cells cs t fr)) (i : Nat) (u : Value) : (w.setCell ⟨g, i, none⟩ u).heap[g]? = some (.cells (cs.setIfInBounds i u) t fr) := by simp [World.setCell, Array.getElem?_modify, h]
theorem balloc19 {w : World} {g : Nat} {o : Obj} (h : w.heap[g]? = some o) (x : Obj) : (w.alloc x).heap[g]? = some o := (heap_alloc_old w x (heap_lt h)).trans h
theorem rl_two {w : World} {b : Nat} {t : TypeId} {x0 x1 x2 x3 x4 x5 x6 x7 y z : Value} (h : w.heap[b]? = some (.cells #[x0, x1, x2, x3, x4, x5, x6, x7] t (0, 0))) :
    ((w.setCell ⟨b, 6, none⟩ y).setCell ⟨b, 7, none⟩ z).heap[b]? = some (.cells #[x0, x1, x2, x3, x4, x5, y, z] t (0, 0)) := by
  simp [World.setCell, Array.getElem?_modify, h]
set_option maxRecDepth 100000 in
set_option maxHeartbeats 2000000 in
theorem ROf19 (v : Value) (c : Cf) (n : Int) (F : Nat → Prop) (w : World) (h : CfR w F v c) : Calls Tryz.prog 179 #[v, .int .i64 n] w (RlE (rlOf c n) w) := by
  have HD : Hid (rlOf c n = if rgtB c = true then (if n ∈ c.ns then insR c (plc c.ns n) else if n ≠ 0 ∧ n = c.jn then joinR c else rl0) else rl0) := Lib.hid rfl
  have HL : Hid (rgtB c = true → 1 ≤ c.ns.length ∧ c.ns.length ≤ 5) := Lib.hid (fun h => by have := (rgt_of h).2.2.2; exact ⟨this.1, this.2.1⟩)
  have HR := Lib.hid (fun w' (hk : Kept NoB w w') => RRight19 _ c F w' (h.no hk))
  obtain ⟨u, rfl, hn, h0, htop⟩ := id h
  obtain ⟨a, cap, rfl, hn1, hn2, _⟩ := id hn
  unfold maxLen at hn2
  have HN := Lib.hid (fun w' (hk : Kept NoB w w') => hn.kept hk (fun _ _ _ h => h))
  obtain ⟨W, hW⟩ : ∃ W, W = (w.alloc (.cells #[.int .i64 c.ch, .int .u64 c.ep, .slice a c.ns.length cap, .bool c.fr, .int .i64 c.jn] 29)).alloc (.cells #[.bool false, .bool false, .bool false, .bool false, .bool false, .int .i64 0, .int .i64 0, .int .i64 0] 258) := ⟨_, rfl⟩
  have HB : Hid (W.heap[w.heap.size]? = some (.cells #[.int .i64 c.ch, .int .u64 c.ep, .slice a c.ns.length cap, .bool c.fr, .int .i64 c.jn] 29 (0, 0))) := Lib.hid (by rw [hW]; exact ((Kept.refl NoB _).alloc _).heap (fun h => h) (heap_alloc_new w _))
  have HO : Hid (W.heap[w.heap.size + 1]? = some (.cells #[.bool false, .bool false, .bool false, .bool false, .bool false, .int .i64 0, .int .i64 0, .int .i64 0] 258 (0, 0))) := Lib.hid (by
    have := heap_alloc_new (w.alloc (.cells #[.int .i64 c.ch, .int .u64 c.ep, .slice a c.ns.length cap, .bool c.fr, .int .i64 c.jn] 29)) (.cells #[.bool false, .bool false, .bool false, .bool false, .bool false, .int .i64 0, .int .i64 0, .int .i64 0] 258)
    rw [show (w.alloc (.cells #[.int .i64 c.ch, .int .u64 c.ep, .slice a c.ns.length cap, .bool c.fr, .int .i64 c.jn] 29)).heap.size = w.heap.size + 1 by simp] at this
    rw [hW]; exact this)
  have HK : Hid (Kept NoB w W) := Lib.hid (by rw [hW]; exact ((Kept.refl _ _).alloc _).alloc _)
  have HW := Lib.hid hW
  have HJN : Hid (rgtB c = true → c.jn ≠ 0 → c.jn ∉ c.ns) := Lib.hid (fun h h0 => (jn_not h h0).1)
  have HZ : Hid (rgtB c = true → n = 0 → n ∉ c.ns) := Lib.hid (fun h e => by subst e; exact zero_not h)
  have HP : Hid (∀ k, k < c.ns.length → c.ns.getD k 0 = n → n ∉ c.ns.take k → n ∈ c.ns ∧ plc c.ns n = k) := Lib.hid (fun k hk he hno => ⟨by rw [← he, getD_at hk]; exact List.getElem_mem _, plc_of hk he hno⟩)
  have HIR : Hid (∀ k, insR c k = ⟨true, false, decide (k = 0), decide (k + 1 = c.ns.length), decide (k + 1 = c.ns.length) && c.fr, k, predN c k, succN c k⟩) := Lib.hid (fun _ => rfl)
  have HPR : Hid (∀ k, predN c k = if k = 0 then 0 else c.ns.getD (k - 1) 0) := Lib.hid (fun _ => rfl)
  have HSU : Hid (∀ k, succN c k = if k + 1 = c.ns.length then c.jn else c.ns.getD (k + 1) 0) := Lib.hid (fun _ => rfl)
  have HJ : Hid (joinR c = ⟨false, true, false, false, true, 0, c.ns.getD (c.ns.length - 1) 0, 0⟩) := Lib.hid rfl
  have HTK : Hid (∀ k, k < c.ns.length → c.ns.take (k + 1) = c.ns.take k ++ [c.ns.getD k 0]) := Lib.hid (fun k hk => take_one hk)
  obtain ⟨r, hr⟩ : ∃ r, r = rgtB c := ⟨_, rfl⟩
  rw [← hr] at HR HD HL HJN HZ
  obtain ⟨R, hR⟩ : ∃ R, R = rlOf c n := ⟨_, rfl⟩
  rw [← hR] at HD ⊢
  clear h hn hr hR hW h0 htop
  go_enter Tryz.func179, Tryz.ntmps179
  go_wp2_with fail
  rw [← HW.out]
  refine (HR.out _ HK.out).mono ?_
  rintro e w1 ⟨rfl, hk⟩
  have HK1 := Lib.hid (HK.out.trans hk (fun _ _ h => h))
  have HB1 := Lib.hid (hk.heap (fun h => h) HB.out)
  have HO1 := Lib.hid (hk.heap (fun h => h) HO.out)
  obtain ⟨c0, c1, c2, c3, c4⟩ := cells5 HB1.out
  obtain ⟨r0, r1, r2, r3, r4, r5, r6, r7⟩ := cells8 HO1.out
  have z1 := frz HO1.out
  clear hk
  by_cases hrz : r = false ∨ n = 0
  · have HE : Hid (R = rl0) := Lib.hid (by
      rw [HD.out]
      rcases hrz with rfl | hz
      · rfl
      · cases r with
        | false => rfl
        | true => rw [if_pos (by trivial), if_neg (HZ.out (by trivial) hz), if_neg (fun h => h.1 hz)])
    cases r with
    | false =>
      clear hrz
      go_wp2
      have hfin := rl_cells rl0 HO1.out
      have hkf := rl_kept rl0 HK1.out (b := w.heap.size + 1) (by omega)
      unfold rl0 at hfin hkf
      simp only at hfin hkf
      clear r0 r1 r2 r3 r4 r5 r6 r7 z1 c0 c1 c2 c3 c4
      generalize hW : World.setCell _ _ _ = W3 at hfin hkf ⊢
      obtain ⟨r0, r1, r2, r3, r4, r5, r6, r7⟩ := cells8 hfin
      exact bodyPost_ret (v := rlV rl0) (by simp [results, Tryz.results179, go_sem, r0, r1, r2, r3, r4, r5, r6, r7, rlV, rl0]) rfl ⟨by rw [HE.out], hkf⟩
    | true =>
      obtain rfl : n = 0 := by rcases hrz with h | h; cases h; exact h
      clear hrz
      go_wp2
      have hfin := rl_cells rl0 HO1.out
      have hkf := rl_kept rl0 HK1.out (b := w.heap.size + 1) (by omega)
      unfold rl0 at hfin hkf
      simp only at hfin hkf
      clear r0 r1 r2 r3 r4 r5 r6 r7 z1 c0 c1 c2 c3 c4
      generalize hW : World.setCell _ _ _ = W3 at hfin hkf ⊢
      obtain ⟨r0, r1, r2, r3, r4, r5, r6, r7⟩ := cells8 hfin
      exact bodyPost_ret (v := rlV rl0) (by simp [results, Tryz.results179, go_sem, r0, r1, r2, r3, r4, r5, r6, r7, rlV, rl0]) rfl ⟨by rw [HE.out], hkf⟩
  · obtain ⟨hr1, hz⟩ : r = true ∧ n ≠ 0 := by
      refine ⟨?_, fun h => hrz (.inr h)⟩
      cases r with
      | false => exact absurd (.inl rfl) hrz
      | true => rfl
    subst hr1
    clear hrz
    have hz1 : (n == 0) = false := beq_eq_false_iff_ne.2 hz
    have hz2 : (n != 0) = true := by simpa using hz
    obtain ⟨hl1, hl5⟩ := HL.out (by trivial)
    obtain ⟨m, hm⟩ : ∃ m, m = c.ns.length - 1 := ⟨_, rfl⟩
    have hmi : (c.ns.length : Int) - 1 = (m : Int) := by omega
    have hm1 : (m : Int) < (c.ns.length : Int) := by omega
    have hm2 : m < c.ns.length := by omega
    have hml : m + 1 = c.ns.length := by omega
    have hm0 : (0 : Int) ≤ (m : Int) := by omega
    have hm5 : (m : Int) ≤ 5 := by omega
    have HMM : Hid (m = c.ns.length - 1 ∧ m + 1 = c.ns.length ∧ 1 ≤ c.ns.length ∧ c.ns.length ≤ 5) := Lib.hid ⟨hm, hml, hl1, hl5⟩
    rw [← hm] at HJ
    by_cases hj : n = c.jn
    · have HE : Hid (R = ⟨false, true, false, false, true, 0, c.ns.getD m 0, 0⟩) := Lib.hid (by rw [HD.out, if_pos (by trivial), if_neg (by rw [hj]; exact HJN.out (by trivial) (by rw [← hj]; exact hz)), if_pos ⟨hz, hj⟩, HJ.out])
      obtain ⟨b, o, rfl, _, _, hc⟩ := (HN.out _ HK1.out).at_ (j := m) hm2
      obtain ⟨q, hq⟩ : ∃ q, q = c.ns.getD m 0 := ⟨_, rfl⟩
      rw [← hq] at hc HE
      subst hj
      clear hm hq hml hl1 hl5 hm2 HJN HZ HP
      go_wp2
      have hfin := rl_cells ⟨false, true, false, false, true, 0, q, 0⟩ HO1.out
      have hkf := rl_kept ⟨false, true, false, false, true, 0, q, 0⟩ HK1.out (b := w.heap.size + 1) (by omega)
      simp only at hfin hkf
      clear r0 r1 r2 r3 r4 r5 r6 r7 z1 hc
      generalize hW : World.setCell _ _ _ = W3 at hfin hkf ⊢
      obtain ⟨r0, r1, r2, r3, r4, r5, r6, r7⟩ := cells8 hfin
      exact bodyPost_ret (v := rlV ⟨false, true, false, false, true, 0, q, 0⟩) (by simp [results, Tryz.results179, go_sem, r0, r1, r2, r3, r4, r5, r6, r7, rlV]) rfl ⟨by rw [HE.out], hkf⟩
    · have hj1 : (c.jn == n) = false := beq_eq_false_iff_ne.2 (fun e => hj e.symm)
      have HJ0 := Lib.hid hj
      clear hj hm hml hl1 hl5 hm2
      go_wp2_with fail
      go_loop [6] (fun i => ∃ k : Nat, i = .int .i64 k ∧ k ≤ m + 1 ∧ n ∉ c.ns.take k) (fun i => m + 1 - (intOf i).toNat)
      case atStart => exact ⟨0, rfl, Nat.zero_le _, by simp⟩
      case round =>
        obtain ⟨k, rfl, hk, hno⟩ := hrel
        have HNO := Lib.hid hno
        clear hno
        by_cases hlt : k < m + 1
        · have hk2 : k < c.ns.length := by have := HMM.out; omega
          have hkm : (k : Int) ≤ (m : Int) := by omega
          have hk1 : (k : Int) < (c.ns.length : Int) := by omega
          have hk0 : (0 : Int) ≤ (k : Int) := by omega
          have hns := HN.out _ HK1.out
          obtain ⟨b, o, rfl, _, hbl, hc⟩ := hns.at_ (j := k) hk2
          have HT := Lib.hid (HTK.out k hk2)
          have HPK := Lib.hid (HP.out k hk2)
          obtain ⟨y, hy⟩ : ∃ y, y = c.ns.getD k 0 := ⟨_, rfl⟩
          rw [← hy] at hc HT HPK
          clear hy
          by_cases he : y = n
          · subst he
            have HPL := Lib.hid (HPK.out rfl HNO.out)
            have HE : Hid (R = insR c k) := Lib.hid (by rw [HD.out, if_pos (by trivial), if_pos HPL.out.1, HPL.out.2])
            rw [HIR.out, HPR.out, HSU.out] at HE
            -- HIT
            have hne : ¬ w.heap.size + 1 = w1.heap.size := by have := heap_lt HO1.out; omega
            have hne2 : ¬ w1.heap.size = w.heap.size + 1 := fun h => hne h.symm
            have hne3 : ¬ w.heap.size = w1.heap.size := by have := heap_lt HB1.out; omega
            have hne4 : ¬ w1.heap.size = w.heap.size := fun h => hne3 h.symm
            have hnebb : ¬ b = w1.heap.size := by omega
            have hneb : ¬ w1.heap.size = b := by omega
            have hgt0 : ¬ (k : Int) < 0 := by omega
            by_cases h0 : k = 0
            · by_cases hL : k = m
              · have hh0 : (k = 0) = True := eq_true h0
                have hhL : (k + 1 = c.ns.length) = True := eq_true (by have := HMM.out; omega)
                have hz0 : ((k : Int) == 0) = true := by rw [beq_iff_eq]; omega
                have hzp : ¬ (0 : Int) < (k : Int) := by omega
                have hzd : decide ((0 : Int) < (k : Int)) = false := decide_eq_false hzp
                have hLL : ((k : Int) == (m : Int)) = true := by rw [beq_iff_eq]; omega
                have hLt : ¬ (k : Int) < (m : Int) := by omega
                have hLd : decide ((k : Int) < (m : Int)) = false := decide_eq_false hLt
                have HF : Hid (R = ⟨true, false, true, true, c.fr, k, 0, c.jn⟩) := Lib.hid (by rw [HE.out]; simp [hh0, hhL])
                clear hL hh0 hhL HE h0
                have hcA := cell_alloc hc (.cells #[.bool true, .bool false, .bool true, .bool true, .bool c.fr, .int .i64 k, .int .i64 0, .int .i64 0] 258 (0, 0))
                have c2A := cell_alloc c2 (.cells #[.bool true, .bool false, .bool true, .bool true, .bool c.fr, .int .i64 k, .int .i64 0, .int .i64 0] 258 (0, 0))
                have c3A := cell_alloc c3 (.cells #[.bool true, .bool false, .bool true, .bool true, .bool c.fr, .int .i64 k, .int .i64 0, .int .i64 0] 258 (0, 0))
                have c4A := cell_alloc c4 (.cells #[.bool true, .bool false, .bool true, .bool true, .bool c.fr, .int .i64 k, .int .i64 0, .int .i64 0] 258 (0, 0))
                have hOA : (w1.alloc (.cells #[.bool true, .bool false, .bool true, .bool true, .bool c.fr, .int .i64 k, .int .i64 0, .int .i64 c.jn] 258 (0, 0))).heap[w.heap.size + 1]? = _ := balloc19 HO1.out _
                have KK := ((Kept.refl (fun i => i = w1.heap.size) w1).alloc (.cells #[.bool true, .bool false, .bool true, .bool true, .bool c.fr, .int .i64 k, .int .i64 0, .int .i64 c.jn] 258 (0, 0)))
                have HI := Lib.hid hOA
                have HKK := Lib.hid (HK1.out.alloc (.cells #[.bool true, .bool false, .bool true, .bool true, .bool c.fr, .int .i64 k, .int .i64 0, .int .i64 c.jn] 258 (0, 0)))
                have HNN : Hid ((w1.alloc (.cells #[.bool true, .bool false, .bool true, .bool true, .bool c.fr, .int .i64 k, .int .i64 0, .int .i64 c.jn] 258 (0, 0))).heap[w1.heap.size]? = some (.cells #[.bool true, .bool false, .bool true, .bool true, .bool c.fr, .int .i64 k, .int .i64 0, .int .i64 c.jn] 258 (0, 0))) := Lib.hid (heap_alloc_new w1 (.cells #[.bool true, .bool false, .bool true, .bool true, .bool c.fr, .int .i64 k, .int .i64 0, .int .i64 c.jn] 258 (0, 0)))
                clear hOA
                have HC2 := Lib.hid (show (w1.alloc (.cells #[.bool true, .bool false, .bool true, .bool true, .bool c.fr, .int .i64 k, .int .i64 0, .int .i64 c.jn] 258 (0, 0))).cell? ⟨w.heap.size, 2, none⟩ = _ from KK.cell (p := ⟨w.heap.size, 2, none⟩) hne3 c2)
                go_upto_region 14 with fail
                obtain ⟨W5, hW5⟩ : ∃ W5, W5 = (w1.alloc (.cells #[.bool true, .bool false, .bool true, .bool true, .bool c.fr, .int .i64 k, .int .i64 0, .int .i64 c.jn] 258 (0, 0))) := ⟨_, rfl⟩
                rw [← hW5] at HI HKK HNN HC2 ⊢
                clear hW5 hc c2 c3 c4 c0 c1 hcA c2A c3A c4A r0 r1 r2 r3 r4 r5 r6 r7 z1 HT HPK HJN HZ HP HTK HIR HPR HSU
                obtain ⟨s0, s1, s2, s3, s4, s5, s6, s7⟩ := cells8 HI.out
                obtain ⟨t0, t1, t2, t3, t4, t5, t6, t7⟩ := cells8 HNN.out
                have zA := frz HI.out
                have zB := frz HNN.out
                have c2 := HC2.out
                go_wp2
                have hfin := rl_cells ⟨true, false, true, true, c.fr, k, 0, c.jn⟩ HI.out
                have hkf := rl_kept ⟨true, false, true, true, c.fr, k, 0, c.jn⟩ HKK.out (b := w.heap.size + 1) (by omega)
                simp only at hfin hkf
                clear s0 s1 s2 s3 s4 s5 s6 s7 zA zB c2 t0 t1 t2 t3 t4 t5 t6 t7
                generalize hW : World.setCell _ _ _ = W3 at hfin hkf ⊢
                obtain ⟨r0, r1, r2, r3, r4, r5, r6, r7⟩ := cells8 hfin
                exact bodyPost_ret (v := rlV ⟨true, false, true, true, c.fr, k, 0, c.jn⟩) (by simp [results, Tryz.results179, go_sem, r0, r1, r2, r3, r4, r5, r6, r7, rlV]) rfl ⟨by rw [HF.out], hkf⟩
              · have hh0 : (k = 0) = True := eq_true h0
                have hhL : (k + 1 = c.ns.length) = False := eq_false (by have := HMM.out; omega)
                have hz0 : ((k : Int) == 0) = true := by rw [beq_iff_eq]; omega
                have hzp : ¬ (0 : Int) < (k : Int) := by omega
                have hzd : decide ((0 : Int) < (k : Int)) = false := decide_eq_false hzp
                have hLL : ((k : Int) == (m : Int)) = false := beq_eq_false_iff_ne.2 (by omega)
                have hLt : (k : Int) < (m : Int) := by omega
                have hks1 : (k : Int) + 1 < (c.ns.length : Int) := by have := HMM.out; omega
                obtain ⟨b4, o4, e4, _, _, hcs⟩ := hns.at_ (j := k + 1) (by have := HMM.out; omega)
                injection e4 with e4
                injection e4 with e5 e6
                subst e5 e6
                obtain ⟨q, hq⟩ : ∃ q, q = c.ns.getD (k + 1) 0 := ⟨_, rfl⟩
                rw [← hq] at hcs HE
                clear hq
                have HF : Hid (R = ⟨true, false, true, false, false, k, 0, q⟩) := Lib.hid (by rw [HE.out]; simp [hh0, hhL])
                clear hL hh0 hhL HE h0
                have hcA := cell_alloc hc (.cells #[.bool true, .bool false, .bool true, .bool false, .bool false, .int .i64 k, .int .i64 0, .int .i64 0] 258 (0, 0))
                have c2A := cell_alloc c2 (.cells #[.bool true, .bool false, .bool true, .bool false, .bool false, .int .i64 k, .int .i64 0, .int .i64 0] 258 (0, 0))
                have c3A := cell_alloc c3 (.cells #[.bool true, .bool false, .bool true, .bool false, .bool false, .int .i64 k, .int .i64 0, .int .i64 0] 258 (0, 0))
                have c4A := cell_alloc c4 (.cells #[.bool true, .bool false, .bool true, .bool false, .bool false, .int .i64 k, .int .i64 0, .int .i64 0] 258 (0, 0))
                have hcsA := cell_alloc hcs (.cells #[.bool true, .bool false, .bool true, .bool false, .bool false, .int .i64 k, .int .i64 0, .int .i64 0] 258 (0, 0))
                have hOA : (w1.alloc (.cells #[.bool true, .bool false, .bool true, .bool false, .bool false, .int .i64 k, .int .i64 0, .int .i64 c.jn] 258 (0, 0))).heap[w.heap.size + 1]? = _ := balloc19 HO1.out _
                have KK := ((Kept.refl (fun i => i = w1.heap.size) w1).alloc (.cells #[.bool true, .bool false, .bool true, .bool false, .bool false, .int .i64 k, .int .i64 0, .int .i64 c.jn] 258 (0, 0)))
                have HI := Lib.hid hOA
                have HKK := Lib.hid (HK1.out.alloc (.cells #[.bool true, .bool false, .bool true, .bool false, .bool false, .int .i64 k, .int .i64 0, .int .i64 c.jn] 258 (0, 0)))
                have HNN : Hid ((w1.alloc (.cells #[.bool true, .bool false, .bool true, .bool false, .bool false, .int .i64 k, .int .i64 0, .int .i64 c.jn] 258 (0, 0))).heap[w1.heap.size]? = some (.cells #[.bool true, .bool false, .bool true, .bool false, .bool false, .int .i64 k, .int .i64 0, .int .i64 c.jn] 258 (0, 0))) := Lib.hid (heap_alloc_new w1 (.cells #[.bool true, .bool false, .bool true, .bool false, .bool false, .int .i64 k, .int .i64 0, .int .i64 c.jn] 258 (0, 0)))
                clear hOA
                have HC2 := Lib.hid (show (w1.alloc (.cells #[.bool true, .bool false, .bool true, .bool false, .bool false, .int .i64 k, .int .i64 0, .int .i64 c.jn] 258 (0, 0))).cell? ⟨w.heap.size, 2, none⟩ = _ from KK.cell (p := ⟨w.heap.size, 2, none⟩) hne3 c2)
                have HCS := Lib.hid (show (w1.alloc (.cells #[.bool true, .bool false, .bool true, .bool false, .bool false, .int .i64 k, .int .i64 0, .int .i64 c.jn] 258 (0, 0))).cell? ⟨b, o + (k + 1), none⟩ = _ from KK.cell (p := ⟨b, o + (k + 1), none⟩) hnebb hcs)
                go_upto_region 14 with fail
                obtain ⟨W5, hW5⟩ : ∃ W5, W5 = (w1.alloc (.cells #[.bool true, .bool false, .bool true, .bool false, .bool false, .int .i64 k, .int .i64 0, .int .i64 c.jn] 258 (0, 0))) := ⟨_, rfl⟩
                rw [← hW5] at HI HKK HNN HC2 HCS ⊢
                clear hW5 hc c2 c3 c4 c0 c1 hcA c2A c3A c4A r0 r1 r2 r3 r4 r5 r6 r7 z1 HT HPK HJN HZ HP HTK HIR HPR HSU hcs hcsA
                obtain ⟨s0, s1, s2, s3, s4, s5, s6, s7⟩ := cells8 HI.out
                obtain ⟨t0, t1, t2, t3, t4, t5, t6, t7⟩ := cells8 HNN.out
                have zA := frz HI.out
                have zB := frz HNN.out
                have c2 := HC2.out
                have hcs := HCS.out
                go_wp2
                have hfin := rl_cells ⟨true, false, true, false, false, k, 0, q⟩ (bset_o19 HI.out 7 (.int .i64 q) hne2)
                have hkf := rl_kept ⟨true, false, true, false, false, k, 0, q⟩ (HKK.out.setCell (p := ⟨w1.heap.size, 7, none⟩) (.inr HK1.out.size) (.int .i64 q)) (b := w.heap.size + 1) (by omega)
                simp only at hfin hkf
                clear s0 s1 s2 s3 s4 s5 s6 s7 zA zB c2 t0 t1 t2 t3 t4 t5 t6 t7
                generalize hW : World.setCell _ _ _ = W3 at hfin hkf ⊢
                obtain ⟨r0, r1, r2, r3, r4, r5, r6, r7⟩ := cells8 hfin
                exact bodyPost_ret (v := rlV ⟨true, false, true, false, false, k, 0, q⟩) (by simp [results, Tryz.results179, go_sem, r0, r1, r2, r3, r4, r5, r6, r7, rlV]) rfl ⟨by rw [HF.out], hkf⟩
            · by_cases hL : k = m
              · have hh0 : (k = 0) = False := eq_false h0
                have hhL : (k + 1 = c.ns.length) = True := eq_true (by have := HMM.out; omega)
                have hz0 : ((k : Int) == 0) = false := beq_eq_false_iff_ne.2 (by omega)
                have hzp : (0 : Int) < (k : Int) := by omega
                obtain ⟨kp, hkp⟩ : ∃ kp, kp = k - 1 := ⟨_, rfl⟩
                have hkpi : (k : Int) - 1 = (kp : Int) := by omega
                have hkp1 : (kp : Int) < (c.ns.length : Int) := by omega
                have hkp0 : (0 : Int) ≤ (kp : Int) := by omega
                obtain ⟨b2, o2, e2, _, _, hcp⟩ := hns.at_ (j := kp) (by omega)
                injection e2 with e2
                injection e2 with e3 e4
                subst e3 e4
                rw [← hkp] at HE
                obtain ⟨p, hp⟩ : ∃ p, p = c.ns.getD kp 0 := ⟨_, rfl⟩
                rw [← hp] at hcp HE
                clear hkp hp
                have hLL : ((k : Int) == (m : Int)) = true := by rw [beq_iff_eq]; omega
                have hLt : ¬ (k : Int) < (m : Int) := by omega
                have hLd : decide ((k : Int) < (m : Int)) = false := decide_eq_false hLt
                have HF : Hid (R = ⟨true, false, false, true, c.fr, k, p, c.jn⟩) := Lib.hid (by rw [HE.out]; simp [hh0, hhL])
                clear hL hh0 hhL HE h0
                have hcA := cell_alloc hc (.cells #[.bool true, .bool false, .bool false, .bool true, .bool c.fr, .int .i64 k, .int .i64 0, .int .i64 0] 258 (0, 0))
                have c2A := cell_alloc c2 (.cells #[.bool true, .bool false, .bool false, .bool true, .bool c.fr, .int .i64 k, .int .i64 0, .int .i64 0] 258 (0, 0))
                have c3A := cell_alloc c3 (.cells #[.bool true, .bool false, .bool false, .bool true, .bool c.fr, .int .i64 k, .int .i64 0, .int .i64 0] 258 (0, 0))
                have c4A := cell_alloc c4 (.cells #[.bool true, .bool false, .bool false, .bool true, .bool c.fr, .int .i64 k, .int .i64 0, .int .i64 0] 258 (0, 0))
                have c4B := cell_alloc c4 (.cells #[.bool true, .bool false, .bool false, .bool true, .bool c.fr, .int .i64 k, .int .i64 p, .int .i64 0] 258 (0, 0))
                have hcpA := cell_alloc hcp (.cells #[.bool true, .bool false, .bool false, .bool true, .bool c.fr, .int .i64 k, .int .i64 0, .int .i64 0] 258 (0, 0))
                have hOA : (w1.alloc (.cells #[.bool true, .bool false, .bool false, .bool true, .bool c.fr, .int .i64 k, .int .i64 p, .int .i64 c.jn] 258 (0, 0))).heap[w.heap.size + 1]? = _ := balloc19 HO1.out _
                have KK := ((Kept.refl (fun i => i = w1.heap.size) w1).alloc (.cells #[.bool true, .bool false, .bool false, .bool true, .bool c.fr, .int .i64 k, .int .i64 p, .int .i64 c.jn] 258 (0, 0)))
                have HI := Lib.hid hOA
                have HKK := Lib.hid (HK1.out.alloc (.cells #[.bool true, .bool false, .bool false, .bool true, .bool c.fr, .int .i64 k, .int .i64 p, .int .i64 c.jn] 258 (0, 0)))
                have HNN : Hid ((w1.alloc (.cells #[.bool true, .bool false, .bool false, .bool true, .bool c.fr, .int .i64 k, .int .i64 p, .int .i64 c.jn] 258 (0, 0))).heap[w1.heap.size]? = some (.cells #[.bool true, .bool false, .bool false, .bool true, .bool c.fr, .int .i64 k, .int .i64 p, .int .i64 c.jn] 258 (0, 0))) := Lib.hid (heap_alloc_new w1 (.cells #[.bool true, .bool false, .bool false, .bool true, .bool c.fr, .int .i64 k, .int .i64 p, .int .i64 c.jn] 258 (0, 0)))
                clear hOA
                have HC2 := Lib.hid (show (w1.alloc (.cells #[.bool true, .bool false, .bool false, .bool true, .bool c.fr, .int .i64 k, .int .i64 p, .int .i64 c.jn] 258 (0, 0))).cell? ⟨w.heap.size, 2, none⟩ = _ from KK.cell (p := ⟨w.heap.size, 2, none⟩) hne3 c2)
                go_upto_region 14 with fail
                obtain ⟨W5, hW5⟩ : ∃ W5, W5 = (w1.alloc (.cells #[.bool true, .bool false, .bool false, .bool true, .bool c.fr, .int .i64 k, .int .i64 p, .int .i64 c.jn] 258 (0, 0))) := ⟨_, rfl⟩
                rw [← hW5] at HI HKK HNN HC2 ⊢
                clear hW5 hc c2 c3 c4 c0 c1 hcA c2A c3A c4A r0 r1 r2 r3 r4 r5 r6 r7 z1 HT HPK HJN HZ HP HTK HIR HPR HSU hcp hcpA c4B
                obtain ⟨s0, s1, s2, s3, s4, s5, s6, s7⟩ := cells8 HI.out
                obtain ⟨t0, t1, t2, t3, t4, t5, t6, t7⟩ := cells8 HNN.out
                have zA := frz HI.out
                have zB := frz HNN.out
                have c2 := HC2.out
                go_wp2
                have hfin := rl_cells ⟨true, false, false, true, c.fr, k, p, c.jn⟩ HI.out
                have hkf := rl_kept ⟨true, false, false, true, c.fr, k, p, c.jn⟩ HKK.out (b := w.heap.size + 1) (by omega)
                simp only at hfin hkf
                clear s0 s1 s2 s3 s4 s5 s6 s7 zA zB c2 t0 t1 t2 t3 t4 t5 t6 t7
                generalize hW : World.setCell _ _ _ = W3 at hfin hkf ⊢
                obtain ⟨r0, r1, r2, r3, r4, r5, r6, r7⟩ := cells8 hfin
                exact bodyPost_ret (v := rlV ⟨true, false, false, true, c.fr, k, p, c.jn⟩) (by simp [results, Tryz.results179, go_sem, r0, r1, r2, r3, r4, r5, r6, r7, rlV]) rfl ⟨by rw [HF.out], hkf⟩
              · have hh0 : (k = 0) = False := eq_false h0
                have hhL : (k + 1 = c.ns.length) = False := eq_false (by have := HMM.out; omega)
                have hz0 : ((k : Int) == 0) = false := beq_eq_false_iff_ne.2 (by omega)
                have hzp : (0 : Int) < (k : Int) := by omega
                obtain ⟨kp, hkp⟩ : ∃ kp, kp = k - 1 := ⟨_, rfl⟩
                have hkpi : (k : Int) - 1 = (kp : Int) := by omega
                have hkp1 : (kp : Int) < (c.ns.length : Int) := by omega
                have hkp0 : (0 : Int) ≤ (kp : Int) := by omega
                obtain ⟨b2, o2, e2, _, _, hcp⟩ := hns.at_ (j := kp) (by omega)
                injection e2 with e2
                injection e2 with e3 e4
                subst e3 e4
                rw [← hkp] at HE
                obtain ⟨p, hp⟩ : ∃ p, p = c.ns.getD kp 0 := ⟨_, rfl⟩
                rw [← hp] at hcp HE
                clear hkp hp
                have hLL : ((k : Int) == (m : Int)) = false := beq_eq_false_iff_ne.2 (by omega)
                have hLt : (k : Int) < (m : Int) := by omega
                have hks1 : (k : Int) + 1 < (c.ns.length : Int) := by have := HMM.out; omega
                obtain ⟨b4, o4, e4, _, _, hcs⟩ := hns.at_ (j := k + 1) (by have := HMM.out; omega)
                injection e4 with e4
                injection e4 with e5 e6
                subst e5 e6
                obtain ⟨q, hq⟩ : ∃ q, q = c.ns.getD (k + 1) 0 := ⟨_, rfl⟩
                rw [← hq] at hcs HE
                clear hq
                have HF : Hid (R = ⟨true, false, false, false, false, k, p, q⟩) := Lib.hid (by rw [HE.out]; simp [hh0, hhL])
                clear hL hh0 hhL HE h0
                have hcA := cell_alloc hc (.cells #[.bool true, .bool false, .bool false, .bool false, .bool false, .int .i64 k, .int .i64 0, .int .i64 0] 258 (0, 0))
                have c2A := cell_alloc c2 (.cells #[.bool true, .bool false, .bool false, .bool false, .bool false, .int .i64 k, .int .i64 0, .int .i64 0] 258 (0, 0))
                have c3A := cell_alloc c3 (.cells #[.bool true, .bool false, .bool false, .bool false, .bool false, .int .i64 k, .int .i64 0, .int .i64 0] 258 (0, 0))
                have c4A := cell_alloc c4 (.cells #[.bool true, .bool false, .bool false, .bool false, .bool false, .int .i64 k, .int .i64 0, .int .i64 0] 258 (0, 0))
                have c4B := cell_alloc c4 (.cells #[.bool true, .bool false, .bool false, .bool false, .bool false, .int .i64 k, .int .i64 p, .int .i64 0] 258 (0, 0))
                have hcpA := cell_alloc hcp (.cells #[.bool true, .bool false, .bool false, .bool false, .bool false, .int .i64 k, .int .i64 0, .int .i64 0] 258 (0, 0))
                have hcsA := cell_alloc hcs (.cells #[.bool true, .bool false, .bool false, .bool false, .bool false, .int .i64 k, .int .i64 0, .int .i64 0] 258 (0, 0))
                have hOA : (w1.alloc (.cells #[.bool true, .bool false, .bool false, .bool false, .bool false, .int .i64 k, .int .i64 p, .int .i64 c.jn] 258 (0, 0))).heap[w.heap.size + 1]? = _ := balloc19 HO1.out _
                have KK := ((Kept.refl (fun i => i = w1.heap.size) w1).alloc (.cells #[.bool true, .bool false, .bool false, .bool false, .bool false, .int .i64 k, .int .i64 p, .int .i64 c.jn] 258 (0, 0)))
                have HI := Lib.hid hOA
                have HKK := Lib.hid (HK1.out.alloc (.cells #[.bool true, .bool false, .bool false, .bool false, .bool false, .int .i64 k, .int .i64 p, .int .i64 c.jn] 258 (0, 0)))
                have HNN : Hid ((w1.alloc (.cells #[.bool true, .bool false, .bool false, .bool false, .bool false, .int .i64 k, .int .i64 p, .int .i64 c.jn] 258 (0, 0))).heap[w1.heap.size]? = some (.cells #[.bool true, .bool false, .bool false, .bool false, .bool false, .int .i64 k, .int .i64 p, .int .i64 c.jn] 258 (0, 0))) := Lib.hid (heap_alloc_new w1 (.cells #[.bool true, .bool false, .bool false, .bool false, .bool false, .int .i64 k, .int .i64 p, .int .i64 c.jn] 258 (0, 0)))
                clear hOA
                have HC2 := Lib.hid (show (w1.alloc (.cells #[.bool true, .bool false, .bool false, .bool false, .bool false, .int .i64 k, .int .i64 p, .int .i64 c.jn] 258 (0, 0))).cell? ⟨w.heap.size, 2, none⟩ = _ from KK.cell (p := ⟨w.heap.size, 2, none⟩) hne3 c2)
                have HCS := Lib.hid (show (w1.alloc (.cells #[.bool true, .bool false, .bool false, .bool false, .bool false, .int .i64 k, .int .i64 p, .int .i64 c.jn] 258 (0, 0))).cell? ⟨b, o + (k + 1), none⟩ = _ from KK.cell (p := ⟨b, o + (k + 1), none⟩) hnebb hcs)
                go_upto_region 14 with fail
                obtain ⟨W5, hW5⟩ : ∃ W5, W5 = (w1.alloc (.cells #[.bool true, .bool false, .bool false, .bool false, .bool false, .int .i64 k, .int .i64 p, .int .i64 c.jn] 258 (0, 0))) := ⟨_, rfl⟩
                rw [← hW5] at HI HKK HNN HC2 HCS ⊢
                clear hW5 hc c2 c3 c4 c0 c1 hcA c2A c3A c4A r0 r1 r2 r3 r4 r5 r6 r7 z1 HT HPK HJN HZ HP HTK HIR HPR HSU hcp hcpA c4B hcs hcsA
                obtain ⟨s0, s1, s2, s3, s4, s5, s6, s7⟩ := cells8 HI.out
                obtain ⟨t0, t1, t2, t3, t4, t5, t6, t7⟩ := cells8 HNN.out
                have zA := frz HI.out
                have zB := frz HNN.out
                have c2 := HC2.out
                have hcs := HCS.out
                go_wp2
                have hfin := rl_cells ⟨true, false, false, false, false, k, p, q⟩ (bset_o19 HI.out 7 (.int .i64 q) hne2)
                have hkf := rl_kept ⟨true, false, false, false, false, k, p, q⟩ (HKK.out.setCell (p := ⟨w1.heap.size, 7, none⟩) (.inr HK1.out.size) (.int .i64 q)) (b := w.heap.size + 1) (by omega)
                simp only at hfin hkf
                clear s0 s1 s2 s3 s4 s5 s6 s7 zA zB c2 t0 t1 t2 t3 t4 t5 t6 t7
                generalize hW : World.setCell _ _ _ = W3 at hfin hkf ⊢
                obtain ⟨r0, r1, r2, r3, r4, r5, r6, r7⟩ := cells8 hfin
                exact bodyPost_ret (v := rlV ⟨true, false, false, false, false, k, p, q⟩) (by simp [results, Tryz.results179, go_sem, r0, r1, r2, r3, r4, r5, r6, r7, rlV]) rfl ⟨by rw [HF.out], hkf⟩
          · have hb : ((y : Int) == (n : Int)) = false := by simpa using he
            have hb2 : ((y : Int) != (n : Int)) = true := by simpa using he
            have HEN := Lib.hid he
            clear he
            go_wp2
            go_round
            case rel => exact ⟨k + 1, by go_num, by omega, by
              rw [HT.out]
              simp only [List.mem_append, List.mem_singleton, not_or]
              exact ⟨HNO.out, fun h => HEN.out h.symm⟩⟩
            case measure => simp [intOf]; omega
        · obtain rfl : k = m + 1 := by omega
          have HE : Hid (R = rl0) := Lib.hid (by
            have hno := HNO.out
            rw [HMM.out.2.1, List.take_length] at hno
            rw [HD.out, if_pos (by trivial), if_neg hno, if_neg (fun h => HJ0.out h.2)])
          have hgt : decide (((m + 1 : Nat) : Int) ≤ (m : Int)) = false := decide_eq_false (by omega)
          have hgt2 : ¬ ((m : Int) + 1 ≤ (m : Int)) := by omega
          go_wp2
          have hfin := rl_cells rl0 HO1.out
          have hkf := rl_kept rl0 HK1.out (b := w.heap.size + 1) (by omega)
          unfold rl0 at hfin hkf
          simp only at hfin hkf
          clear r0 r1 r2 r3 r4 r5 r6 r7 z1 c0 c1 c2 c3 c4
          generalize hW : World.setCell _ _ _ = W3 at hfin hkf ⊢
          obtain ⟨r0, r1, r2, r3, r4, r5, r6, r7⟩ := cells8 hfin
          exact bodyPost_ret (v := rlV rl0) (by simp [results, Tryz.results179, go_sem, r0, r1, r2, r3, r4, r5, r6, r7, rlV, rl0]) rfl ⟨by rw [HE.out], hkf⟩
end Go.Proofs.YtcbenminaakahaaGreatDoor
namespace Go.Proofs.YtcbenminaakahaaGreatDoor
open Go.RowKit
set_option linter.unusedVariables false

theorem rl_in {c : Cf} (h : rgtB c = true) {k : Nat} (hk : k < c.ns.length) : rlOf c (c.ns.getD k 0) = insR c k := by
  unfold rlOf
  rw [if_pos h, if_pos (by rw [getD_at hk]; exact List.getElem_mem hk), plc_nodup (nsq_of h).2 hk]
theorem rl_join {c : Cf} (h : rgtB c = true) (h0 : c.jn ≠ 0) : rlOf c c.jn = joinR c := by
  unfold rlOf
  rw [if_pos h, if_neg (jn_not h h0).1, if_pos ⟨h0, rfl⟩]
/-- What any number is. -/
theorem rl_cases {c : Cf} (h : rgtB c = true) (n : Int) : (∃ k, k < c.ns.length ∧ n = c.ns.getD k 0 ∧ n ∈ c.ns ∧ rlOf c n = insR c k) ∨ (n ∉ c.ns ∧ n ≠ 0 ∧ n = c.jn ∧ rlOf c n = joinR c) ∨ (n ∉ c.ns ∧ rlOf c n = rl0) := by
  by_cases hm : n ∈ c.ns
  · refine .inl ⟨plc c.ns n, plc_lt hm, (plc_at hm).symm, hm, ?_⟩
    unfold rlOf
    rw [if_pos h, if_pos hm]
  · by_cases hj : n ≠ 0 ∧ n = c.jn
    · refine .inr (.inl ⟨hm, hj.1, hj.2, ?_⟩)
      unfold rlOf
      rw [if_pos h, if_neg hm, if_pos hj]
    · refine .inr (.inr ⟨hm, ?_⟩)
      unfold rlOf
      rw [if_pos h, if_neg hm, if_neg hj]
theorem ns_pos {c : Cf} (h : rgtB c = true) {k : Nat} (hk : k < c.ns.length) : 1 ≤ c.ns.getD k 0 ∧ c.ns.getD k 0 ≤ 24 := by
  rw [getD_at hk]
  exact (nsq_of h).1 _ (List.getElem_mem hk)
theorem len_pos {c : Cf} (h : rgtB c = true) : 1 ≤ c.ns.length ∧ c.ns.length ≤ 5 := ⟨(rgt_of h).2.2.2.1, (rgt_of h).2.2.2.2.1⟩
theorem jn_range {c : Cf} (h : rgtB c = true) : 0 ≤ c.jn ∧ c.jn ≤ 24 := by
  by_cases h0 : c.jn = 0
  · rw [h0]; decide
  · have := jn_not h h0; omega
theorem pred_range {c : Cf} (h : rgtB c = true) {k : Nat} (hk : k < c.ns.length) : 0 ≤ predN c k ∧ predN c k ≤ 24 := by
  unfold predN
  split
  · decide
  · have := ns_pos h (show k - 1 < c.ns.length by omega)
    omega
theorem succ_range {c : Cf} (h : rgtB c = true) {k : Nat} (hk : k < c.ns.length) : 0 ≤ succN c k ∧ succN c k ≤ 24 := by
  unfold succN
  split
  · exact jn_range h
  · have := ns_pos h (show k + 1 < c.ns.length by omega)
    omega
/-- Neighbours are nodes, or 0. -/
theorem near_range (c : Cf) (n : Int) : (0 ≤ (rlOf c n).pred ∧ (rlOf c n).pred ≤ 24) ∧ (0 ≤ (rlOf c n).succ ∧ (rlOf c n).succ ≤ 24) := by
  cases h : rgtB c with
  | false =>
    have : rlOf c n = rl0 := by unfold rlOf; rw [h]; rfl
    rw [this]
    decide
  | true =>
    rcases rl_cases h n with ⟨k, hk, _, _, e⟩ | ⟨_, _, _, e⟩ | ⟨_, e⟩
    · rw [e]
      exact ⟨pred_range h hk, succ_range h hk⟩
    · rw [e]
      have h1 := len_pos h
      have := ns_pos h (show c.ns.length - 1 < c.ns.length by omega)
      refine ⟨?_, (by show (0 : Int) ≤ 0 ∧ (0 : Int) ≤ 24; decide)⟩
      show 0 ≤ lastN c ∧ lastN c ≤ 24
      unfold lastN
      omega
    · rw [e]
      decide
theorem pred_back {c : Cf} (h : rgtB c = true) (n : Int) (hp : (rlOf c n).pred ≠ 0) : (rlOf c (rlOf c n).pred).succ = n := by
  rcases rl_cases h n with ⟨k, hk, hn, _, e⟩ | ⟨_, h0, hj, e⟩ | ⟨_, e⟩
  · rw [e] at hp ⊢
    have hp' : predN c k ≠ 0 := hp
    show (rlOf c (predN c k)).succ = n
    unfold predN at hp' ⊢
    by_cases h0 : k = 0
    · rw [if_pos h0] at hp'; exact absurd rfl hp'
    · rw [if_neg h0, rl_in h (by omega)]
      show succN c (k - 1) = n
      unfold succN
      rw [if_neg (by omega), show k - 1 + 1 = k by omega, hn]
  · rw [e]
    have h1 := len_pos h
    show (rlOf c (lastN c)).succ = n
    unfold lastN
    rw [rl_in h (by omega)]
    show succN c (c.ns.length - 1) = n
    unfold succN
    rw [if_pos (by omega), hj]
  · rw [e] at hp; exact absurd rfl hp
theorem succ_back {c : Cf} (h : rgtB c = true) (n : Int) (hp : (rlOf c n).succ ≠ 0) : (rlOf c (rlOf c n).succ).pred = n := by
  rcases rl_cases h n with ⟨k, hk, hn, _, e⟩ | ⟨_, h0, hj, e⟩ | ⟨_, e⟩
  · rw [e] at hp ⊢
    have hp' : succN c k ≠ 0 := hp
    show (rlOf c (succN c k)).pred = n
    unfold succN at hp' ⊢
    by_cases h0 : k + 1 = c.ns.length
    · rw [if_pos h0] at hp' ⊢
      rw [rl_join h hp']
      show lastN c = n
      unfold lastN
      rw [hn, show c.ns.length - 1 = k by omega]
    · rw [if_neg h0, rl_in h (by omega)]
      show predN c (k + 1) = n
      unfold predN
      rw [if_neg (by omega), show k + 1 - 1 = k by omega, hn]
  · rw [e] at hp; exact absurd rfl hp
  · rw [e] at hp; exact absurd rfl hp
theorem join_in (c : Cf) (n : Int) : ((rlOf c n).joins && (rlOf c n).inn) = false := by
  cases h : rgtB c with
  | false =>
    have : rlOf c n = rl0 := by unfold rlOf; rw [h]; rfl
    rw [this]
    rfl
  | true => rcases rl_cases h n with ⟨k, hk, _, _, e⟩ | ⟨_, _, _, e⟩ | ⟨_, e⟩ <;> rw [e] <;> rfl
theorem head_pred {c : Cf} (h : rgtB c = true) (n : Int) (hi : (rlOf c n).inn = true) : (rlOf c n).head = decide ((rlOf c n).pred = 0) := by
  rcases rl_cases h n with ⟨k, hk, hn, _, e⟩ | ⟨_, h0, hj, e⟩ | ⟨_, e⟩
  · rw [e]
    show decide (k = 0) = decide (predN c k = 0)
    refine decide_eq_decide.2 ?_
    unfold predN
    by_cases h0 : k = 0
    · rw [if_pos h0]; exact ⟨fun _ => rfl, fun _ => h0⟩
    · rw [if_neg h0]
      have := ns_pos h (show k - 1 < c.ns.length by omega)
      omega
  · rw [e] at hi; cases hi
  · rw [e] at hi; cases hi
theorem tail_succ {c : Cf} (h : rgtB c = true) (n : Int) (hi : (rlOf c n).inn = true) : (rlOf c n).tail = decide ((rlOf c n).succ = c.jn) := by
  rcases rl_cases h n with ⟨k, hk, hn, _, e⟩ | ⟨_, h0, hj, e⟩ | ⟨_, e⟩
  · rw [e]
    show decide (k + 1 = c.ns.length) = decide (succN c k = c.jn)
    refine decide_eq_decide.2 ?_
    unfold succN
    by_cases h0 : k + 1 = c.ns.length
    · rw [if_pos h0]; exact ⟨fun _ => rfl, fun _ => h0⟩
    · rw [if_neg h0]
      refine ⟨fun h1 => absurd h1 h0, fun h1 => ?_⟩
      have h2 := ns_pos h (show k + 1 < c.ns.length by omega)
      have h3 := jn_not h (by omega)
      exact absurd (by rw [← h1, getD_at (by omega)]; exact List.getElem_mem _) h3.1
  · rw [e] at hi; cases hi
  · rw [e] at hi; cases hi
/-! ### how many there are -/
/-- Of the numbers up to N those that are nodes. -/
def cntN (l : List Int) (N : Int) : Nat := l.countP (fun x => decide (x ≤ N))
theorem cnt_zero {l : List Int} (h : ∀ x ∈ l, 1 ≤ x) : cntN l 0 = 0 := by
  unfold cntN
  rw [List.countP_eq_zero]
  intro x hx
  have := h x hx
  simp only [decide_eq_true_eq]
  omega
theorem cnt_all {l : List Int} {N : Int} (h : ∀ x ∈ l, x ≤ N) : cntN l N = l.length := by
  unfold cntN
  rw [List.countP_eq_length]
  intro x hx
  simpa using h x hx
theorem cnt_step {l : List Int} (h : l.Nodup) (N : Int) : cntN l (N + 1) = cntN l N + (if N + 1 ∈ l then 1 else 0) := by
  induction l with
  | nil => simp [cntN]
  | cons y l ih =>
    have hd := List.nodup_cons.1 h
    have hi := ih hd.2
    unfold cntN at hi ⊢
    rw [List.countP_cons, List.countP_cons, hi]
    by_cases e : y = N + 1
    · subst e
      have h2 : ¬ N + 1 ≤ N := by omega
      simp [hd.1, h2]
    · have h1 : (N + 1 ∈ y :: l) ↔ N + 1 ∈ l := by
        rw [List.mem_cons]
        exact ⟨fun h => h.elim (fun h => absurd h.symm e) id, .inr⟩
      have h2 : decide (y ≤ N + 1) = decide (y ≤ N) := decide_eq_decide.2 (by omega)
      rw [h2]
      simp only [h1]
      omega
theorem in_iff {c : Cf} (h : rgtB c = true) (n : Int) : (rlOf c n).inn = decide (n ∈ c.ns) := by
  rcases rl_cases h n with ⟨k, hk, hn, hm, e⟩ | ⟨hm, h0, hj, e⟩ | ⟨hm, e⟩
  · rw [e, decide_eq_true hm]; rfl
  · rw [e, decide_eq_false hm]; rfl
  · rw [e, decide_eq_false hm]; rfl
theorem head_iff {c : Cf} (h : rgtB c = true) (n : Int) : (rlOf c n).head = decide (n = c.ns.getD 0 0) := by
  have hl := len_pos h
  rcases rl_cases h n with ⟨k, hk, hn, hm, e⟩ | ⟨hm, h0, hj, e⟩ | ⟨hm, e⟩
  · rw [e]
    show decide (k = 0) = _
    refine decide_eq_decide.2 ⟨fun h0 => by rw [hn, h0], fun h1 => ?_⟩
    exact nodup_place (nsq_of h).2 hk (by omega) (hn ▸ h1)
  · rw [e]
    show false = _
    refine (decide_eq_false fun h1 => hm ?_).symm
    rw [h1, getD_at (by omega)]; exact List.getElem_mem _
  · rw [e]
    show false = _
    refine (decide_eq_false fun h1 => hm ?_).symm
    rw [h1, getD_at (by omega)]; exact List.getElem_mem _
theorem tail_iff {c : Cf} (h : rgtB c = true) (n : Int) : (rlOf c n).tail = decide (n = c.ns.getD (c.ns.length - 1) 0) := by
  have hl := len_pos h
  rcases rl_cases h n with ⟨k, hk, hn, hm, e⟩ | ⟨hm, h0, hj, e⟩ | ⟨hm, e⟩
  · rw [e]
    show decide (k + 1 = c.ns.length) = _
    refine decide_eq_decide.2 ⟨fun h0 => by rw [hn, show c.ns.length - 1 = k by omega], fun h1 => ?_⟩
    have := nodup_place (nsq_of h).2 hk (show c.ns.length - 1 < c.ns.length by omega) (hn ▸ h1)
    omega
  · rw [e]
    show false = _
    refine (decide_eq_false fun h1 => hm ?_).symm
    rw [h1, getD_at (by omega)]; exact List.getElem_mem _
  · rw [e]
    show false = _
    refine (decide_eq_false fun h1 => hm ?_).symm
    rw [h1, getD_at (by omega)]; exact List.getElem_mem _
end Go.Proofs.YtcbenminaakahaaGreatDoor
