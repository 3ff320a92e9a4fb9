/-
  A letter, plainly: its cells, what its slices hold, which parts are right, what is dropped.
-/
import Derived.Test.YtcbenminaakahaaGreatDoorLckC
import Derived.Test.YtcbenminaakahaaGreatDoorAcc1
import Derived.Test.YtcbenminaakahaaGreatDoorCnf2
namespace Go.Proofs.YtcbenminaakahaaGreatDoor
open Go.RowKit
set_option linter.unusedVariables false
set_option linter.unusedSimpArgs false

/-- The twenty-five cells of a letter. -/
structure LV where
  kd : Int
  fr : Int
  to : Int
  ch : Int
  ep : Int
  ba : Int
  nu : Int
  se : Int
  dn : Int
  ve : Int
  sl : Int
  ke : Int
  co : Int
  ck : Int
  cc : Int
  ce : Int
  cn : Int
  gc : Int
  ge : Int
  gn : Value
  gf : Bool
  gj : Int
  vo : Value
  up : Value
  da : Value
def lcs (x : LV) : Array Value := #[.int .i64 x.kd, .int .i64 x.fr, .int .i64 x.to, .int .i64 x.ch, .int .u64 x.ep, .int .u64 x.ba, .int .u64 x.nu, .int .u64 x.se, .int .u64 x.dn, .int .u64 x.ve, .int .i64 x.sl, .int .u32 x.ke, .int .i64 x.co, .int .i64 x.ck, .int .i64 x.cc, .int .u64 x.ce, .int .i64 x.cn, .int .i64 x.gc, .int .u64 x.ge, x.gn, .bool x.gf, .int .i64 x.gj, x.vo, x.up, x.da]
theorem lcs_size (x : LV) : (lcs x).size = 25 := rfl
def lval (x : LV) : Value := .agg (lcs x)
def lv0 : LV := ⟨0, 0, 0, 0, 0, 0, 0, 0, 0, 0, 0, 0, 0, 0, 0, 0, 0, 0, 0, .slice none 0 0, false, 0, .slice none 0 0, .slice none 0 0, .slice none 0 0⟩
/-- What its four slices hold. -/
structure LC where
  ns : List Int
  vs : List Vt
  us : List Up
  ds : List Int


/-- The slices hold that, in blocks of H; the numbers are numbers. -/
structure LtM (w : World) (H : Nat → Prop) (x : LV) (c : LC) : Prop where
  ns : NSl w H x.gn c.ns
  vs : VRd w H x.vo c.vs
  us : UsAt w H x.up c.us
  ds : BSl w H x.da c.ds
  vok : ∀ v ∈ c.vs, VtNm v
  ba0 : 0 ≤ x.ba
  ba1 : x.ba ≤ 18446744073709551615
  ce0 : 0 ≤ x.ce
  ge0 : 0 ≤ x.ge
  ge1 : x.ge ≤ topE
theorem LtM.kept {S H : Nat → Prop} {w w' : World} {x : LV} {c : LC} (h : LtM w H x c) (hk : Kept S w w') (hs : ∀ k, H k → ¬ S k) : LtM w' H x c :=
  ⟨h.ns.kept hk (fun k _ hH => hs k hH), h.vs.kept hk hs, h.us.kept hk hs, h.ds.kept hk hs, h.vok, h.ba0, h.ba1, h.ce0, h.ge0, h.ge1⟩
theorem LtM.no {H : Nat → Prop} {w w' : World} {x : LV} {c : LC} (h : LtM w H x c) (hk : Kept NoB w w') : LtM w' H x c := h.kept hk (fun _ _ h => h)
/-- Its configuration. -/
def lcf (x : LV) (c : LC) : Cf := ⟨x.gc, x.ge, c.ns, x.gf, x.gj⟩
/-- Is a part right? -/
def rgt (i : Nat) (x : LV) (c : LC) : Bool :=
  match i with
  | 0 => balB x.ba
  | 1 => decide (0 ≤ x.ch) && decide (x.ch ≤ 3)
  | 2 => decide (1 ≤ x.ep)
  | 5 => decide (0 ≤ x.sl) && decide (x.sl ≤ 512)
  | 7 => decide (0 ≤ x.sl) && decide (x.sl ≤ 512)
  | 9 => decide (0 ≤ x.co) && decide (x.co ≤ 255)
  | 11 => cmdB x.ck x.cc x.ce x.cn
  | 12 => rgtB (lcf x c)
  | 13 => areVs c.vs
  | 14 => areUs c.us
  | 15 => areReq c.us
  | 16 => decide ((c.ds.length : Int) ≤ 1024)
  | 17 => decide ((c.ds.length : Int) ≤ 2048)
  | _ => true
/-- A letter without a part. -/
def drp (i : Nat) (x : LV) : LV :=
  match i with
  | 0 => { x with ba := 0 }
  | 1 => { x with ch := 0 }
  | 2 => { x with ep := 0 }
  | 3 => { x with se := 0 }
  | 4 => { x with dn := 0 }
  | 5 => { x with sl := 0 }
  | 6 => { x with nu := 0 }
  | 7 => { x with sl := 0 }
  | 8 => { x with ke := 0 }
  | 9 => { x with co := 0 }
  | 10 => { x with ve := 0 }
  | 11 => { x with ck := 0, cc := 0, ce := 0, cn := 0 }
  | 12 => { x with gc := 0, ge := 0, gn := .slice none 0 0, gf := false, gj := 0 }
  | 13 => { x with vo := .slice none 0 0 }
  | 14 => { x with up := .slice none 0 0 }
  | 15 => { x with up := .slice none 0 0 }
  | 16 => { x with da := .slice none 0 0 }
  | 17 => { x with da := .slice none 0 0 }
  | _ => x
/-- The parts of a kind. -/
def prtK (kd : Nat) : List Nat := (List.range 18).filter (fun i => (kpTab.getD kd 0).toNat.testBit i)
/-- A part's law: what its first and its last function do, over blocks of P alone. -/
structure PLaw (i : Nat) (P : Nat → Prop) (w : World) (x : Q4) (f1 f4 : FuncId) (c1 c4 : Array Value) : Prop where
  a : x.a = .func (.func f1) #[] c1
  d : x.d = .func (.func f4) #[] c4
  b : ∃ f2 c2, x.b = .func (.func f2) #[] c2
  c : ∃ f3 c3, x.c = .func (.func f3) #[] c3
  e1 : Enters17 f1
  e4 : Enters17 f4
  right : ∀ (S : Nat → Prop) (w' : World), Kept S w w' → (∀ k, P k → ¬ S k) → ∀ (g : Nat) (y : LV) (c : LC) (H : Nat → Prop), w'.heap[g]? = some (.cells (lcs y) 34 (0, 0)) → LtM w' H y c → c.ns.length ≤ 1000 → Calls Tryz.prog f1 (#[pb g] ++ c1) w' (YesNoK (rgt i y c) w')
  drop : ∀ (S : Nat → Prop) (w' : World), Kept S w w' → (∀ k, P k → ¬ S k) → ∀ (g : Nat) (y : LV), w'.heap[g]? = some (.cells (lcs y) 34 (0, 0)) → Calls Tryz.prog f4 (#[pb g] ++ c4) w' fun e w'' => e = .returned (.tuple #[]) ∧ w''.heap[g]? = some (.cells (lcs (drp i y)) 34 (0, 0)) ∧ Kept (fun k => k = g) w' w''
/-- The value is the part of number i, in blocks from B on that are no row of parts. -/
def PartOk (i B : Nat) (w : World) (x : Q4) : Prop :=
  (∀ u ∈ q4l x, u.oneCell' = true) ∧ ∃ (P : Nat → Prop) (f1 f4 : FuncId) (c1 c4 : Array Value), (∀ k, P k → B ≤ k ∧ ∃ cs t fr, w.heap[k]? = some (.cells cs t fr) ∧ t ≠ 106) ∧ PLaw i P w x f1 f4 c1 c4
theorem PartOk.kept' {i B : Nat} {S : Nat → Prop} {w w' : World} {x : Q4} (h : PartOk i B w x) (hk : Kept S w w') (hs : ∀ k cs t fr, B ≤ k → w.heap[k]? = some (.cells cs t fr) → t ≠ 106 → ¬ S k) : PartOk i B w' x := by
  obtain ⟨h1, P, f1, f4, c1, c4, hP, hl⟩ := h
  have hPS : ∀ k, P k → ¬ S k := fun k hk' => by
    obtain ⟨hb, cs, t, fr, hr, ht⟩ := hP k hk'
    exact hs k cs t fr hb hr ht
  refine ⟨h1, P, f1, f4, c1, c4, fun k hk' => ?_, ⟨hl.a, hl.d, hl.b, hl.c, hl.e1, hl.e4, fun S' w2 hk2 hs2 => ?_, fun S' w2 hk2 hs2 => ?_⟩⟩
  · obtain ⟨hb, cs, t, fr, hr, ht⟩ := hP k hk'
    exact ⟨hb, cs, t, fr, hk.heap (hPS k hk') hr, ht⟩
  · exact hl.right (fun k => S k ∨ S' k) w2 ((hk.mono (fun k _ h => .inl h)).trans (hk2.mono (fun k _ h => .inr h)) (fun _ _ h => h)) (fun k hp h => h.elim (hPS k hp) (hs2 k hp))
  · exact hl.drop (fun k => S k ∨ S' k) w2 ((hk.mono (fun k _ h => .inl h)).trans (hk2.mono (fun k _ h => .inr h)) (fun _ _ h => h)) (fun k hp h => h.elim (hPS k hp) (hs2 k hp))
theorem PartOk.kept {i B : Nat} {S : Nat → Prop} {w w' : World} {x : Q4} (h : PartOk i B w x) (hk : Kept S w w') (hs : ∀ k, B ≤ k → ¬ S k) : PartOk i B w' x := h.kept' hk (fun k _ _ _ hb _ _ => hs k hb)
/-- Each is the part of its number. -/
def PartsOk (ns : List Nat) (B : Nat) (w : World) (ps : List Q4) : Prop := ps.length = ns.length ∧ ∀ j, j < ns.length → PartOk (ns.getD j 0) B w (ps.getD j q40)
theorem PartsOk.kept {ns : List Nat} {S : Nat → Prop} {B : Nat} {w w' : World} {ps : List Q4} (h : PartsOk ns B w ps) (hk : Kept S w w') (hs : ∀ k, B ≤ k → ¬ S k) : PartsOk ns B w' ps := ⟨h.1, fun j hj => (h.2 j hj).kept hk hs⟩
theorem PartsOk.snoc {ns : List Nat} {B : Nat} {w : World} {ps : List Q4} (h : PartsOk ns B w ps) {i : Nat} {x : Q4} (hx : PartOk i B w x) : PartsOk (ns ++ [i]) B w (ps ++ [x]) := by
  refine ⟨by rw [List.length_append, List.length_append, h.1]; rfl, fun j hj => ?_⟩
  rw [List.length_append] at hj
  by_cases e : j < ns.length
  · rw [List.getD_eq_getElem?_getD, List.getD_eq_getElem?_getD, List.getElem?_append_left e, List.getElem?_append_left (by rw [h.1]; exact e)]
    have := h.2 j e
    rw [List.getD_eq_getElem?_getD, List.getD_eq_getElem?_getD] at this
    exact this
  · have hj' : j = ns.length := by simp only [List.length_cons, List.length_nil] at hj; omega
    subst hj'
    have hl := h.1
    simp only [List.getD_eq_getElem?_getD]
    rw [List.getElem?_append_right (Nat.le_refl _), List.getElem?_append_right (by omega)]
    simp [hl]
    exact hx
theorem own_type {B : Nat} {w : World} {v : Value} {ps : List Q4} (h : POw B w v ps) {k : Nat} (hk : v.ownBlock = some k) : ∃ cs fr, w.heap[k]? = some (.cells cs 106 fr) := by
  rcases h.2 with ⟨rfl, _⟩ | ⟨r, cap, cur, rfl, hb, hr, _⟩
  · cases hk
  · injection hk with hk
    subst hk
    exact ⟨_, _, hr⟩
theorem PartOk.grow {i B C : Nat} {w w' : World} {v : Value} {x : Q4} {ps : List Q4} (h : PartOk i B w x) (hrow : POw C w v ps) (hk : Kept (fun i => some i = v.ownBlock) w w') : PartOk i B w' x :=
  h.kept' hk (fun k cs t fr _ hr ht he => by
    obtain ⟨cs', fr', h2⟩ := own_type hrow he.symm
    rw [hr] at h2
    injection h2 with h2
    injection h2 with _ h2 _
    exact ht h2)
theorem PartsOk.grow {ns : List Nat} {B C : Nat} {w w' : World} {v : Value} {qs ps : List Q4} (h : PartsOk ns B w qs) (hrow : POw C w v ps) (hk : Kept (fun i => some i = v.ownBlock) w w') : PartsOk ns B w' qs := ⟨h.1, fun j hj => (h.2 j hj).grow hrow hk⟩
end Go.Proofs.YtcbenminaakahaaGreatDoor
