/-
  Layer 29: a text copied into a row; the writer; the bytes of entries.
-/
import Derived.Test.YtokafgleejcbgaaDoorDirK
import Derived.Test.YtokafgleejcbgaaDoorOutB
import Derived.Laws.CopyOwn
namespace Go.Proofs.YtokafgleejcbgaaDoor
open Go.RowKit
set_option linter.unusedVariables false

def vb29 (x : List UInt8) : List Value := x.map fun b => .int .u8 b.toNat
theorem vb29_len (x : List UInt8) : (vb29 x).length = x.length := by simp [vb29]
theorem run_copy_str29 {P : Program} (w : World) (dT sT ty elem : TypeId) (g dLen dCap : Nat) (s : ByteArray) (x : List UInt8) (hsx : s = ⟨x.toArray⟩) (cur : Array Value) (t : TypeId)
    (hu : P.underlying dT = some (.slice elem)) (hs : (P.info? elem).map (·.size) = some 1) (hg : w.heap[g]? = some (.cells cur t (0, 0))) (hx : x.length ≤ dLen) (hfit : x.length ≤ cur.size) :
    (Builtin.copy_ #[dT, sT] ty #[.slice (some ⟨g, 0, none⟩) dLen dCap, .string s]).run P w = .ok (goInt x.length) (w.setRow g (splice cur.toList 0 (vb29 x)).toArray) := by
  have hst := run_storeCells_at P g 0 t (vb29 x) 0 cur w hg (by rw [vb29_len]; omega) (by intro v hv; simp only [vb29, List.mem_map] at hv; obtain ⟨b, _, rfl⟩ := hv; rfl)
  have hz : s.size = x.length := by subst hsx; show x.toArray.size = _; simp
  have he : List.take x.length (List.map (fun b => Value.int .u8 b.toNat) s.data.toList) = vb29 x := by
    subst hsx
    rw [List.take_of_length_le (by simp)]
    simp [vb29]
  have hm : Nat.min x.length dLen = x.length := Nat.min_eq_left hx
  cases hq : P.info? elem with
  | none => simp [hq] at hs
  | some i =>
    simp only [Nat.add_zero, List.take_zero, List.nil_append, Nat.zero_add] at hst
    simp [Builtin.copy_, run_underlying hu, Builtin.lenOf, Builtin.firstCells, sizeOf, typeInfo, hq, hz, hm, he, hst, splice]
theorem step_copy_str29 {P : Program} {ops : Array Oper} {o : Oper} {a : Act} {w : World} {K : Act → World → Prop} {Q : Exit → Act → World → Prop} {E : Prop} (hgd : o.guard = none) (d s : Operand) (dT sT : TypeId)
    (ho : o.op = .call { callee := .builtin .copy, args := #[d, s], argTypes := #[dT, sT] }) (elem : TypeId) (hu : P.underlying dT = some (.slice elem)) (hsz : (P.info? elem).map (·.size) = some 1)
    (g dLen dCap : Nat) (sx : ByteArray) (x : List UInt8) (hsx : sx = ⟨x.toArray⟩) (hd : a.eval d = .slice (some ⟨g, 0, none⟩) dLen dCap) (hs : a.eval s = .string sx) (cur : Array Value) (t : TypeId) (hg : w.heap[g]? = some (.cells cur t (0, 0))) (hx : x.length ≤ dLen) (hfit : x.length ≤ cur.size)
    (h : ∀ w', Hid (w'.heap[g]? = some (.cells (splice cur.toList 0 (vb29 x)).toArray t (0, 0))) → Hid (Kept (fun k => k = g) w w') → K (a.put o.dst (goInt x.length)) w') :
    if Region.wanted o (yielded ops a.tmps) = true then Oper.wp P o a w K Q else E := by
  have hw : Region.wanted o (yielded ops a.tmps) = true := by simp [Region.wanted, hgd]
  rw [if_pos hw]
  have hrun := run_copy_str29 (P := P) w dT sT o.type elem g dLen dCap sx x hsx cur t hu hsz hg hx hfit
  unfold Oper.wp
  simp [execOp, ho, resolve, invoke, builtin, hd, hs, hrun, Result.andThen]
  exact h _ (show _ = _ from setRow_heap w g _ _ t _ hg) (show Kept _ _ _ from ⟨rfl, rfl, rfl, Nat.le_of_eq (by simp), fun i _ hs => setRow_other w g i _ hs⟩)
theorem put_fits29 (n : Int) (width : Nat) (h1 : 1 ≤ width) (h8 : width ≤ 8) (hn : n.toNat < 256 ^ width) : putErr n width = 0 := by
  unfold putErr
  rw [if_neg (by omega), Int.toNat_natCast, if_pos (Nat.div_eq_of_lt hn)]
/-- A name's eleven bytes. -/
def pad29 (x : List UInt8) : List Int := (x.map fun b => (b.toNat : Int)) ++ List.replicate (11 - x.length) 0
theorem pad29_len (x : List UInt8) (h : x.length ≤ 11) : (pad29 x).length = 11 := by unfold pad29; simp; omega
theorem pad29_isB (x : List UInt8) : IsB (pad29 x) := by
  intro y hy
  unfold pad29 at hy
  rw [List.mem_append, List.mem_map] at hy
  rcases hy with ⟨b, _, rfl⟩ | hy
  · have := b.toNat_lt; omega
  · have := List.eq_of_mem_replicate hy; omega
theorem splice_pad29 (x : List UInt8) (h : x.length ≤ 11) : splice (List.replicate 11 (Value.int .u8 0)) 0 (vb29 x) = (pad29 x).map (Value.int .u8) := by
  unfold splice pad29
  rw [vb29_len, List.take_zero, List.nil_append, Nat.zero_add, List.drop_replicate, List.map_append, List.map_replicate]
  simp [vb29]
/-- The array of a name reads as its eleven bytes. -/
theorem arr29 {w : World} {g : Nat} {t : TypeId} {x : List UInt8} (hg : w.heap[g]? = some (.cells ((pad29 x).map (Value.int .u8)).toArray t (0, 0))) (h : x.length ≤ 11) : BSl w (fun k => k = g) (.slice (some ⟨g, 0, none⟩) 11 11) (pad29 x) := by
  refine ⟨some ⟨g, 0, none⟩, 11, by rw [pad29_len x h], by rw [pad29_len x h]; exact Nat.le_refl _, by decide, (fun h => by cases h), pad29_isB x, fun _ => ⟨g, 0, rfl, rfl, heap_lt hg, fun j hj => ?_⟩⟩
  refine cell_of_row _ _ _ _ _ _ hg |>.trans ?_
  rw [Nat.zero_add]
  simp [List.getD_eq_getElem?_getD, List.getElem?_eq_getElem hj]
/-- The bytes of an entry, of entries. -/
def bytE (p : En) : List Int := be p.1.length 1 ++ pad29 p.1 ++ be p.2.toNat 4
def bytEs (l : List En) : List Int := l.flatMap bytE
theorem bytEs_snoc (l : List En) (p : En) : bytEs (l ++ [p]) = bytEs l ++ bytE p := by unfold bytEs; rw [List.flatMap_append]; simp
theorem bytE_len (p : En) (h : p.1.length ≤ 11) : (bytE p).length = 16 := by unfold bytE; rw [List.length_append, List.length_append, be_len, be_len, pad29_len _ h]
theorem bytEs_len (l : List En) (h : ∀ p ∈ l, p.1.length ≤ 11) : (bytEs l).length = 16 * l.length := by
  induction l with
  | nil => rfl
  | cons p l ih =>
    have h1 := ih (fun q hq => h q (by simp [hq]))
    have h3 := bytE_len p (h p (by simp))
    unfold bytEs at h1 ⊢
    rw [List.flatMap_cons, List.length_append, List.length_cons]
    omega
theorem oneE_zero {p : En} (h : oneE p = 0) : nmOk p.1 ∧ 1 ≤ p.2 ∧ p.2 ≤ 65535 := by
  unfold oneE at h
  by_cases h1 : nmOk p.1
  · rw [if_neg (fun q => q h1)] at h
    by_cases h2 : p.2 < 1 ∨ 65535 < p.2
    · rw [if_pos h2] at h; cases h
    · exact ⟨h1, by omega, by omega⟩
  · rw [if_pos h1] at h; cases h
theorem stepE_zero {prev : List UInt8} {p : En} (h : stepE prev p = 0) : oneE p = 0 ∧ leq29 p.1 prev = false := by
  unfold stepE at h
  by_cases h1 : oneE p ≠ 0
  · rw [if_pos h1] at h; exact absurd h h1
  · rw [if_neg h1] at h
    by_cases h2 : leq29 p.1 prev = true
    · rw [if_pos h2] at h; cases h
    · exact ⟨Decidable.not_not.1 h1, Bool.eq_false_iff.2 h2⟩
theorem goE_zero {l : List En} : ∀ {prev : List UInt8}, goE prev l = 0 → ∀ p ∈ l, oneE p = 0 := by
  induction l with
  | nil => intro prev _ p hp; cases hp
  | cons q l ih =>
    intro prev h p hp
    rw [goE] at h
    by_cases hs : stepE prev q = 0
    · rw [if_pos hs] at h
      rcases List.mem_cons.1 hp with rfl | hp
      · exact (stepE_zero hs).1
      · exact ih h p hp
    · rw [if_neg hs] at h; exact absurd h hs
theorem chkE_zero {l : List En} (h : chkE l = 0) : l.length ≤ 32 ∧ goE [] l = 0 ∧ ∀ p ∈ l, nmOk p.1 ∧ 1 ≤ p.2 ∧ p.2 ≤ 65535 := by
  unfold chkE at h
  by_cases h2 : 32 < l.length
  · rw [if_pos h2] at h; cases h
  · rw [if_neg h2] at h; exact ⟨by omega, h, fun p hp => oneE_zero (goE_zero h p hp)⟩
theorem take_snoc29 {l : List En} {k : Nat} (h : k < l.length) : l.take (k + 1) = l.take k ++ [eth l k] := etake_snoc h
/-- What Put tells. -/
def putE (l : List En) : List Int := if chkE l = 0 then bytEs l else []
def BErr29 (er : Int) (L : List Int) (w : World) (e : Ending) (w' : World) : Prop := ∃ a c, e = .returned (.tuple #[.slice a L.length c, .int .i64 er]) ∧ BSl w' (fun k => w.heap.size ≤ k) (.slice a L.length c) L ∧ Kept NoB w w'
theorem BErr29.mk {er : Int} {w w' : World} {v : Value} {L : List Int} {F : Nat → Prop} (h : BSl w' F v L) (hF : ∀ k, F k → w.heap.size ≤ k) (hk : Kept NoB w w') : BErr29 er L w (.returned (.tuple #[v, .int .i64 er])) w' := by
  obtain ⟨a, c, rfl, h1, h2, h3, h4⟩ := id h
  exact ⟨a, c, rfl, h.mono (fun k _ hk => hF k hk), hk⟩
end Go.Proofs.YtokafgleejcbgaaDoor
