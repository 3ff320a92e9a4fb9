/-
  Plain words for memory, without the program: which blocks stay as they were (Kept), and a slice of bytes that reads as a list (Rd).
-/
import Derived.WalkKit
import Derived.Below
import Derived.Laws.OwnMore
import Derived.Laws.Rows
import Derived.Deep.AppendLies
import Derived.Deep.Draws
import Derived.RegionTactic
import Derived.OwnWalk
namespace Go.Proofs.YtokafgleejcbgaaGreatDoor
open Go.RowKit

/-- All blocks outside S are as they were. -/
structure Kept (S : Nat → Prop) (w w' : World) : Prop where
  os : w'.os = w.os
  tape : w'.tape = w.tape
  output : w'.output = w.output
  size : w.heap.size ≤ w'.heap.size
  block : ∀ k, k < w.heap.size → ¬ S k → w'.heap[k]? = w.heap[k]?

def NoB : Nat → Prop := fun _ => False

theorem Kept.refl (S : Nat → Prop) (w : World) : Kept S w w := ⟨rfl, rfl, rfl, Nat.le_refl _, fun _ _ _ => rfl⟩
theorem Kept.trans {S T : Nat → Prop} {a b c : World} (h : Kept S a b) (k : Kept T b c) (hs : ∀ i, i < a.heap.size → T i → S i) : Kept S a c :=
  ⟨k.os.trans h.os, k.tape.trans h.tape, k.output.trans h.output, Nat.le_trans h.size k.size,
    fun i hi hn => (k.block i (Nat.lt_of_lt_of_le hi h.size) (fun ht => hn (hs i hi ht))).trans (h.block i hi hn)⟩
theorem Kept.mono {S T : Nat → Prop} {a b : World} (h : Kept S a b) (hs : ∀ i, i < a.heap.size → S i → T i) : Kept T a b :=
  ⟨h.os, h.tape, h.output, h.size, fun i hi hn => h.block i hi (fun hx => hn (hs i hi hx))⟩
theorem Kept.drew {S : Nat → Prop} {a w : World} (h : Kept S a w) : Kept S a w.drew := ⟨h.os, h.tape, h.output, h.size, h.block⟩
theorem Kept.drewN {S : Nat → Prop} {a w : World} (h : Kept S a w) (n : Nat) : Kept S a (w.drewN n) := ⟨h.os, h.tape, h.output, h.size, h.block⟩
theorem Kept.alloc {S : Nat → Prop} {a w : World} (h : Kept S a w) (o : Obj) : Kept S a (w.alloc o) :=
  h.trans (T := NoB) ⟨rfl, rfl, rfl, by simp, fun k hk _ => heap_alloc_old w o hk⟩ (fun _ _ hf => hf.elim)
theorem Kept.setCell {S : Nat → Prop} {a w : World} (h : Kept S a w) {p : Addr} (hp : S p.block ∨ a.heap.size ≤ p.block) (u : Value) : Kept S a (w.setCell p u) :=
  h.trans (T := fun k => k = p.block) ⟨rfl, rfl, rfl, by simp [World.setCell], fun k _ hn => Below.heap_setCell _ _ _ _ hn⟩ (fun i hi hf => by
    subst hf
    rcases hp with hp | hp
    · exact hp
    · exact absurd hi (by omega))
theorem Kept.grown {S : Nat → Prop} {a w w' : World} (h : Kept S a w) {row : Option Nat} (hg : w.grownBy w' row) (hr : ∀ k, row = some k → S k ∨ a.heap.size ≤ k) : Kept S a w' :=
  h.trans (T := fun k => some k = row) ⟨hg.os, hg.tape, hg.output, hg.size, fun k hk hn => hg.block k hk hn⟩ (fun i hi hf => by
    rcases hr i hf.symm with hp | hp
    · exact hp
    · exact absurd hi (by omega))
theorem Kept.below {S : Nat → Prop} {a b : World} (h : Kept S a b) {B : Nat} (hB : B ≤ a.heap.size) (hs : ∀ k, k < B → ¬ S k) : Below B a b :=
  ⟨h.os, h.tape, h.output, h.size, fun k hk => h.block k (by omega) (hs k hk)⟩
theorem Kept.ofBelow {a b : World} {B : Nat} (h : Below B a b) : Kept (fun k => B ≤ k) a b :=
  ⟨h.os, h.tape, h.output, h.size, fun k _ hn => h.block k (by omega)⟩
theorem Kept.cell {S : Nat → Prop} {a b : World} (h : Kept S a b) {p : Addr} (hs : ¬ S p.block) {v : Value} (hc : a.cell? p = some v) : b.cell? p = some v :=
  (World.cell?_of_block (h.block p.block (World.block_lt_of_cell? a p hc) hs)).trans hc
theorem Kept.heap {S : Nat → Prop} {a b : World} (h : Kept S a b) {k : Nat} (hs : ¬ S k) {o : Obj} (hc : a.heap[k]? = some o) : b.heap[k]? = some o := by
  refine (h.block k ?_ hs).trans hc
  rcases Nat.lt_or_ge k a.heap.size with hlt | hge
  · exact hlt
  · rw [Array.getElem?_eq_none hge] at hc; cases hc
theorem heap_lt {a : World} {k : Nat} {o : Obj} (hc : a.heap[k]? = some o) : k < a.heap.size := by
  rcases Nat.lt_or_ge k a.heap.size with hlt | hge
  · exact hlt
  · rw [Array.getElem?_eq_none hge] at hc; cases hc

theorem cell_alloc {w : World} {p : Addr} {v : Value} (h : w.cell? p = some v) (o : Obj) : (w.alloc o).cell? p = some v :=
  (World.cell?_of_block (heap_alloc_old w o (World.block_lt_of_cell? w p h))).trans h
theorem frozen_alloc {w : World} {p : Addr} (hp : p.block < w.heap.size) (h : w.frozen? p = false) (o : Obj) : (w.alloc o).frozen? p = false :=
  (World.frozen?_of_block (heap_alloc_old w o hp)).trans h

theorem cell_drew {w : World} {p : Addr} {v : Value} (h : w.cell? p = some v) : w.drew.cell? p = some v := h
theorem frozen_drew {w : World} {p : Addr} (h : w.frozen? p = false) : w.drew.frozen? p = false := h

/-- A row and a block of another element type are not one block. -/
theorem own_ne {w : World} {base e size n g t : Nat} {v : Value} {xs : List Value} {cs : Array Value} {fr : Nat × Nat} (h : w.ownsRow base e size v n xs) (hg : w.heap[g]? = some (.cells cs t fr)) (hne : e ≠ t) : some g ≠ v.ownBlock := by
  intro he
  rcases h.2 with ⟨rfl, _⟩ | ⟨r, cap, cur, rfl, _, hh, _⟩
  · simp [Value.ownBlock] at he
  · have : g = r := by simpa [Value.ownBlock] using he
    subst this
    rw [hg] at hh
    injection hh with hh
    injection hh with _ ht
    exact hne ht.symm

/-- Bytes as integers. -/
def IsB (l : List Int) : Prop := ∀ x ∈ l, 0 ≤ x ∧ x < 256

theorem IsB.nil : IsB [] := fun _ h => by cases h
theorem IsB.drop {l : List Int} (h : IsB l) (n : Nat) : IsB (l.drop n) := fun x hx => h x (List.mem_of_mem_drop hx)
theorem IsB.take {l : List Int} (h : IsB l) (n : Nat) : IsB (l.take n) := fun x hx => h x (List.mem_of_mem_take hx)
theorem IsB.append {l m : List Int} (h : IsB l) (k : IsB m) : IsB (l ++ m) := fun x hx => by
  rcases List.mem_append.1 hx with hx | hx
  · exact h x hx
  · exact k x hx
theorem IsB.getD {l : List Int} (h : IsB l) (j : Nat) : 0 ≤ l.getD j 0 ∧ l.getD j 0 < 256 := by
  rcases Nat.lt_or_ge j l.length with hlt | hge
  · rw [List.getD_eq_getElem?_getD, List.getElem?_eq_getElem hlt]
    exact h _ (List.getElem_mem hlt)
  · rw [List.getD_eq_getElem?_getD, List.getElem?_eq_none hge]
    exact ⟨Int.le_refl _, by decide⟩

/-- The slice at address a reads as the bytes l, which lie in a block of F. -/
def Rd (w : World) (F : Nat → Prop) (a : Option Addr) (l : List Int) : Prop :=
  IsB l ∧ (0 < l.length → ∃ b o, a = some ⟨b, o, none⟩ ∧ F b ∧ b < w.heap.size ∧ ∀ j, j < l.length → w.cell? ⟨b, o + j, none⟩ = some (.int .u8 (l.getD j 0)))

theorem Rd.nil (w : World) (F : Nat → Prop) (a : Option Addr) : Rd w F a [] := ⟨IsB.nil, fun h => absurd h (by simp)⟩
theorem Rd.at_ {w : World} {F : Nat → Prop} {a : Option Addr} {l : List Int} (h : Rd w F a l) {j : Nat} (hj : j < l.length) :
    ∃ b o, a = some ⟨b, o, none⟩ ∧ F b ∧ b < w.heap.size ∧ w.cell? ⟨b, o + j, none⟩ = some (.int .u8 (l.getD j 0)) := by
  obtain ⟨b, o, ha, hF, hb, hc⟩ := h.2 (by omega)
  exact ⟨b, o, ha, hF, hb, hc j hj⟩
theorem Rd.mono {w : World} {F G : Nat → Prop} {a : Option Addr} {l : List Int} (h : Rd w F a l) (hG : ∀ k, k < w.heap.size → F k → G k) : Rd w G a l :=
  ⟨h.1, fun hl => by obtain ⟨b, o, ha, hF, hb, hc⟩ := h.2 hl; exact ⟨b, o, ha, hG b hb hF, hb, hc⟩⟩
theorem Rd.kept {S F : Nat → Prop} {w w' : World} {a : Option Addr} {l : List Int} (h : Rd w F a l) (hk : Kept S w w') (hs : ∀ k, F k → ¬ S k) : Rd w' F a l :=
  ⟨h.1, fun hl => by
    obtain ⟨b, o, ha, hF, hb, hc⟩ := h.2 hl
    exact ⟨b, o, ha, hF, Nat.lt_of_lt_of_le hb hk.size, fun j hj => hk.cell (p := ⟨b, o + j, none⟩) (hs b hF) (hc j hj)⟩⟩
theorem Rd.take {w : World} {F : Nat → Prop} {a : Option Addr} {l : List Int} (h : Rd w F a l) (n : Nat) : Rd w F a (l.take n) :=
  ⟨h.1.take n, fun hl => by
    have hl' : (l.take n).length ≤ l.length := by rw [List.length_take]; omega
    obtain ⟨b, o, ha, hF, hb, hc⟩ := h.2 (by omega)
    refine ⟨b, o, ha, hF, hb, fun j hj => ?_⟩
    have hjn : j < n := by rw [List.length_take] at hj; omega
    rw [hc j (by omega)]
    simp [hjn]⟩
theorem Rd.drop {w : World} {F : Nat → Prop} {a : Option Addr} {l : List Int} (h : Rd w F a l) {n cap : Nat} (hc : l.length ≤ cap) :
    Rd w F (if cap = n then a else a.map (·.add n)) (l.drop n) :=
  ⟨h.1.drop n, fun hl => by
    rw [List.length_drop] at hl
    obtain ⟨b, o, rfl, hF, hb, hcell⟩ := h.2 (by omega)
    rw [if_neg (by omega)]
    refine ⟨b, o + n, ?_, hF, hb, fun j hj => ?_⟩
    · by_cases hn : n = 0
      · subst hn; rfl
      · simp [Addr.add, hn]
    · rw [List.length_drop] at hj
      rw [Nat.add_assoc, hcell (n + j) (by omega)]
      simp⟩
/-- What a row of bytes of the call's own reads as. -/
theorem Rd.ofOwn {w : World} {base n c : Nat} {e : TypeId} {a : Option Addr} {l : List Int} {F : Nat → Prop} (h : w.ownsRow base e 1 (.slice a n c) n (l.map (Value.int .u8))) (hl : IsB l)
    (hF : ∀ k, Value.ownBlock (.slice a n c) = some k → F k) : Rd w F a l :=
  ⟨hl, fun hp => by
    have hn : l.length = n := by have := h.1; simpa using this
    obtain ⟨g, cap, hv, _, hlt⟩ := h.form (by omega)
    have ha : a = some ⟨g, 0, none⟩ := by injection hv
    subst ha
    refine ⟨g, 0, rfl, hF g rfl, hlt, fun j hj => ?_⟩
    have hc := h.cells (g := g) rfl j (.int .u8 (l.getD j 0)) (by simp [List.getElem?_eq_getElem hj])
    have hadd : (⟨g, 0, none⟩ : Addr).add j = ⟨g, 0 + j, none⟩ := by unfold Addr.add; split <;> simp_all
    rw [← hadd]
    exact hc⟩

/-! ### numbers as bytes, the most significant first -/
def be (n : Nat) : Nat → List Int
  | 0 => []
  | k + 1 => ((n / 256 ^ k % 256 : Nat) : Int) :: be n k
theorem be_len (n k : Nat) : (be n k).length = k := by
  induction k with
  | zero => rfl
  | succ k ih => simp [be, ih]
theorem be_isB (n k : Nat) : IsB (be n k) := by
  induction k with
  | zero => exact IsB.nil
  | succ k ih =>
    intro x hx
    simp only [be, List.mem_cons] at hx
    rcases hx with rfl | hx
    · omega
    · exact ih x hx
/-- The number that bytes are. -/
def num (l : List Int) : Nat := l.foldl (fun a x => a * 256 + x.toNat) 0
theorem num_snoc (l : List Int) (x : Int) : num (l ++ [x]) = num l * 256 + x.toNat := by simp [num]
theorem num_from (l : List Int) (a : Nat) : l.foldl (fun a x => a * 256 + x.toNat) a = a * 256 ^ l.length + num l := by
  induction l generalizing a with
  | nil => simp [num]
  | cons x l ih =>
    simp only [List.foldl_cons, List.length_cons, num]
    rw [ih, ih (0 * 256 + x.toNat), Nat.pow_succ]
    simp only [Nat.zero_mul, Nat.zero_add, Nat.add_mul, Nat.mul_assoc, Nat.mul_comm, Nat.add_assoc]
theorem num_cons (x : Int) (l : List Int) : num (x :: l) = x.toNat * 256 ^ l.length + num l := by
  have := num_from l (0 * 256 + x.toNat)
  simp only [Nat.zero_mul, Nat.zero_add] at this
  simpa [num] using this
theorem num_lt (l : List Int) (h : IsB l) : num l < 256 ^ l.length := by
  induction l with
  | nil => simp [num]
  | cons x l ih =>
    rw [num_cons, List.length_cons, Nat.pow_succ]
    have hx := h x (by simp)
    have hl := ih (fun y hy => h y (by simp [hy]))
    have : x.toNat * 256 ^ l.length ≤ 255 * 256 ^ l.length := Nat.mul_le_mul_right _ (by omega)
    omega
theorem num_be (n k : Nat) : num (be n k) = n % 256 ^ k := by
  induction k with
  | zero => simp [be, num, Nat.mod_one]
  | succ k ih =>
    rw [be, num_cons, be_len, ih, Int.toNat_natCast, Nat.pow_succ, Nat.mod_mul, Nat.mul_comm]
    omega
theorem be_num (l : List Int) (h : IsB l) : be (num l) l.length = l := by
  induction l with
  | nil => rfl
  | cons x l ih =>
    have hx := h x (by simp)
    have hl : IsB l := fun y hy => h y (by simp [hy])
    have hlt := num_lt l hl
    have hp : 0 < 256 ^ l.length := Nat.pow_pos (by decide)
    have hbe : ∀ (a b k : Nat), be (a * 256 ^ k + b) k = be b k := by
      intro a b k
      have key : ∀ j, j ≤ k → be (a * 256 ^ k + b) j = be b j := by
        intro j
        induction j with
        | zero => intro _; rfl
        | succ j ihj =>
          intro hj
          rw [be, be, ihj (by omega)]
          congr 2
          have e : a * 256 ^ k = (a * 256 ^ (k - (j + 1))) * 256 * 256 ^ j := by
            rw [Nat.mul_assoc, Nat.mul_assoc, ← Nat.pow_succ', ← Nat.pow_add]
            congr 2
            omega
          rw [e, Nat.add_comm, Nat.add_mul_div_right _ _ (Nat.pow_pos (by decide)), Nat.add_mul_mod_self_right]
      exact key k (Nat.le_refl _)
    rw [List.length_cons, be, num_cons, hbe, ih hl]
    congr 1
    rw [Nat.add_comm, Nat.add_mul_div_right _ _ hp, Nat.div_eq_of_lt hlt]
    omega
end Go.Proofs.YtokafgleejcbgaaGreatDoor
