/-
  The chain of a key: the program's and the chapter's. An atlas in memory: New, Chains, Confs, has, known, Of, Head, Reader. An atlas: known, Of, Head, Reader, and those of none. An atlas: Of, Head, Reader; those of none; Learn. An atlas: Learn. The chapter's Learn. The page's example of atlases; the walk of AtlasChains.
-/
import Derived.Test.YtclfecninhipnaaGreatDoorRol2
import Derived.Test.YtclfecninhipnaaGreatDoorCho1
import Derived.Test.YtclfecninhipnaaGreatDoorCnf5
import Derived.Test.YtclfecninhipnaaGreatDoorCnf3
import Derived.Laws.EntriesVeiled
import Derived.Deep.QuietTactic
import Derived.BigQuiet
namespace Go.Proofs.YtclfecninhipnaaGreatDoor
open Go.RowKit
set_option linter.unusedVariables false
set_option linter.unusedSimpArgs false

def chn (k n : Int) : Int := if n < 1 then 0 else (k * 2654435761 % 4294967296) / 65536 % n
theorem chn_pos {k n : Int} (h : 1 ≤ n) : chn k n = (k * 2654435761 % 4294967296) / 65536 % n := if_neg (by omega)
theorem chn_neg {k n : Int} (h : n < 1) : chn k n = 0 := if_pos h
theorem chn_ge (k n : Int) : 0 ≤ chn k n := by
  unfold chn
  split
  · omega
  · exact Int.emod_nonneg _ (by omega)
theorem chn_lt {k n : Int} (h : 1 ≤ n) : chn k n < n := by
  rw [chn_pos h]
  exact Int.emod_lt_of_pos _ (by omega)
set_option maxRecDepth 100000 in
theorem Chain_any (k n : Int) (hk : 0 ≤ k) (hk2 : k ≤ 4294967295) (w : World) : Calls Tryz.prog 44 #[.int .u32 k, .int .i64 n] w fun e w' => e = .returned (.int .i64 (chn k n)) ∧ w = w' := by
  go_enter Tryz.func44, Tryz.ntmps44
  by_cases h : n < 1
  · go_wp2
    go_ret
    exact ⟨(by rw [chn_neg h] <;> rfl), rfl⟩
  · have hne : ¬ n = 0 := by omega
    go_wp2
    go_ret
    exact ⟨(by rw [chn_pos (by omega)] <;> rfl), rfl⟩
end Go.Proofs.YtclfecninhipnaaGreatDoor
namespace Go.Proofs.YtclfecninhipnaaGreatDoor
open Go.RowKit
set_option linter.unusedVariables false
set_option linter.unusedSimpArgs false

theorem all_small {l : List Cf} (h : allB l = true) (j : Nat) (hj : j < l.length) : (nthC l j).ns.length ≤ 1000 := by
  have h := (of_decide_eq_true h : AllC l).2.2 j hj
  have := h.1.2.2.2.2.1
  omega
theorem All25_any (v : Value) (l : List Cf) (F : Nat → Prop) (w : World) (h : CfsR w F v l) (hl : l.length ≤ 1000) : Calls Tryz.prog 27 #[v] w (BoolE (allB l) w) := by
  rcases great_first l with hs | ⟨K, hK, hg, hf⟩
  · obtain ⟨a, cap, rfl, _⟩ := id h
    have := h.part l.length (Nat.le_refl _) (fun j hj => hs j hj)
    rw [List.take_length] at this
    exact All_any _ l F w this
  · have hb : allB l = false := Bool.eq_false_iff.2 (fun e => by have := all_small e K hK; omega)
    rw [hb]
    exact All_great v l F w h hl K hK hg hf
theorem CfsR.small {w : World} {F : Nat → Prop} {v : Value} {l : List Cf} (h : CfsR w F v l) (ha : allB l = true) : CfsAt w F v l := by
  obtain ⟨a, cap, rfl, _⟩ := id h
  have := h.part l.length (Nat.le_refl _) (fun j hj => all_small ha j hj)
  rw [List.take_length] at this
  exact this

/-- The lazy low keys: block z; their function keeps the number of chains in cell c. -/
abbrev FnK (c : Nat) : Value := .func (.func 53) #[] #[.pointer (some ⟨c, 0, none⟩)]
def Lz25 (w : World) (z : Nat) (d : Bool) (how v : Value) : Prop :=
  w.heap[z]? = some (.cells #[.int .u32 (if d then 1 else 0), .int .i32 0, .int .u32 0, .int .u32 (if d then 1 else 0), how, v] 122 (0, 0))
def LzNew (w : World) (B z : Nat) (n : Nat) : Prop := ∃ c, B ≤ c ∧ c ≠ z ∧ w.heap[c]? = some (.cells #[.int .i64 n] 3 (0, 0)) ∧ Lz25 w z false (FnK c) (.slice none 0 0)
/-- Block g is an atlas of the configurations l: they lie in block r; all of it from block B on. -/
structure AtAt (w : World) (B g r z : Nat) (l : List Cf) : Prop where
  at_ : ∃ cap us, w.heap[g]? = some (.cells #[.slice (some ⟨r, 0, none⟩) l.length cap, .pointer (some ⟨z, 0, none⟩)] 82 (0, 0)) ∧ RowC w r cap l us ∧ NodesC w (fun k => B ≤ k ∧ k ≠ r ∧ k ≠ z ∧ k ≠ g) l us
  bg : B ≤ g
  br : B ≤ r
  bz : B ≤ z
  zr : z ≠ r
  zg : z ≠ g
  rg : r ≠ g
  zl : z < w.heap.size
theorem AtAt.kept {S : Nat → Prop} {w w' : World} {B g r z : Nat} {l : List Cf} (h : AtAt w B g r z l) (hk : Kept S w w') (hg : ¬ S g) (hr : ¬ S r) (hs : ∀ k, k < w.heap.size → B ≤ k → k ≠ r → k ≠ z → k ≠ g → ¬ S k) : AtAt w' B g r z l := by
  obtain ⟨⟨cap, us, h1, h2, h3⟩, b1, b2, b3, b4, b5, b6, b7⟩ := h
  exact ⟨⟨cap, us, hk.heap hg h1, h2.kept hk hr, h3.kept hk (fun k hb hF => hs k hb hF.1 hF.2.1 hF.2.2.1 hF.2.2.2)⟩, b1, b2, b3, b4, b5, b6, Nat.lt_of_lt_of_le b7 hk.size⟩
theorem AtAt.no {w w' : World} {B g r z : Nat} {l : List Cf} (h : AtAt w B g r z l) (hk : Kept NoB w w') : AtAt w' B g r z l := h.kept hk (fun h => h) (fun h => h) (fun _ _ _ _ _ _ h => h)
theorem AtAt.low {w : World} {B B' g r z : Nat} {l : List Cf} (h : AtAt w B g r z l) (hB : B' ≤ B) : AtAt w B' g r z l := by
  obtain ⟨⟨cap, us, h1, h2, h3⟩, b1, b2, b3, b4, b5, b6, b7⟩ := h
  exact ⟨⟨cap, us, h1, h2, fun j hj => ⟨(h3 j hj).1.mono (fun k _ hk => ⟨Nat.le_trans hB hk.1, hk.2⟩), (h3 j hj).2⟩⟩, Nat.le_trans hB b1, Nat.le_trans hB b2, Nat.le_trans hB b3, b4, b5, b6, b7⟩
theorem AtAt.cfs {w : World} {B g r z : Nat} {l : List Cf} (h : AtAt w B g r z l) : ∃ cap, w.heap[g]? = some (.cells #[.slice (some ⟨r, 0, none⟩) l.length cap, .pointer (some ⟨z, 0, none⟩)] 82 (0, 0)) ∧ CfsAt w (fun k => B ≤ k) (.slice (some ⟨r, 0, none⟩) l.length cap) l := by
  obtain ⟨⟨cap, us, h1, h2, h3⟩, b1, b2, b3, b4, b5, b6, b7⟩ := h
  exact ⟨cap, h1, h2.cfs (F := fun k => B ≤ k) (fun j hj => ⟨(h3 j hj).1.mono (fun k _ hk => hk.1), (h3 j hj).2⟩) b2⟩

theorem KeysOf_any (n : Nat) (w : World) : Calls Tryz.prog 30 #[.int .i64 n] w fun e w' => e = .returned (FnK w.heap.size) ∧ w' = w.alloc (.cells #[.int .i64 n] 3) := by
  have hmf : ∀ (fn : Fn) (first cap : Array Value) (w : World), (Instr.makeFunc fn first cap).run Tryz.prog w = .ok (.func fn first cap) w := fun _ _ _ _ => rfl
  go_enter Tryz.func30, Tryz.ntmps30
  go_wp2
  go_ret
  exact ⟨rfl, rfl⟩
theorem LzOf_any (c : Nat) (w : World) : Calls Tryz.prog 29 #[FnK c] w fun e w' => e = .returned (.pointer (some ⟨w.heap.size, 0, none⟩)) ∧ Lz25 w' w.heap.size false (FnK c) (.slice none 0 0) ∧ Kept NoB w w' ∧ w.heap.size < w'.heap.size := by
  go_enter Tryz.func29, Tryz.ntmps29
  go_wp2
  go_ret
  exact ⟨rfl, heap_alloc_new w _, (Kept.refl _ _).alloc _, by simp⟩
set_option maxRecDepth 100000 in
theorem New25_any (v : Value) (l : List Cf) (F : Nat → Prop) (w : World) (h : CfsR w F v l) (hl : l.length ≤ 1000) :
    Calls Tryz.prog 14 #[v] w fun e w' => Kept NoB w w' ∧ ((allB l = false ∧ e = .returned (.tuple #[.pointer none, .int .i64 1])) ∨
      (allB l = true ∧ ∃ g r z, e = .returned (.tuple #[.pointer (some ⟨g, 0, none⟩), .int .i64 0]) ∧ AtAt w' w.heap.size g r z l ∧ LzNew w' w.heap.size z l.length )) := by
  have HA := Lib.hid (All25_any v l F w h hl)
  obtain ⟨a, cap, rfl, hl1, hl2, hl3, _⟩ := id h
  have HB : Hid (CfsR w F (.slice a l.length cap) l) := Lib.hid h
  clear h
  cases hb : allB l with
  | false =>
    rw [hb] at HA
    go_enter Tryz.func14, Tryz.ntmps14
    go_wp2_with fail
    refine HA.out.mono ?_
    rintro e w1 ⟨rfl, hk⟩
    have HK := Lib.hid hk
    clear hk
    go_wp2
    go_ret2
    exact ⟨HK.out, .inl ⟨trivial, rfl⟩⟩
  | true =>
    rw [hb] at HA
    have HS := Lib.hid (HB.out.small hb)
    have HP : Hid (1 ≤ l.length) := Lib.hid (of_decide_eq_true hb : AllC l).1
    clear hb
    go_enter Tryz.func14, Tryz.ntmps14
    go_wp2_with fail
    refine HA.out.mono ?_
    rintro e w1 ⟨rfl, hk⟩
    have HK := Lib.hid hk
    have HC := Lib.hid (Copy_any _ l w1 F (HS.out.kept hk (fun _ _ _ h => h)) hl)
    clear hk
    go_wp2_with fail
    refine HC.out.mono ?_
    rintro e w2 ⟨hk2, ⟨hn, _⟩ | ⟨r, rc, us, rfl, hr, hrow, hown⟩⟩
    · exact absurd hn (fun e => by have := HP.out; rw [e] at this; simp at this)
    have HK2 := Lib.hid hk2
    have HR := Lib.hid hrow
    have HO := Lib.hid hown
    have HRR : Hid (w1.heap.size ≤ r) := Lib.hid hr
    clear hk2 hrow hown hr
    go_wp2_with fail
    refine (KeysOf_any _ _).mono ?_
    rintro e w3 ⟨rfl, rfl⟩
    have hka := (Kept.refl NoB w2).alloc (.cells #[.int .i64 l.length] 3)
    have HKA := Lib.hid hka
    have HCN := Lib.hid (heap_alloc_new w2 (.cells #[.int .i64 l.length] 3))
    have HSZ : Hid ((w2.alloc (.cells #[.int .i64 l.length] 3)).heap.size = w2.heap.size + 1) := Lib.hid (by simp)
    obtain ⟨w3, hw3⟩ : ∃ w3, w3 = w2.alloc (.cells #[.int .i64 l.length] 3) := ⟨_, rfl⟩
    rw [← hw3] at HKA HCN HSZ ⊢
    clear hka hw3
    go_wp2_with fail
    refine (LzOf_any _ _).mono ?_
    rintro e w4 ⟨rfl, hz4, hk4, hs4⟩
    have HZ4 := Lib.hid hz4
    have HK4 := Lib.hid hk4
    have HS4 : Hid (w3.heap.size < w4.heap.size) := Lib.hid hs4
    clear hz4 hk4 hs4
    go_wp2
    go_ret2
    have hk23 := HKA.out.trans HK4.out (fun _ _ h => h)
    have hal := (Kept.refl NoB w4).alloc (.cells #[.slice (some ⟨r, 0, none⟩) l.length rc, .pointer (some ⟨w3.heap.size, 0, none⟩)] 82)
    have hk24 := hk23.trans hal (fun _ _ h => h)
    have hrl := HR.out.lt
    have s1 := HK.out.size
    have s2 := HK2.out.size
    have s3 := HSZ.out
    have s4 := HS4.out
    have s5 := HRR.out
    refine ⟨((HK.out.trans HK2.out (fun _ _ h => h)).trans hk24 (fun _ _ h => h)), .inr ⟨trivial, w4.heap.size, r, w3.heap.size, rfl, ⟨⟨rc, us, heap_alloc_new w4 _, HR.out.kept hk24 (fun h => h), fun j hj => ?_⟩, by omega, by omega, by omega, by omega, by omega, by omega, by simp; omega⟩, ⟨w2.heap.size, by omega, by omega, ?_, ?_⟩⟩⟩
    · have h1 := (HO.out.1 j hj)
      refine ⟨?_, h1.2⟩
      have hne := row_ne HR.out h1.1
      have h2 := h1.1.nsl (F := fun k => w.heap.size ≤ k ∧ k ≠ r ∧ k ≠ w3.heap.size ∧ k ≠ w4.heap.size) (fun k hk => by
        have := World.ownsRow.lt h1.1 k hk
        exact ⟨by omega, fun e => hne (e ▸ hk), by omega, by omega⟩)
      exact h2.kept hk24 (fun _ _ _ h => h)
    · exact hal.heap (fun h => h) (HK4.out.heap (fun h => h) HCN.out)
    · exact hal.heap (fun h => h) HZ4.out
theorem Chains25_any (w : World) (B g r z : Nat) (l : List Cf) (h : AtAt w B g r z l) : Calls Tryz.prog 45 #[.pointer (some ⟨g, 0, none⟩)] w fun e w' => e = .returned (.int .i64 l.length) ∧ w = w' := by
  obtain ⟨cap, h1, _⟩ := h.cfs
  have c0 := cell_of_row _ _ 0 _ _ _ h1
  clear h h1
  go_enter Tryz.func45, Tryz.ntmps45
  go_wp2
  go_ret
  exact ⟨rfl, rfl⟩
theorem Chains25_nil (w : World) : Calls Tryz.prog 45 #[.pointer none] w fun e w' => e = .returned (.int .i64 0) ∧ w = w' := by
  go_enter Tryz.func45, Tryz.ntmps45
  go_wp2
  go_ret
  exact ⟨rfl, rfl⟩
theorem Has25_any (w : World) (B g r z : Nat) (l : List Cf) (h : AtAt w B g r z l) (x : Int) : Calls Tryz.prog 69 #[.pointer (some ⟨g, 0, none⟩), .int .i64 x] w fun e w' => e = .returned (.bool (decide (0 ≤ x ∧ x < l.length))) ∧ w = w' := by
  have HC := Lib.hid (Chains25_any w B g r z l h)
  obtain ⟨n, hn⟩ : ∃ n, n = l.length := ⟨_, rfl⟩
  rw [← hn] at HC ⊢
  clear h hn
  go_enter Tryz.func69, Tryz.ntmps69
  by_cases h0 : 0 ≤ x
  · have hd : decide (0 ≤ x) = true := decide_eq_true h0
    go_wp2_with fail
    refine HC.out.mono ?_
    rintro e w1 ⟨rfl, rfl⟩
    go_wp2
    go_ret
    exact ⟨by simp [h0], rfl⟩
  · have hd : decide (0 ≤ x) = false := decide_eq_false h0
    go_wp2
    go_ret
    exact ⟨by simp [h0], rfl⟩
theorem Has25_nil (w : World) (x : Int) : Calls Tryz.prog 69 #[.pointer none, .int .i64 x] w fun e w' => e = .returned (.bool false) ∧ w = w' := by
  have HC := Lib.hid (Chains25_nil w)
  go_enter Tryz.func69, Tryz.ntmps69
  by_cases h0 : 0 ≤ x
  · have hd : decide (0 ≤ x) = true := decide_eq_true h0
    have hd2 : decide (x < 0) = false := decide_eq_false (by omega)
    go_wp2_with fail
    refine HC.out.mono ?_
    rintro e w1 ⟨rfl, rfl⟩
    go_wp2
    go_ret
    exact ⟨rfl, rfl⟩
  · have hd : decide (0 ≤ x) = false := decide_eq_false h0
    go_wp2
    go_ret
    exact ⟨rfl, rfl⟩
end Go.Proofs.YtclfecninhipnaaGreatDoor
namespace Go.Proofs.YtclfecninhipnaaGreatDoor
open Go.RowKit
set_option linter.unusedVariables false
set_option linter.unusedSimpArgs false

/-- A block of cells that may be written. -/
def Wr25 (w : World) (k : Nat) : Prop := ∃ cs t, w.heap[k]? = some (.cells cs t (0, 0))
theorem Wr25.kept {S : Nat → Prop} {w w' : World} {k : Nat} (h : Wr25 w k) (hk : Kept S w w') (hs : ¬ S k) : Wr25 w' k := by
  obtain ⟨cs, t, h⟩ := h
  exact ⟨cs, t, hk.heap hs h⟩
def NwW25 (B : Nat) (w : World) : Nat → Prop := fun k => B ≤ k ∧ Wr25 w k
theorem own_wr25 {B n e size : Nat} {w : World} {v : Value} {xs : List Value} (h : w.ownsRow B e size v n xs) {k : Nat} (hk : v.ownBlock = some k) : NwW25 B w k := by
  rcases h.2 with ⟨rfl, _⟩ | ⟨r, cap, cur, rfl, hb, hr, _⟩
  · cases hk
  · injection hk with hk
    subst hk
    exact ⟨hb, cur, _, hr⟩
theorem bset25 {w : World} {g : Nat} {cs : Array Value} {t : TypeId} {fr : Nat × Nat} (h : w.heap[g]? = some (.cells cs t fr)) (i : Nat) (u : Value) :
    (w.setCell ⟨g, i, none⟩ u).heap[g]? = some (.cells (cs.setIfInBounds i u) t fr) := by simp [World.setCell, Array.getElem?_modify, h]
theorem blk_old25 {w : World} {g : Nat} {o : Obj} (h : w.heap[g]? = some o) (x : Obj) : (w.alloc x).heap[g]? = some o := (heap_alloc_old w x (heap_lt h)).trans h
theorem blk_other25 {w : World} {g k : Nat} {o : Obj} (h : w.heap[g]? = some o) (i : Nat) (u : Value) (hk : k ≠ g) : (w.setCell ⟨k, i, none⟩ u).heap[g]? = some o := by simp [World.setCell, Array.getElem?_modify, h, hk]
def five25 (w : World) (b : Nat) (x0 x1 x2 x3 x4 : Value) : World := ((((w.setCell ⟨b, 0, none⟩ x0).setCell ⟨b, 1, none⟩ x1).setCell ⟨b, 2, none⟩ x2).setCell ⟨b, 3, none⟩ x3).setCell ⟨b, 4, none⟩ x4
theorem five25_at {w : World} {b : Nat} {y0 y1 y2 y3 y4 : Value} (h : w.heap[b]? = some (.cells #[y0, y1, y2, y3, y4] 44 (0, 0))) (x0 x1 x2 x3 x4 : Value) : (five25 w b x0 x1 x2 x3 x4).heap[b]? = some (.cells #[x0, x1, x2, x3, x4] 44 (0, 0)) :=
  bset25 (bset25 (bset25 (bset25 (bset25 h 0 x0) 1 x1) 2 x2) 3 x3) 4 x4
theorem Kept.five25 {S : Nat → Prop} {a w : World} (h : Kept S a w) {b : Nat} (hb : S b ∨ a.heap.size ≤ b) (x0 x1 x2 x3 x4 : Value) : Kept S a (Go.Proofs.YtclfecninhipnaaGreatDoor.five25 w b x0 x1 x2 x3 x4) :=
  ((((h.setCell (p := ⟨b, 0, none⟩) hb x0).setCell (p := ⟨b, 1, none⟩) hb x1).setCell (p := ⟨b, 2, none⟩) hb x2).setCell (p := ⟨b, 3, none⟩) hb x3).setCell (p := ⟨b, 4, none⟩) hb x4
theorem frz25 {w : World} {b : Nat} {cs : Array Value} {t : TypeId} (h : w.heap[b]? = some (.cells cs t (0, 0))) (i : Nat) : w.frozen? ⟨b, i, none⟩ = false := by simp [World.frozen?, h]

/-- Which configuration a key's is. -/
def plc25 (k : Int) (l : List Cf) : Nat := (chn k l.length).toNat
theorem plc25_lt {k : Int} {l : List Cf} (h : 1 ≤ l.length) : plc25 k l < l.length := by
  have h1 := chn_ge k l.length
  have h2 := chn_lt (k := k) (n := l.length) (by omega)
  unfold plc25
  omega
theorem plc25_eq (k : Int) (l : List Cf) : chn k l.length = (plc25 k l : Int) := by
  have h1 := chn_ge k l.length
  unfold plc25
  omega
set_option maxRecDepth 100000 in
set_option maxHeartbeats 2000000 in
theorem Known25_any (w : World) (B g r z : Nat) (l : List Cf) (h : AtAt w B g r z l) (h1 : 1 ≤ l.length) (h2 : l.length ≤ 1000) (k : Int) (hk0 : 0 ≤ k) (hk1 : k ≤ 4294967295) :
    Calls Tryz.prog 57 #[.pointer (some ⟨g, 0, none⟩), .int .u32 k] w fun e w' => ∃ v, e = .returned v ∧ CfV w' (fun b => B ≤ b ∧ b < w.heap.size) v (nthC l (plc25 k l)) ∧ Kept NoB w w' := by
  have HH := Lib.hid (heap_alloc_new w (.cells #[.int .i64 0, .int .u64 0, .slice none 0 0, .bool false, .int .i64 0] 44))
  have HK := Lib.hid ((Kept.refl NoB w).alloc (.cells #[.int .i64 0, .int .u64 0, .slice none 0 0, .bool false, .int .i64 0] 44))
  obtain ⟨cap, hb0, hcs⟩ := h.cfs
  have hgs : g < w.heap.size := heap_lt hb0
  have hcs := hcs.mono (G := fun b => B ≤ b ∧ b < w.heap.size) (fun b hb hF => ⟨hF, hb⟩)
  have hpl := plc25_lt (k := k) h1
  have hpe := plc25_eq k l
  obtain ⟨b, o, hbo, _, hbs, u, e0, e1, e2, e3, e4, hns, hep, htop, hnl⟩ := hcs.at_ hpl
  injection hbo with hbo
  injection hbo with hb1 hb2 _
  subst hb1 hb2
  obtain ⟨y, hy⟩ : ∃ y, y = nthC l (plc25 k l) := ⟨_, rfl⟩
  rw [← hy] at e0 e1 e3 e4 hns hep htop hnl ⊢
  obtain ⟨ych, yep, yns, yfr, yjn⟩ := y
  simp only [Nat.zero_add] at e0 e1 e2 e3 e4 hns hep htop hnl ⊢
  obtain ⟨ua, uc, rfl, _⟩ := id hns
  obtain ⟨p, hp⟩ : ∃ p, p = plc25 k l := ⟨_, rfl⟩
  rw [← hp] at e0 e1 e2 e3 e4 hpl hpe
  have HC := Lib.hid (fun w' => Chain_any k l.length hk0 hk1 w')
  rw [hpe] at HC
  obtain ⟨n, hn⟩ : ∃ n, n = l.length := ⟨_, rfl⟩
  rw [← hn] at HC hb0 hpl h2
  have c0 := cell_of_row _ _ 0 _ _ _ hb0
  have hpl0 : (0 : Int) ≤ (p : Int) := by omega
  have hpl1 : (p : Int) < (n : Int) := by omega
  have hq1 : ¬ g = w.heap.size := by omega
  have hq2 : ¬ w.heap.size = g := by omega
  have hq3 : ¬ r = w.heap.size := by omega
  have hq4 : ¬ w.heap.size = r := by omega
  obtain ⟨W, hW⟩ : ∃ W, W = w.alloc (.cells #[.int .i64 0, .int .u64 0, .slice none 0 0, .bool false, .int .i64 0] 44) := ⟨_, rfl⟩
  have HW := Lib.hid hW
  rw [← hW] at HH HK
  have HNS := Lib.hid (hns.kept HK.out (fun _ _ _ h => h))
  have HNB := Lib.hid (And.intro hep (And.intro htop hnl))
  have HTEN : Hid (∀ w', Kept (fun b => b = w.heap.size) W w' → w'.cell? ⟨g, 0, none⟩ = some (.slice (some ⟨r, 0, none⟩) n cap) ∧ w'.cell? ⟨r, p * 5, none⟩ = some (.int .i64 ych) ∧ w'.cell? ⟨r, p * 5 + 1, none⟩ = some (.int .u64 yep) ∧ w'.cell? ⟨r, p * 5 + 2, none⟩ = some (.slice ua yns.length uc) ∧ w'.cell? ⟨r, p * 5 + 3, none⟩ = some (.bool yfr) ∧ w'.cell? ⟨r, p * 5 + 4, none⟩ = some (.int .i64 yjn)) := Lib.hid (fun w' hk =>
    have hk := (HK.out.mono (T := fun b => b = w.heap.size) (fun _ _ h => h.elim)).trans hk (fun _ _ h => h)
    ⟨hk.cell (p := ⟨g, 0, none⟩) hq1 c0, hk.cell (p := ⟨r, p * 5, none⟩) hq3 e0, hk.cell (p := ⟨r, p * 5 + 1, none⟩) hq3 e1, hk.cell (p := ⟨r, p * 5 + 2, none⟩) hq3 e2, hk.cell (p := ⟨r, p * 5 + 3, none⟩) hq3 e3, hk.cell (p := ⟨r, p * 5 + 4, none⟩) hq3 e4⟩)
  have HKe := Lib.hid (Kept.refl (fun b => b = w.heap.size) W).drew
  have HT := Lib.hid (HTEN.out _ HKe.out)
  have HTS := Lib.hid (HTEN.out _ ((Kept.refl (fun b => b = w.heap.size) W).five25 (b := w.heap.size) (.inl rfl) (.int .i64 ych) (.int .u64 yep) (.slice ua yns.length uc) (.bool yfr) (.int .i64 yjn)).drew)
  obtain ⟨r0, r1, r2, r3, r4⟩ := cells5 HH.out
  obtain ⟨f0, f1, f2, f3, f4⟩ := And.intro (frz25 HH.out 0) (And.intro (frz25 HH.out 1) (And.intro (frz25 HH.out 2) (And.intro (frz25 HH.out 3) (frz25 HH.out 4))))
  clear h hb0 hcs hbs e0 e1 e2 e3 e4 hns hep htop hnl hy hp hn c0 hW hpe
  go_enter Tryz.func57, Tryz.ntmps57
  go_upto_region 3 with fail
  rw [← HW.out]
  go_region_held3 (fun w' => w'.cell? ⟨g, 0, none⟩ = some (.slice (some ⟨r, 0, none⟩) n cap) ∧ w'.cell? ⟨r, p * 5, none⟩ = some (.int .i64 ych) ∧ w'.cell? ⟨r, p * 5 + 1, none⟩ = some (.int .u64 yep) ∧ w'.cell? ⟨r, p * 5 + 2, none⟩ = some (.slice ua yns.length uc) ∧ w'.cell? ⟨r, p * 5 + 3, none⟩ = some (.bool yfr) ∧ w'.cell? ⟨r, p * 5 + 4, none⟩ = some (.int .i64 yjn))
    (first | (with_reducible exact HT.out) | exact HTS.out)
    ((go_at_call 44; (with_reducible refine (HC.out _).mono ?_); rintro e w1 ⟨rfl, rfl⟩))
  all_goals
    go_wp2
    clear r0 r1 r2 r3 r4 f0 f1 f2 f3 f4
    have hF : (World.drew (five25 W w.heap.size (.int .i64 ych) (.int .u64 yep) (.slice ua yns.length uc) (.bool yfr) (.int .i64 yjn))).heap[w.heap.size]? = _ := five25_at HH.out (.int .i64 ych) (.int .u64 yep) (.slice ua yns.length uc) (.bool yfr) (.int .i64 yjn)
    obtain ⟨r0, r1, r2, r3, r4⟩ := cells5 hF
    have hK := (HK.out.five25 (b := w.heap.size) (.inr (Nat.le_refl _)) (.int .i64 ych) (.int .u64 yep) (.slice ua yns.length uc) (.bool yfr) (.int .i64 yjn)).drew
    have hN := HNS.out.kept ((Kept.refl (fun b => b = w.heap.size) W).five25 (b := w.heap.size) (.inl rfl) (.int .i64 ych) (.int .u64 yep) (.slice ua yns.length uc) (.bool yfr) (.int .i64 yjn)).drew (fun k _ hF e => by
      have e : k = w.heap.size := e
      have := hF.2
      omega)
    clear hF HTS HTEN HT
    unfold five25 at r0 r1 r2 r3 r4 hK hN
    generalize hW : World.drew _ = W2 at r0 r1 r2 r3 r4 hK hN ⊢
    exact bodyPost_ret (v := .agg #[.int .i64 ych, .int .u64 yep, .slice ua yns.length uc, .bool yfr, .int .i64 yjn]) (by simp [results, Tryz.results57, go_sem, r0, r1, r2, r3, r4]) rfl ⟨_, rfl, ⟨_, rfl, hN, HNB.out⟩, hK⟩
set_option maxRecDepth 100000 in
theorem CopyOf25_any (w : World) (v : Value) (c : Cf) (F : Nat → Prop) (h : CfV w F v c) : Calls Tryz.prog 56 #[v] w fun e w' => ∃ v', e = .returned v' ∧ CfV w' (fun b => w.heap.size ≤ b ∧ b < w'.heap.size ∧ Wr25 w' b) v' c ∧ Kept NoB w w' := by
  obtain ⟨u, rfl, hns, hep, htop, hnl⟩ := h
  have HCL := Lib.hid (fun w' (hk : Kept NoB w w') => CloneN_any u c.ns F w' (hns.kept hk (fun _ _ _ h => h)) hnl)
  obtain ⟨ua, uc, rfl, _⟩ := id hns
  have HNB := Lib.hid (And.intro hep (And.intro htop hnl))
  obtain ⟨ych, yep, yns, yfr, yjn⟩ := c
  simp only at HCL HNB ⊢
  have HK := Lib.hid (((Kept.refl NoB w).alloc (.cells #[.int .i64 ych, .int .u64 yep, .slice ua yns.length uc, .bool yfr, .int .i64 yjn] 44)).alloc (.cells #[.int .i64 0, .int .u64 0, .slice none 0 0, .bool false, .int .i64 0] 44))
  have hb1 := blk_old25 (heap_alloc_new w (.cells #[.int .i64 ych, .int .u64 yep, .slice ua yns.length uc, .bool yfr, .int .i64 yjn] 44)) (.cells #[.int .i64 0, .int .u64 0, .slice none 0 0, .bool false, .int .i64 0] 44)
  have hb2 := heap_alloc_new (w.alloc (.cells #[.int .i64 ych, .int .u64 yep, .slice ua yns.length uc, .bool yfr, .int .i64 yjn] 44)) (.cells #[.int .i64 0, .int .u64 0, .slice none 0 0, .bool false, .int .i64 0] 44)
  rw [show (w.alloc (.cells #[.int .i64 ych, .int .u64 yep, .slice ua yns.length uc, .bool yfr, .int .i64 yjn] 44)).heap.size = w.heap.size + 1 by simp] at hb2
  obtain ⟨W, hW⟩ : ∃ W, W = (w.alloc (.cells #[.int .i64 ych, .int .u64 yep, .slice ua yns.length uc, .bool yfr, .int .i64 yjn] 44)).alloc (.cells #[.int .i64 0, .int .u64 0, .slice none 0 0, .bool false, .int .i64 0] 44) := ⟨_, rfl⟩
  have HW := Lib.hid hW
  have HSZ : Hid (W.heap.size = w.heap.size + 2) := Lib.hid (by rw [hW]; simp)
  rw [← hW] at HK hb1 hb2
  have HB1 := Lib.hid hb1
  have HB2 := Lib.hid hb2
  have hq1 : ¬ w.heap.size = w.heap.size + 1 := by omega
  have hq2 : ¬ w.heap.size + 1 = w.heap.size := by omega
  clear hW hns hep htop hnl hb1 hb2
  go_enter Tryz.func56, Tryz.ntmps56
  go_upto_region 1 with fail
  rw [← HW.out]
  obtain ⟨c0, c1, c2, c3, c4⟩ := cells5 HB1.out
  go_wp2_with fail
  refine (HCL.out _ HK.out).mono ?_
  rintro e w1 ⟨v1, rfl, hown, hk1⟩
  have HO := Lib.hid hown
  have HK1 := Lib.hid hk1
  have HC1 := Lib.hid (hk1.heap (fun h => h) HB1.out)
  have HC2 := Lib.hid (hk1.heap (fun h => h) HB2.out)
  obtain ⟨va, vc, rfl⟩ := hown.form
  clear c0 c1 c2 c3 c4 hown hk1
  obtain ⟨c0, c1, c2, c3, c4⟩ := cells5 HC1.out
  have f2 := frz25 HC1.out 2
  obtain ⟨d0, d1, d2, d3, d4⟩ := cells5 HC2.out
  obtain ⟨z0, z1, z2, z3, z4⟩ := And.intro (frz25 HC2.out 0) (And.intro (frz25 HC2.out 1) (And.intro (frz25 HC2.out 2) (And.intro (frz25 HC2.out 3) (frz25 HC2.out 4))))
  go_wp2
  clear c0 c1 c2 c3 c4 d0 d1 d2 d3 d4 z0 z1 z2 z3 z4 f2
  have hC2 := blk_other25 HC2.out (k := w.heap.size) 2 (.slice va yns.length vc) hq1
  have hF := five25_at hC2 (.int .i64 ych) (.int .u64 yep) (.slice va yns.length vc) (.bool yfr) (.int .i64 yjn)
  have hw1 := ((HK.out.trans HK1.out (fun _ _ h => h)).setCell (p := ⟨w.heap.size, 2, none⟩) (.inr (Nat.le_refl _)) (.slice va yns.length vc)).five25 (b := w.heap.size + 1) (.inr (by omega)) (.int .i64 ych) (.int .u64 yep) (.slice va yns.length vc) (.bool yfr) (.int .i64 yjn)
  have hkW := (((Kept.refl (fun b => b < w.heap.size + 2) w1).setCell (p := ⟨w.heap.size, 2, none⟩) (.inl (by show w.heap.size < w.heap.size + 2; omega)) (.slice va yns.length vc)).five25 (b := w.heap.size + 1) (.inl (by omega)) (.int .i64 ych) (.int .u64 yep) (.slice va yns.length vc) (.bool yfr) (.int .i64 yjn))
  have hN := ((HO.out.nsl (F := fun b => w.heap.size + 2 ≤ b ∧ b < w1.heap.size ∧ Wr25 w1 b) (fun k hk => ⟨by have := World.ownsRow.lt HO.out k hk; have := HSZ.out; omega, (World.ownsRow.lt HO.out k hk).2, (own_wr25 HO.out hk).2⟩))).kept hkW (fun k _ hF h => by have := hF.1; omega)
  have hN := hN.mono (G := fun b => w.heap.size ≤ b ∧ b < w1.heap.size ∧ Wr25 _ b) (fun k _ h => ⟨by omega, h.2.1, h.2.2.kept hkW (fun h' => by have := h.1; omega)⟩)
  clear hkW
  have hs : w1.heap.size = (five25 (w1.setCell ⟨w.heap.size, 2, none⟩ (.slice va yns.length vc)) (w.heap.size + 1) (.int .i64 ych) (.int .u64 yep) (.slice va yns.length vc) (.bool yfr) (.int .i64 yjn)).heap.size := by simp [five25, World.setCell]
  obtain ⟨r0, r1, r2, r3, r4⟩ := cells5 hF
  clear hF hC2
  unfold five25 at r0 r1 r2 r3 r4 hw1 hN hs
  generalize hW : World.setCell _ _ _ = W2 at r0 r1 r2 r3 r4 hw1 hN hs ⊢
  rw [hs] at hN
  exact bodyPost_ret (v := .agg #[.int .i64 ych, .int .u64 yep, .slice va yns.length vc, .bool yfr, .int .i64 yjn]) (by simp [results, Tryz.results56, go_sem, r0, r1, r2, r3, r4]) rfl ⟨_, rfl, ⟨_, rfl, hN, HNB.out⟩, hw1⟩
end Go.Proofs.YtclfecninhipnaaGreatDoor
namespace Go.Proofs.YtclfecninhipnaaGreatDoor
open Go.RowKit
set_option linter.unusedVariables false
set_option linter.unusedSimpArgs false

theorem CfV.r25 {w : World} {F : Nat → Prop} {v : Value} {c : Cf} (h : CfV w F v c) : CfR w F v c := by
  obtain ⟨u, h1, h2, h3, h4, _⟩ := h
  exact ⟨u, h1, h2, h3, h4⟩
set_option maxRecDepth 100000 in
theorem Of25_any (w : World) (B g r z : Nat) (l : List Cf) (h : AtAt w B g r z l) (h1 : 1 ≤ l.length) (h2 : l.length ≤ 1000) (k : Int) (hk0 : 0 ≤ k) (hk1 : k ≤ 4294967295) :
    Calls Tryz.prog 33 #[.pointer (some ⟨g, 0, none⟩), .int .u32 k] w fun e w' => ∃ v, e = .returned v ∧ CfV w' (fun b => w.heap.size ≤ b ∧ b < w'.heap.size ∧ Wr25 w' b) v (nthC l (plc25 k l)) ∧ Kept NoB w w' := by
  have HH := Lib.hid (heap_alloc_new w (.cells #[.int .i64 0, .int .u64 0, .slice none 0 0, .bool false, .int .i64 0] 44))
  have HK := Lib.hid ((Kept.refl NoB w).alloc (.cells #[.int .i64 0, .int .u64 0, .slice none 0 0, .bool false, .int .i64 0] 44))
  have HKN := Lib.hid (fun w' (hk : Kept NoB w w') => Known25_any w' B g r z l (h.no hk) h1 h2 k hk0 hk1)
  obtain ⟨y, hy⟩ : ∃ y, y = nthC l (plc25 k l) := ⟨_, rfl⟩
  rw [← hy] at HKN ⊢
  obtain ⟨W, hW⟩ : ∃ W, W = w.alloc (.cells #[.int .i64 0, .int .u64 0, .slice none 0 0, .bool false, .int .i64 0] 44) := ⟨_, rfl⟩
  have HW := Lib.hid hW
  have HSZ : Hid (W.heap.size = w.heap.size + 1) := Lib.hid (by rw [hW]; simp)
  rw [← hW] at HH HK
  clear hW hy h
  go_enter Tryz.func33, Tryz.ntmps33
  go_upto_region 1 with fail
  rw [← HW.out]
  go_wp2_with fail
  refine (HKN.out _ HK.out).mono ?_
  rintro e w1 ⟨v1, rfl, hv1, hk1⟩
  have HV1 := Lib.hid hv1
  have HK1 := Lib.hid (HK.out.trans hk1 (fun _ _ h => h))
  have HH1 := Lib.hid (hk1.heap (fun h => h) HH.out)
  have HS1 : Hid (W.heap.size ≤ w1.heap.size) := Lib.hid hk1.size
  obtain ⟨u, rfl, _⟩ := hv1
  clear hk1
  go_wp2_with fail
  refine (CopyOf25_any _ _ _ _ HV1.out).mono ?_
  rintro e w2 ⟨v2, rfl, hv2, hk2⟩
  have HK2 := Lib.hid (HK1.out.trans hk2 (fun _ _ h => h))
  have HH2 := Lib.hid (hk2.heap (fun h => h) HH1.out)
  obtain ⟨u2, rfl, hn2, hb2⟩ := hv2
  obtain ⟨ua, uc, rfl, _⟩ := id hn2
  have HN2 := Lib.hid hn2
  have HB2 := Lib.hid hb2
  obtain ⟨ych, yep, yns, yfr, yjn⟩ := y
  simp only at HN2 HB2 ⊢
  clear hk2 hn2 hb2
  obtain ⟨r0, r1, r2, r3, r4⟩ := cells5 HH2.out
  obtain ⟨f0, f1, f2, f3, f4⟩ := And.intro (frz25 HH2.out 0) (And.intro (frz25 HH2.out 1) (And.intro (frz25 HH2.out 2) (And.intro (frz25 HH2.out 3) (frz25 HH2.out 4))))
  go_wp2
  clear r0 r1 r2 r3 r4 f0 f1 f2 f3 f4
  have hF := five25_at HH2.out (.int .i64 ych) (.int .u64 yep) (.slice ua yns.length uc) (.bool yfr) (.int .i64 yjn)
  obtain ⟨r0, r1, r2, r3, r4⟩ := cells5 hF
  have hK := (HK2.out.five25 (b := w.heap.size) (.inr (Nat.le_refl _)) (.int .i64 ych) (.int .u64 yep) (.slice ua yns.length uc) (.bool yfr) (.int .i64 yjn))
  have hkW := ((Kept.refl (fun b => b = w.heap.size) w2).five25 (b := w.heap.size) (.inl rfl) (.int .i64 ych) (.int .u64 yep) (.slice ua yns.length uc) (.bool yfr) (.int .i64 yjn))
  have hne : ∀ k, w1.heap.size ≤ k → k ≠ w.heap.size := fun k hk => by
    have := HS1.out
    have := HSZ.out
    omega
  have hN := HN2.out.kept hkW (fun k _ hF e => hne k hF.1 e)
  have hs : w2.heap.size = (five25 w2 w.heap.size (.int .i64 ych) (.int .u64 yep) (.slice ua yns.length uc) (.bool yfr) (.int .i64 yjn)).heap.size := by simp [five25, World.setCell]
  have hN := hN.mono (G := fun b => w.heap.size ≤ b ∧ b < w2.heap.size ∧ Wr25 _ b) (fun k _ h => ⟨by have := h.1; have := HS1.out; have := HSZ.out; omega, h.2.1, h.2.2.kept hkW (fun e => hne k h.1 e)⟩)
  clear hF hkW
  unfold five25 at r0 r1 r2 r3 r4 hK hN hs
  generalize hW : World.setCell _ _ _ = W2 at r0 r1 r2 r3 r4 hK hN hs ⊢
  rw [hs] at hN
  exact bodyPost_ret (v := .agg #[.int .i64 ych, .int .u64 yep, .slice ua yns.length uc, .bool yfr, .int .i64 yjn]) (by simp [results, Tryz.results33, go_sem, r0, r1, r2, r3, r4]) rfl ⟨_, rfl, ⟨_, rfl, hN, HB2.out⟩, hK⟩
theorem Head25_any (w : World) (B g r z : Nat) (l : List Cf) (h : AtAt w B g r z l) (h1 : 1 ≤ l.length) (h2 : l.length ≤ 1000) (k : Int) (hk0 : 0 ≤ k) (hk1 : k ≤ 4294967295) :
    Calls Tryz.prog 35 #[.pointer (some ⟨g, 0, none⟩), .int .u32 k] w (NumE19 (headN (nthC l (plc25 k l))) w) := by
  have HKN := Lib.hid (Known25_any w B g r z l h h1 h2 k hk0 hk1)
  obtain ⟨y, hy⟩ : ∃ y, y = nthC l (plc25 k l) := ⟨_, rfl⟩
  rw [← hy] at HKN ⊢
  clear h hy
  go_enter Tryz.func35, Tryz.ntmps35
  go_wp2_with fail
  refine HKN.out.mono ?_
  rintro e w1 ⟨v1, rfl, hv1, hk1⟩
  have HV1 := Lib.hid hv1.r25
  have HK1 := Lib.hid hk1
  obtain ⟨u, rfl, _⟩ := hv1
  clear hk1
  go_wp2_with fail
  refine (Head19 _ _ _ _ HV1.out).mono ?_
  rintro e w2 ⟨rfl, hk2⟩
  have HK2 := Lib.hid (HK1.out.trans hk2 (fun _ _ h => h))
  clear hk2
  go_wp2
  go_ret
  exact ⟨rfl, HK2.out⟩
theorem Reader25_any (w : World) (B g r z : Nat) (l : List Cf) (h : AtAt w B g r z l) (h1 : 1 ≤ l.length) (h2 : l.length ≤ 1000) (k p : Int) (hk0 : 0 ≤ k) (hk1 : k ≤ 4294967295) (hp : p ≤ 9223372036854775807) :
    Calls Tryz.prog 34 #[.pointer (some ⟨g, 0, none⟩), .int .u32 k, .int .i64 p] w (NumE19 (readN (nthC l (plc25 k l)) p) w) := by
  have HKN := Lib.hid (Known25_any w B g r z l h h1 h2 k hk0 hk1)
  obtain ⟨y, hy⟩ : ∃ y, y = nthC l (plc25 k l) := ⟨_, rfl⟩
  rw [← hy] at HKN ⊢
  clear h hy
  go_enter Tryz.func34, Tryz.ntmps34
  go_wp2_with fail
  refine HKN.out.mono ?_
  rintro e w1 ⟨v1, rfl, hv1, hk1⟩
  have HV1 := Lib.hid hv1.r25
  have HK1 := Lib.hid hk1
  obtain ⟨u, rfl, _⟩ := hv1
  clear hk1
  go_wp2_with fail
  refine (Reader19 _ _ _ hp _ _ HV1.out).mono ?_
  rintro e w2 ⟨rfl, hk2⟩
  have HK2 := Lib.hid (HK1.out.trans hk2 (fun _ _ h => h))
  clear hk2
  go_wp2
  go_ret
  exact ⟨rfl, HK2.out⟩
def lrnB (l : List Cf) (c : Cf) : Bool := decide (0 ≤ c.ch ∧ c.ch < l.length) && newB (nthC l c.ch.toNat) c
def lrnL (l : List Cf) (c : Cf) : List Cf := if lrnB l c then l.set c.ch.toNat c else l
theorem lrnL_len (l : List Cf) (c : Cf) : (lrnL l c).length = l.length := by unfold lrnL; split <;> simp
/-- Five cells, stored one by one, from o on. -/
def five25o (w : World) (b o : Nat) (x0 x1 x2 x3 x4 : Value) : World := ((((w.setCell ⟨b, o, none⟩ x0).setCell ⟨b, o + 1, none⟩ x1).setCell ⟨b, o + 2, none⟩ x2).setCell ⟨b, o + 3, none⟩ x3).setCell ⟨b, o + 4, none⟩ x4
theorem Kept.five25o {S : Nat → Prop} {a w : World} (h : Kept S a w) {b : Nat} (hb : S b ∨ a.heap.size ≤ b) (o : Nat) (x0 x1 x2 x3 x4 : Value) : Kept S a (Go.Proofs.YtclfecninhipnaaGreatDoor.five25o w b o x0 x1 x2 x3 x4) :=
  ((((h.setCell (p := ⟨b, o, none⟩) hb x0).setCell (p := ⟨b, o + 1, none⟩) hb x1).setCell (p := ⟨b, o + 2, none⟩) hb x2).setCell (p := ⟨b, o + 3, none⟩) hb x3).setCell (p := ⟨b, o + 4, none⟩) hb x4
/-- The atlas behind a configuration that was put into its row. -/
theorem AtAt.put25 {w w1 : World} {B g r z : Nat} {l : List Cf} (h : AtAt w B g r z l) {j : Nat} (hj : j < l.length) (c : Cf) (u : Value) (hk1 : Kept NoB w w1) (hu : NSl w1 (fun b => w.heap.size ≤ b ∧ b < w1.heap.size) u c.ns) (hb : 0 ≤ c.ep ∧ c.ep ≤ topE ∧ c.ns.length ≤ 1000) (hB : B ≤ w.heap.size) :
    AtAt (five25o w1 r (j * 5) (.int .i64 c.ch) (.int .u64 c.ep) u (.bool c.fr) (.int .i64 c.jn)) B g r z (l.set j c) ∧ Kept (fun b => b = r) w (five25o w1 r (j * 5) (.int .i64 c.ch) (.int .u64 c.ep) u (.bool c.fr) (.int .i64 c.jn)) := by
  have hzl := h.zl
  obtain ⟨⟨cap, us, h1, h2, h3⟩, b1, b2, b3, b4, b5, b6, b7⟩ := h.no hk1
  have hgl : g < w.heap.size := by obtain ⟨cap, us, h1, _⟩ := h.at_; exact heap_lt h1
  have hrl : r < w.heap.size := by obtain ⟨cap, us, _, h1, _⟩ := h.at_; exact h1.lt
  have hs5 := h2.set5 hj c u
  have hkk : Kept (fun b => b = r) w1 (five25o w1 r (j * 5) (.int .i64 c.ch) (.int .u64 c.ep) u (.bool c.fr) (.int .i64 c.jn)) := (Kept.refl (fun i => i = r) w1).five25o (.inl rfl) _ _ _ _ _ _
  refine ⟨⟨⟨cap, _, ?_, hs5, fun i hi => ?_⟩, b1, b2, b3, b4, b5, b6, Nat.lt_of_lt_of_le b7 hkk.size⟩, (hk1.mono (fun _ _ h => h.elim)).trans hkk (fun _ _ h => h)⟩
  · rw [List.length_set]
    exact hkk.heap (fun h => b6 h.symm) h1
  · rw [List.length_set] at hi
    by_cases e : i = j
    · subst e
      rw [upd_at, nthC_set hi, if_pos rfl]
      refine ⟨(hu.mono (G := fun b => B ≤ b ∧ b ≠ r ∧ b ≠ z ∧ b ≠ g) (fun b _ hb => ⟨by omega, by omega, by omega, by omega⟩)).kept hkk (fun b _ hF h => hF.2.1 h), hb⟩
    · rw [upd_far e, nthC_set hj, if_neg e]
      exact ⟨(h3 i hi).1.kept hkk (fun b _ hF h => hF.2.1 h), (h3 i hi).2⟩
end Go.Proofs.YtclfecninhipnaaGreatDoor
namespace Go.Proofs.YtclfecninhipnaaGreatDoor
open Go.RowKit
set_option linter.unusedVariables false
set_option linter.unusedSimpArgs false

set_option maxRecDepth 100000 in
set_option maxHeartbeats 2000000 in
theorem Learn25_any (w : World) (B g r z : Nat) (l : List Cf) (h : AtAt w B g r z l) (h2 : l.length ≤ 1000) (v : Value) (c : Cf) (hv : CfV w AnyC v c) (hB : B ≤ w.heap.size) :
    Calls Tryz.prog 41 #[.pointer (some ⟨g, 0, none⟩), v] w fun e w' => e = .returned (.bool (lrnB l c)) ∧ AtAt w' B g r z (lrnL l c) ∧ Kept (fun b => b = r) w w' := by
  have HA := Lib.hid h
  have HV := Lib.hid hv
  obtain ⟨u, rfl, hns, hep, htop, hnl⟩ := hv
  obtain ⟨ua, uc, rfl, _⟩ := id hns
  have HNB := Lib.hid (And.intro hep (And.intro htop hnl))
  obtain ⟨ch, ep, ns, fr, jn⟩ := c
  simp only at HV HNB ⊢
  have HK := Lib.hid ((Kept.refl NoB w).alloc (.cells #[.int .i64 ch, .int .u64 ep, .slice ua ns.length uc, .bool fr, .int .i64 jn] 44))
  have HB0 := Lib.hid (heap_alloc_new w (.cells #[.int .i64 ch, .int .u64 ep, .slice ua ns.length uc, .bool fr, .int .i64 jn] 44))
  obtain ⟨W, hW⟩ : ∃ W, W = w.alloc (.cells #[.int .i64 ch, .int .u64 ep, .slice ua ns.length uc, .bool fr, .int .i64 jn] 44) := ⟨_, rfl⟩
  have HW := Lib.hid hW
  rw [← hW] at HK HB0
  obtain ⟨c0, c1, c2, c3, c4⟩ := cells5 HB0.out
  have HAW := Lib.hid (HA.out.no HK.out)
  have HH := Lib.hid (fun w' (hk : Kept NoB W w') => Has25_any w' B g r z l (HAW.out.no hk) ch)
  obtain ⟨cap, hb0, hcs⟩ := h.cfs
  have hgs : g < w.heap.size := heap_lt hb0
  have hrs : r < w.heap.size := by obtain ⟨cap, us, _, h1, _⟩ := h.at_; exact h1.lt
  clear hW hns hep htop hnl
  by_cases hin : 0 ≤ ch ∧ ch < l.length
  · have hp : ∃ p : Nat, ch = p ∧ p < l.length := ⟨ch.toNat, by omega, by omega⟩
    obtain ⟨p, rfl, hpl⟩ := hp
    rw [decide_eq_true hin] at HH
    obtain ⟨b, o, hbo, _, hbs, u2, e0, e1, e2, e3, e4, hns, hep, htop, hnl⟩ := hcs.at_ hpl
    injection hbo with hbo
    injection hbo with hb1 hb2 _
    subst hb1 hb2
    have HD : Hid (lrnB l ⟨p, ep, ns, fr, jn⟩ = newB (nthC l p) ⟨p, ep, ns, fr, jn⟩ ∧ (newB (nthC l p) ⟨p, ep, ns, fr, jn⟩ = true → lrnL l ⟨p, ep, ns, fr, jn⟩ = l.set p ⟨p, ep, ns, fr, jn⟩) ∧ (newB (nthC l p) ⟨p, ep, ns, fr, jn⟩ = false → lrnL l ⟨p, ep, ns, fr, jn⟩ = l)) := Lib.hid (by
      have h1 : lrnB l ⟨p, ep, ns, fr, jn⟩ = newB (nthC l p) ⟨p, ep, ns, fr, jn⟩ := by
        unfold lrnB
        rw [decide_eq_true hin, Bool.true_and]
        rfl
      refine ⟨h1, fun e => ?_, fun e => ?_⟩
      · unfold lrnL; rw [h1, e, if_pos rfl]; rfl
      · unfold lrnL; rw [h1, e]; rfl)
    obtain ⟨y, hy⟩ : ∃ y, y = nthC l p := ⟨_, rfl⟩
    rw [← hy] at e0 e1 e3 e4 hns hep htop hnl HD
    obtain ⟨ych, yep, yns, yfr, yjn⟩ := y
    simp only [Nat.zero_add] at e0 e1 e2 e3 e4 hns hep htop hnl HD
    obtain ⟨ya, yc, rfl, _⟩ := id hns
    have HY : Hid (CfR w AnyC (.agg #[.int .i64 ych, .int .u64 yep, .slice ya yns.length yc, .bool yfr, .int .i64 yjn]) ⟨ych, yep, yns, yfr, yjn⟩) := Lib.hid ⟨_, rfl, hns.mono (fun _ _ _ => trivial), hep, htop⟩
    have HN := Lib.hid (fun w' (hk : Kept NoB W w') => Newer19 _ _ _ _ w' (HY.out.no (HK.out.trans hk (fun _ _ h => h))) (HV.out.r25.no (HK.out.trans hk (fun _ _ h => h))))
    have HCO := Lib.hid (fun w' (hk : Kept NoB W w') => CopyOf25_any w' _ _ _ (HV.out.kept (HK.out.trans hk (fun _ _ h => h)) (fun _ _ _ h => h)))
    obtain ⟨nb, hnb⟩ : ∃ nb, nb = newB ⟨ych, yep, yns, yfr, yjn⟩ ⟨p, ep, ns, fr, jn⟩ := ⟨_, rfl⟩
    rw [← hnb] at HN HD
    have d0 := cell_of_row _ _ 0 _ _ _ hb0
    obtain ⟨n, hn⟩ : ∃ n, n = l.length := ⟨_, rfl⟩
    have HPL : Hid (p < l.length) := Lib.hid hpl
    have HP5 : Hid (p * 5 + 5 ≤ l.length * 5) := Lib.hid (by omega)
    rw [← hn] at d0 hpl
    have hpl0 : (0 : Int) ≤ (p : Int) := by omega
    have hpl1 : (p : Int) < (n : Int) := by omega
    have hq1 : ¬ g = w.heap.size := by omega
    have hq2 : ¬ w.heap.size = g := by omega
    have hq3 : ¬ r = w.heap.size := by omega
    have hq4 : ¬ w.heap.size = r := by omega
    have hq5 : ¬ g = r := fun e => HA.out.rg e.symm
    have HTEN : Hid (∀ w', Kept NoB W w' → w'.cell? ⟨g, 0, none⟩ = some (.slice (some ⟨r, 0, none⟩) n cap) ∧ w'.cell? ⟨r, p * 5, none⟩ = some (.int .i64 ych) ∧ w'.cell? ⟨r, p * 5 + 1, none⟩ = some (.int .u64 yep) ∧ w'.cell? ⟨r, p * 5 + 2, none⟩ = some (.slice ya yns.length yc) ∧ w'.cell? ⟨r, p * 5 + 3, none⟩ = some (.bool yfr) ∧ w'.cell? ⟨r, p * 5 + 4, none⟩ = some (.int .i64 yjn) ∧
        w'.cell? ⟨w.heap.size, 0, none⟩ = some (.int .i64 p) ∧ w'.cell? ⟨w.heap.size, 1, none⟩ = some (.int .u64 ep) ∧ w'.cell? ⟨w.heap.size, 2, none⟩ = some (.slice ua ns.length uc) ∧ w'.cell? ⟨w.heap.size, 3, none⟩ = some (.bool fr) ∧ w'.cell? ⟨w.heap.size, 4, none⟩ = some (.int .i64 jn)) := Lib.hid (fun w' hk =>
      have hk' := HK.out.trans hk (fun _ _ h => h)
      ⟨hk'.cell (p := ⟨g, 0, none⟩) (fun h => h) d0, hk'.cell (p := ⟨r, p * 5, none⟩) (fun h => h) e0, hk'.cell (p := ⟨r, p * 5 + 1, none⟩) (fun h => h) e1, hk'.cell (p := ⟨r, p * 5 + 2, none⟩) (fun h => h) e2, hk'.cell (p := ⟨r, p * 5 + 3, none⟩) (fun h => h) e3, hk'.cell (p := ⟨r, p * 5 + 4, none⟩) (fun h => h) e4,
       hk.cell (p := ⟨w.heap.size, 0, none⟩) (fun h => h) c0, hk.cell (p := ⟨w.heap.size, 1, none⟩) (fun h => h) c1, hk.cell (p := ⟨w.heap.size, 2, none⟩) (fun h => h) c2, hk.cell (p := ⟨w.heap.size, 3, none⟩) (fun h => h) c3, hk.cell (p := ⟨w.heap.size, 4, none⟩) (fun h => h) c4⟩)
    have HTER : Hid (∀ w', Kept (fun b => b = r) W w' → w'.cell? ⟨g, 0, none⟩ = some (.slice (some ⟨r, 0, none⟩) n cap) ∧ w'.cell? ⟨w.heap.size, 0, none⟩ = some (.int .i64 p) ∧ w'.cell? ⟨w.heap.size, 1, none⟩ = some (.int .u64 ep) ∧ w'.cell? ⟨w.heap.size, 2, none⟩ = some (.slice ua ns.length uc) ∧ w'.cell? ⟨w.heap.size, 3, none⟩ = some (.bool fr) ∧ w'.cell? ⟨w.heap.size, 4, none⟩ = some (.int .i64 jn)) := Lib.hid (fun w' hk =>
      ⟨hk.cell (p := ⟨g, 0, none⟩) hq5 (HK.out.cell (p := ⟨g, 0, none⟩) (fun h => h) d0),
       hk.cell (p := ⟨w.heap.size, 0, none⟩) hq4 c0, hk.cell (p := ⟨w.heap.size, 1, none⟩) hq4 c1, hk.cell (p := ⟨w.heap.size, 2, none⟩) hq4 c2, hk.cell (p := ⟨w.heap.size, 3, none⟩) hq4 c3, hk.cell (p := ⟨w.heap.size, 4, none⟩) hq4 c4⟩)
    have HKe := Lib.hid (Kept.refl NoB W).drew
    have HT := Lib.hid (HTEN.out _ HKe.out)
    clear hnb hy h hb0 hcs hbs e0 e1 e2 e3 e4 hns hep htop hnl c0 c1 c2 c3 c4 d0 hin hn h2
    go_enter Tryz.func41, Tryz.ntmps41
    go_upto_region 1 with fail
    rw [← HW.out]
    go_region_held3 (fun w' => w'.cell? ⟨g, 0, none⟩ = some (.slice (some ⟨r, 0, none⟩) n cap) ∧ w'.cell? ⟨r, p * 5, none⟩ = some (.int .i64 ych) ∧ w'.cell? ⟨r, p * 5 + 1, none⟩ = some (.int .u64 yep) ∧ w'.cell? ⟨r, p * 5 + 2, none⟩ = some (.slice ya yns.length yc) ∧ w'.cell? ⟨r, p * 5 + 3, none⟩ = some (.bool yfr) ∧ w'.cell? ⟨r, p * 5 + 4, none⟩ = some (.int .i64 yjn) ∧
        w'.cell? ⟨w.heap.size, 0, none⟩ = some (.int .i64 p) ∧ w'.cell? ⟨w.heap.size, 1, none⟩ = some (.int .u64 ep) ∧ w'.cell? ⟨w.heap.size, 2, none⟩ = some (.slice ua ns.length uc) ∧ w'.cell? ⟨w.heap.size, 3, none⟩ = some (.bool fr) ∧ w'.cell? ⟨w.heap.size, 4, none⟩ = some (.int .i64 jn))
      (with_reducible exact HT.out)
      ((first
        | (go_at_call 69; (with_reducible refine (HH.out _ HKe.out).mono ?_); rintro e w1 ⟨rfl, rfl⟩)
        | (go_at_call 70; (with_reducible refine (HN.out _ HKe.out).mono ?_); rintro e w1 ⟨rfl, hk1⟩; replace HKe := Lib.hid (HKe.out.trans hk1 (fun _ _ h => h)); replace HT := Lib.hid (HTEN.out _ HKe.out); clear hk1)
        | fail))
    cases nb with
    | false =>
      have HE := Lib.hid (HK.out.trans HKe.out (fun _ _ h => h))
      clear HTEN HT HTER
      go_wp2
      go_ret
      exact ⟨(by rw [HD.out.1] <;> rfl), (by rw [HD.out.2.2 trivial]; exact HA.out.no HE.out), HE.out.mono (fun _ _ h => h.elim)⟩
    | true =>
      have HR0 := Lib.hid (HA.out.no (HK.out.trans HKe.out (fun _ _ h => h)))
      have H5 : Hid (∀ w', Kept NoB W w' → (∃ u, w'.cell? ⟨r, p * 5, none⟩ = some u) ∧ w'.frozen? ⟨r, p * 5, none⟩ = false ∧ (∃ u, w'.cell? ⟨r, p * 5 + 1, none⟩ = some u) ∧ w'.frozen? ⟨r, p * 5 + 1, none⟩ = false ∧ (∃ u, w'.cell? ⟨r, p * 5 + 2, none⟩ = some u) ∧ w'.frozen? ⟨r, p * 5 + 2, none⟩ = false ∧ (∃ u, w'.cell? ⟨r, p * 5 + 3, none⟩ = some u) ∧ w'.frozen? ⟨r, p * 5 + 3, none⟩ = false ∧ (∃ u, w'.cell? ⟨r, p * 5 + 4, none⟩ = some u) ∧ w'.frozen? ⟨r, p * 5 + 4, none⟩ = false) := Lib.hid (fun w' hk => by
        obtain ⟨rcap, rus, _, rrow, _⟩ := (HA.out.no (HK.out.trans hk (fun _ _ h => h))).at_
        have hp5 := HP5.out
        obtain ⟨p0, f0⟩ := rrow.cell (m := p * 5) (by omega)
        obtain ⟨p1, f1⟩ := rrow.cell (m := p * 5 + 1) (by omega)
        obtain ⟨p2, f2⟩ := rrow.cell (m := p * 5 + 2) (by omega)
        obtain ⟨p3, f3⟩ := rrow.cell (m := p * 5 + 3) (by omega)
        obtain ⟨p4, f4⟩ := rrow.cell (m := p * 5 + 4) (by omega)
        exact ⟨⟨_, p0⟩, f0, ⟨_, p1⟩, f1, ⟨_, p2⟩, f2, ⟨_, p3⟩, f3, ⟨_, p4⟩, f4⟩)
      clear HT HTEN
      replace HKe := Lib.hid HKe.out.drew
      have HT := Lib.hid (HTER.out _ (HKe.out.mono (fun _ _ h => h.elim)))
      go_wp2_with fail
      go_region_held3 (fun w' => w'.cell? ⟨g, 0, none⟩ = some (.slice (some ⟨r, 0, none⟩) n cap) ∧ w'.cell? ⟨w.heap.size, 0, none⟩ = some (.int .i64 p) ∧ w'.cell? ⟨w.heap.size, 1, none⟩ = some (.int .u64 ep) ∧ w'.cell? ⟨w.heap.size, 2, none⟩ = some (.slice ua ns.length uc) ∧ w'.cell? ⟨w.heap.size, 3, none⟩ = some (.bool fr) ∧ w'.cell? ⟨w.heap.size, 4, none⟩ = some (.int .i64 jn))
        (first | (with_reducible exact HT.out) | exact HTS.out | fail)
        ((first
          | (go_at_call 56; (with_reducible refine (HCO.out _ HKe.out).mono ?_); rintro e w2 ⟨v2, rfl, hv2, hk2⟩; have hsz := (HK.out.trans HKe.out (fun _ _ h => h)).size; replace HKe := Lib.hid (HKe.out.trans hk2 (fun _ _ h => h)); replace HT := Lib.hid (HTER.out _ (HKe.out.mono (fun _ _ h => h.elim))); obtain ⟨u2, rfl, hn2, hb2⟩ := hv2; have HN2 := Lib.hid (hn2.mono (G := fun b => w.heap.size ≤ b ∧ b < w2.heap.size) (fun k _ h => ⟨Nat.le_trans hsz h.1, h.2.1⟩)); obtain ⟨va, vc, rfl, _⟩ := hn2; have HTS := Lib.hid (HTER.out _ (((HKe.out.mono (T := fun b => b = r) (fun _ _ h => h.elim)).five25o (b := r) (.inl rfl) (p * 5) (.int .i64 p) (.int .u64 ep) (.slice va ns.length vc) (.bool fr) (.int .i64 jn)))); clear hk2 hb2; obtain ⟨⟨u0, p0⟩, f0, ⟨u1, p1⟩, f1, ⟨u2, p2⟩, f2, ⟨u3, p3⟩, f3, ⟨u4, p4⟩, f4⟩ := H5.out _ HKe.out)
          | fail))
      have HPT := Lib.hid (HA.out.put25 HPL.out ⟨p, ep, ns, fr, jn⟩ (.slice va ns.length vc) (HK.out.trans HKe.out (fun _ _ h => h)) HN2.out HNB.out hB)
      clear HT HTS HTER p0 p1 p2 p3 p4 f0 f1 f2 f3 f4
      go_wp2
      go_ret
      exact ⟨(by rw [HD.out.1] <;> rfl), (by rw [HD.out.2.1 trivial]; exact HPT.out.1), HPT.out.2⟩
  · rw [decide_eq_false hin] at HH
    have HD : Hid (lrnB l ⟨ch, ep, ns, fr, jn⟩ = false ∧ lrnL l ⟨ch, ep, ns, fr, jn⟩ = l) := Lib.hid (by
      have : lrnB l ⟨ch, ep, ns, fr, jn⟩ = false := by unfold lrnB; rw [decide_eq_false hin]; rfl
      exact ⟨this, by unfold lrnL; rw [this]; rfl⟩)
    clear hin h hb0 hcs hgs
    go_enter Tryz.func41, Tryz.ntmps41
    go_upto_region 1 with fail
    rw [← HW.out]
    go_quiet (first | (go_at_call 69; refine Calls.quiet_of_same ((HH.out _ ((Kept.refl NoB W).drewN _)).mono (by rintro e w6 ⟨rfl, rfl⟩; exact ⟨rfl, rfl⟩))) | fail)
    have hk := HK.out.trans ((Kept.refl NoB W).drewN nq) (fun _ _ h => h)
    go_wp2
    go_ret
    exact ⟨(by rw [HD.out.1] <;> rfl), (by rw [HD.out.2]; exact HA.out.no hk), hk.mono (fun _ _ h => h.elim)⟩
end Go.Proofs.YtclfecninhipnaaGreatDoor
namespace Go.Proofs.YtclfecninhipnaaGreatDoor
open Go.RowKit
set_option linter.unusedVariables false
set_option linter.unusedSimpArgs false

theorem own25 {w : World} {base n : Nat} {v : Value} {l : List Cf} {us : Nat → Value} (h : w.ownsRow base 44 5 v (0 + n) ([] ++ cellsC l us)) (hn : n = l.length) (h1 : 1 ≤ n) : ∃ g cp, v = .slice (some ⟨g, 0, none⟩) n cp ∧ base ≤ g ∧ RowC w g cp l us := by
  subst hn
  rw [Nat.zero_add, List.nil_append] at h
  rcases h.2 with ⟨_, h0⟩ | ⟨g, c, cur, rfl, hb, hr, hc, hm, hs, ht⟩
  · omega
  · exact ⟨g, c, rfl, hb, (row_of_own h).1⟩
end Go.Proofs.YtclfecninhipnaaGreatDoor
namespace Go.Proofs.YtclfecninhipnaaGreatDoor
open Go.RowKit
set_option linter.unusedVariables false
set_option linter.unusedSimpArgs false

theorem ex25_all : allB (begC 2 3) = true := by decide
theorem ex25_x : begX 2 3 = 0 := by decide
theorem ex25_len : (begC 2 3).length = 2 := by decide
theorem ex25_plc : plc25 1 (begC 2 3) = 1 := by decide
theorem ex25_head : headN (nthC (begC 2 3) 1) = 4 := by decide
theorem ex25_read : readN (nthC (begC 2 3) 1) 4 = 5 := by decide
theorem CfsAt.r25 {w : World} {F : Nat → Prop} {v : Value} {l : List Cf} (h : CfsAt w F v l) : CfsR w F v l := by
  obtain ⟨a, cap, h1, h2, h3, h4, h5⟩ := h
  refine ⟨a, cap, h1, h2, h3, h4, fun hp => ?_⟩
  obtain ⟨b, o, ha, hF, hb, hc⟩ := h5 hp
  refine ⟨b, o, ha, hF, hb, fun j hj => ?_⟩
  obtain ⟨u, e0, e1, e2, e3, e4, hn, q0, q1, _⟩ := hc j hj
  exact ⟨u, e0, e1, e2, e3, e4, hn, q0, q1⟩
end Go.Proofs.YtclfecninhipnaaGreatDoor
