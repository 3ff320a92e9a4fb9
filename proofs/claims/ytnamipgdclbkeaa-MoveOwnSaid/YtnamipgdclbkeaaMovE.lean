/-
  A picture that is taken in: plainly and in memory; Begin, Wants, Held, Take.
-/
import Derived.Test.YtnamipgdclbkeaaMovD
import Derived.Deep.CutRange
import Derived.Laws.AppendOwn
namespace Go.Proofs.Ytnamipgdclbkeaa
open Go.RowKit Go.Shelf
set_option linter.unusedVariables false

/-- What was taken in: the picture's number, how many parts it has, and those that came. -/
structure Rm where
  q : Nat
  n : Int
  L : List (List Int)
/-- A part that does not fit. -/
def badM (r : Rm) (q : Nat) (part parts : Int) (b : List Int) : Prop := part < 0 ∨ parts ≤ part ∨ 1024 < b.length ∨ q < r.q
instance (r : Rm) (q : Nat) (part parts : Int) (b : List Int) : Decidable (badM r q part parts b) := by unfold badM; infer_instance
/-- Of which picture the parts are, when one comes. -/
def aimM (r : Rm) (q : Nat) (parts : Int) : Rm := if r.q < q ∨ (r.L ≠ [] ∧ r.n ≠ parts) then ⟨q, 0, []⟩ else r
def takeM (r : Rm) (q : Nat) (part parts : Int) (b : List Int) : Rm × List Int × Bool :=
  if badM r q part parts b then (r, [], false)
  else if part ≠ ((aimM r q parts).L.length : Int) then (aimM r q parts, [], false)
  else if ((aimM r q parts).L.length : Int) + 1 < parts then (⟨q, parts, (aimM r q parts).L ++ [b]⟩, [], false)
  else (⟨q, 0, []⟩, ((aimM r q parts).L ++ [b]).flatten, true)

/-- The blocks of a picture that is taken in: its own, and its row of bytes. -/
def FtI (g : Nat) (a : Option Addr) (n c : Nat) (k : Nat) : Prop := k = g ∨ some k = (Value.slice a n c).ownBlock
/-- It lies at block g; pp is the number of parts that the program has noted. -/
def InM (w : World) (g : Nat) (a : Option Addr) (c : Nat) (pp : Int) (r : Rm) : Prop :=
  w.heap[g]? = some (.cells #[.int .u64 r.q, .int .i64 r.L.length, .int .i64 pp, .slice a r.L.flatten.length c] 61 (0, 0)) ∧
    IsB r.L.flatten ∧ w.ownsRow 0 5 1 (.slice a r.L.flatten.length c) r.L.flatten.length (r.L.flatten.map (Value.int .u8)) ∧ (r.L ≠ [] → pp = r.n)

theorem Begin_any (w : World) : Calls Try.prog 15 #[] w fun e w' => e = .returned (.pointer (some ⟨w.heap.size, 0, none⟩)) ∧ InM w' w.heap.size none 0 0 ⟨0, 0, []⟩ ∧ w' = w.alloc (.cells #[.int .u64 0, .int .i64 0, .int .i64 0, .slice none 0 0] 61) := by
  go_enter Try.func15, Try.ntmps15
  go_wp2
  go_ret
  exact ⟨rfl, ⟨heap_alloc_new w _, IsB.nil, World.ownsRow_nil _ _ _ _, fun h => absurd rfl h⟩, rfl⟩
theorem WantsN_any (w : World) : Calls Try.prog 18 #[.pointer none] w fun e w' => e = .returned (.tuple #[.int .u64 0, .int .i64 0]) ∧ w = w' := by
  go_enter Try.func18, Try.ntmps18
  go_wp2
  go_ret2
  exact ⟨rfl, rfl⟩
theorem HeldN_any (w : World) : Calls Try.prog 19 #[.pointer none] w fun e w' => e = .returned (.int .i64 0) ∧ w = w' := by
  go_enter Try.func19, Try.ntmps19
  go_wp2
  go_ret
  exact ⟨rfl, rfl⟩
theorem TakeN_any (q : Nat) (part parts : Int) (v : Value) (w : World) : Calls Try.prog 16 #[.pointer none, .int .u64 q, .int .i64 part, .int .i64 parts, v] w fun e w' => e = .returned (.tuple #[.slice none 0 0, .bool false]) ∧ w = w' := by
  go_enter Try.func16, Try.ntmps16
  go_wp2
  go_ret2
  exact ⟨rfl, rfl⟩
theorem Wants_any (g : Nat) (a : Option Addr) (c : Nat) (pp : Int) (r : Rm) (w : World) (h : InM w g a c pp r) :
    Calls Try.prog 18 #[.pointer (some ⟨g, 0, none⟩)] w fun e w' => e = .returned (.tuple #[.int .u64 r.q, .int .i64 r.L.length]) ∧ Kept NoB w w' := by
  have q0 : w.cell? ⟨g, 0, none⟩ = some (.int .u64 r.q) := cell_of_row _ _ 0 _ _ _ h.1
  have q1 : w.cell? ⟨g, 1, none⟩ = some (.int .i64 r.L.length) := cell_of_row _ _ 1 _ _ _ h.1
  clear h
  go_enter Try.func18, Try.ntmps18
  go_wp2
  go_quiet (fail)
  go_wp2
  go_ret2
  exact ⟨rfl, (Kept.refl _ _).drewN _⟩
theorem Held_any (g : Nat) (a : Option Addr) (c : Nat) (pp : Int) (r : Rm) (w : World) (h : InM w g a c pp r) :
    Calls Try.prog 19 #[.pointer (some ⟨g, 0, none⟩)] w fun e w' => e = .returned (.int .i64 r.L.flatten.length) ∧ w = w' := by
  have q1 : w.cell? ⟨g, 3, none⟩ = some (.slice a r.L.flatten.length c) := cell_of_row _ _ 3 _ _ _ h.1
  obtain ⟨m, hm⟩ : ∃ m, m = r.L.flatten.length := ⟨_, rfl⟩
  rw [← hm] at q1 ⊢
  clear h hm
  go_enter Try.func19, Try.ntmps19
  go_wp2
  go_ret
  exact ⟨rfl, rfl⟩

set_option maxRecDepth 100000 in
theorem Take_bad (g : Nat) (a : Option Addr) (c : Nat) (pp : Int) (r : Rm) (q : Nat) (part parts : Int) (v : Value) (b : List Int) (F : Nat → Prop) (w : World) (h : InM w g a c pp r) (hb : BSl w F v b) (hbad : badM r q part parts b) (hbl : b.length ≤ 9223372036854775807) :
    Calls Try.prog 16 #[.pointer (some ⟨g, 0, none⟩), .int .u64 q, .int .i64 part, .int .i64 parts, v] w fun e w' => e = .returned (.tuple #[.slice none 0 0, .bool false]) ∧ w = w' := by
  have q0 : w.cell? ⟨g, 0, none⟩ = some (.int .u64 r.q) := cell_of_row _ _ 0 _ _ _ h.1
  obtain ⟨va, vc, rfl, _⟩ := hb
  obtain ⟨rq, hrq⟩ : ∃ rq, rq = r.q := ⟨_, rfl⟩
  unfold badM at hbad
  rw [← hrq] at q0 hbad
  clear h hrq
  by_cases h1 : part < 0
  · have d1 : decide (part < 0) = true := decide_eq_true h1
    clear hbad
    go_enter Try.func16, Try.ntmps16
    go_wp2
    go_ret2
    exact ⟨rfl, rfl⟩
  · have d1 : decide (part < 0) = false := decide_eq_false h1
    by_cases h2 : parts ≤ part
    · have d2 : decide (parts ≤ part) = true := decide_eq_true h2
      clear hbad
      go_enter Try.func16, Try.ntmps16
      go_wp2
      go_ret2
      exact ⟨rfl, rfl⟩
    · have d2 : decide (parts ≤ part) = false := decide_eq_false h2
      by_cases h3 : (1024 : Int) < b.length
      · have d3 : decide ((1024 : Int) < b.length) = true := decide_eq_true h3
        clear hbad
        go_enter Try.func16, Try.ntmps16
        go_wp2
        go_ret2
        exact ⟨rfl, rfl⟩
      · have d3 : decide ((1024 : Int) < b.length) = false := decide_eq_false h3
        have h4 : (q : Int) < rq := by omega
        have d4 : decide ((q : Int) < rq) = true := decide_eq_true h4
        clear hbad
        go_enter Try.func16, Try.ntmps16
        go_wp2
        go_ret2
        exact ⟨rfl, rfl⟩

/-- As InM, of plain numbers. -/
def InX (w : World) (g : Nat) (a : Option Addr) (c q n : Nat) (pp : Int) (l : List Int) : Prop :=
  w.heap[g]? = some (.cells #[.int .u64 q, .int .i64 n, .int .i64 pp, .slice a l.length c] 61 (0, 0)) ∧ IsB l ∧ w.ownsRow 0 5 1 (.slice a l.length c) l.length (l.map (Value.int .u8))
def OldRow (w : World) (a : Option Addr) (n c : Nat) (a' : Option Addr) (n' c' : Nat) : Prop := ∀ k, some k = (Value.slice a' n' c').ownBlock → some k = (Value.slice a n c).ownBlock ∨ w.heap.size ≤ k
theorem blkM_frozen {w : World} {g : Nat} {cs : Array Value} {t : TypeId} (h : w.heap[g]? = some (.cells cs t (0, 0))) (o : Nat) : w.frozen? ⟨g, o, none⟩ = false := by simp [World.frozen?, h]
theorem blkM_set {w : World} {g : Nat} {cs : Array Value} {t : TypeId} {fr : Nat × Nat} (h : w.heap[g]? = some (.cells cs t fr)) (i : Nat) (u : Value) :
    (w.setCell ⟨g, i, none⟩ u).heap[g]? = some (.cells (cs.setIfInBounds i u) t fr) := by simp [World.setCell, Array.getElem?_modify, h]
theorem kept_grownM {w w' : World} {row : Option Nat} (h : w.grownBy w' row) : Kept (fun k => some k = row) w w' := ⟨h.os, h.tape, h.output, h.size, fun k hk hn => h.block k hk hn⟩
theorem own_keptM {S : Nat → Prop} {w w' : World} {base n size : Nat} {e : TypeId} {v : Value} {xs : List Value} (h : w.ownsRow base e size v n xs) (hk : Kept S w w') (hs : ∀ k, some k = v.ownBlock → ¬ S k) : w'.ownsRow base e size v n xs := by
  refine ⟨h.1, ?_⟩
  rcases h.2 with hn | ⟨r, cap, cur, hv, hb, hh, rest⟩
  · exact .inl hn
  · exact .inr ⟨r, cap, cur, hv, hb, hk.heap (hs r (by rw [hv]; rfl)) hh, rest⟩
def four21 (w : World) (g : Nat) (x y z u : Value) : World := (((w.setCell ⟨g, 0, none⟩ x).setCell ⟨g, 1, none⟩ y).setCell ⟨g, 2, none⟩ z).setCell ⟨g, 3, none⟩ u
theorem kept_four (w : World) (g : Nat) (x y z u : Value) : Kept (fun k => k = g) w (four21 w g x y z u) :=
  ((((Kept.refl (fun k => k = g) w).setCell (p := ⟨g, 0, none⟩) (Or.inl (Eq.refl g)) _).setCell (p := ⟨g, 1, none⟩) (Or.inl (Eq.refl g)) _).setCell (p := ⟨g, 2, none⟩) (Or.inl (Eq.refl g)) _).setCell (p := ⟨g, 3, none⟩) (Or.inl (Eq.refl g)) _
theorem inX_four {w : World} {g : Nat} {x y z u : Value} (h : w.heap[g]? = some (.cells #[x, y, z, u] 61 (0, 0))) (q : Nat) (pp : Int) : InX (four21 w g (.int .u64 q) (.int .i64 0) (.int .i64 pp) (.slice none 0 0)) g none 0 q 0 pp [] := by
  refine ⟨?_, IsB.nil, World.ownsRow_nil _ _ _ _⟩
  have := blkM_set (blkM_set (blkM_set (blkM_set h 0 (.int .u64 q)) 1 (.int .i64 0)) 2 (.int .i64 pp)) 3 (.slice none 0 0)
  simpa [four21] using this
theorem inX_reset {w : World} {g : Nat} {x y z u : Value} (h : w.heap[g]? = some (.cells #[x, y, z, u] 61 (0, 0))) (q : Nat) (pp : Int) :
    InX ((((w.setCell ⟨g, 0, none⟩ (.int .u64 q)).setCell ⟨g, 1, none⟩ (.int .i64 0)).setCell ⟨g, 2, none⟩ (.int .i64 pp)).setCell ⟨g, 3, none⟩ (.slice none 0 0)) g none 0 q (([] : List (List Int)).length) pp (([] : List (List Int)).flatten) := inX_four h q pp
theorem kept_reset {w : World} {g : Nat} {a : Option Addr} {n c : Nat} (x y z u : Value) : Kept (FtI g a n c) w ((((w.setCell ⟨g, 0, none⟩ x).setCell ⟨g, 1, none⟩ y).setCell ⟨g, 2, none⟩ z).setCell ⟨g, 3, none⟩ u) := (kept_four w g x y z u).mono (fun k _ h => .inl h)
theorem in_more {w W1 w1 : World} {g q n1 y1 n c : Nat} {a a1 a' : Option Addr} {c1 c' : Nat} {pp : Int} {l1 b : List Int} (hX : InX W1 g a1 c1 q n1 pp l1) (hy : y1 = l1.length) (hb : IsB b) (hk : Kept (FtI g a n c) w W1) (ho : OldRow w a n c a1 l1.length c1)
    (hown : w1.ownsRow 0 5 1 (.slice a' (y1 + b.length) c') (y1 + b.length) ((l1 ++ b).map (Value.int .u8))) (hg : W1.grownBy w1 (Value.slice a1 y1 c1).ownBlock)
    (hat : (Value.slice a' (y1 + b.length) c').ownBlock = (Value.slice a1 y1 c1).ownBlock ∨ (Value.slice a' (y1 + b.length) c').ownBlock = some W1.heap.size) :
    InX ((w1.setCell ⟨g, 3, none⟩ (.slice a' (y1 + b.length) c')).setCell ⟨g, 1, none⟩ (.int .i64 ((n1 : Int) + 1))) g a' c' q (n1 + 1) pp (l1 ++ b) ∧ Kept (FtI g a n c) w ((w1.setCell ⟨g, 3, none⟩ (.slice a' (y1 + b.length) c')).setCell ⟨g, 1, none⟩ (.int .i64 ((n1 : Int) + 1))) ∧ OldRow w a n c a' (l1 ++ b).length c' := by
  subst hy
  have hne : ¬ some g = (Value.slice a1 l1.length c1).ownBlock := own_ne hX.2.2 hX.1 (by decide)
  have hk2 := kept_grownM hg
  have hb2 := hk2.heap hne hX.1
  have hgl := heap_lt hX.1
  have hold : ∀ k, some k = (Value.slice a' (l1.length + b.length) c').ownBlock → some k = (Value.slice a1 l1.length c1).ownBlock ∨ W1.heap.size ≤ k := by
    intro k hk
    rcases hat with e | e
    · exact .inl (hk.trans e)
    · rw [e] at hk; injection hk with hk; exact .inr (by omega)
  have hset : Kept (fun k => k = g) w1 ((w1.setCell ⟨g, 3, none⟩ (.slice a' (l1.length + b.length) c')).setCell ⟨g, 1, none⟩ (.int .i64 ((n1 : Int) + 1))) :=
    ((Kept.refl (fun k => k = g) w1).setCell (p := ⟨g, 3, none⟩) (Or.inl (Eq.refl g)) _).setCell (p := ⟨g, 1, none⟩) (Or.inl (Eq.refl g)) _
  refine ⟨⟨?_, hX.2.1.append hb, ?_⟩, ?_, ?_⟩
  · have := blkM_set (blkM_set hb2 3 (.slice a' (l1.length + b.length) c')) 1 (.int .i64 ((n1 : Int) + 1))
    simpa using this
  · rw [List.length_append]
    refine own_keptM hown hset (fun k hk3 e => ?_)
    have e : k = g := e
    rw [e] at hk3
    rcases hold _ hk3 with h | h
    · exact hne h
    · omega
  · refine (hk.trans hk2 (fun i hi e => ?_)).trans hset (fun i hi e => .inl e)
    rcases ho i e with h | h
    · exact .inr h
    · omega
  · intro k hk2'
    rw [List.length_append] at hk2'
    rcases hold k hk2' with h | h
    · exact ho k h
    · exact .inr (Nat.le_trans hk.size h)
theorem in_last {w W : World} {g q0 n c n1 : Nat} {a a' : Option Addr} {c' : Nat} {pp : Int} {l : List Int} (q : Nat) (hX : InX W g a' c' q0 n1 pp l) (hk : Kept (FtI g a n c) w W) (ho : OldRow w a n c a' l.length c') :
    InX (four21 W g (.int .u64 q) (.int .i64 0) (.int .i64 0) (.slice none 0 0)) g none 0 q 0 0 [] ∧ Kept (FtI g a n c) w (four21 W g (.int .u64 q) (.int .i64 0) (.int .i64 0) (.slice none 0 0)) ∧
      BSl (four21 W g (.int .u64 q) (.int .i64 0) (.int .i64 0) (.slice none 0 0)) (fun k => some k = (Value.slice a n c).ownBlock ∨ w.heap.size ≤ k) (.slice a' l.length c') l := by
  have hne : ¬ some g = (Value.slice a' l.length c').ownBlock := own_ne hX.2.2 hX.1 (by decide)
  refine ⟨inX_four hX.1 q 0, hk.trans (kept_four _ _ _ _ _ _) (fun i _ e => .inl e), ?_⟩
  refine (BSl.ofOwn (F := fun k => some k = (Value.slice a' l.length c').ownBlock) hX.2.2 hX.2.1 (fun k hk => hk.symm)).kept (kept_four _ _ _ _ _ _) (fun k hk e => hne (by rw [← e]; exact hk)) |>.mono (fun k _ hk => ho k hk)
theorem aimM_q {r : Rm} {q : Nat} {part parts : Int} {b : List Int} (h : ¬ badM r q part parts b) : (aimM r q parts).q = q := by
  unfold aimM
  split
  · rfl
  · unfold badM at h; omega
theorem aimM_len (r : Rm) (q : Nat) (parts : Int) : (aimM r q parts).L.flatten.length ≤ r.L.flatten.length := by
  unfold aimM; split
  · simp
  · exact Nat.le_refl _
theorem aimM_num (r : Rm) (q : Nat) (parts : Int) : (aimM r q parts).L.length ≤ r.L.length := by
  unfold aimM; split
  · simp
  · exact Nat.le_refl _
theorem aimM_same {w : World} {g : Nat} {a : Option Addr} {c : Nat} {pp : Int} {r : Rm} {q : Nat} {parts : Int} (h : InM w g a c pp r) (hp : parts = pp) (hq : (q : Int) = r.q) : aimM r q parts = r := by
  unfold aimM
  rw [if_neg]
  rintro (h1 | ⟨h1, h2⟩)
  · omega
  · exact h2 ((h.2.2.2 h1).symm.trans hp.symm)
theorem aimM_none {w : World} {g : Nat} {a : Option Addr} {c : Nat} {pp : Int} {r : Rm} {q : Nat} {part parts : Int} {b : List Int} (h : InM w g a c pp r) (hn : ¬ ((q : Int) = r.q ∧ parts = pp)) (hb : ¬ badM r q part parts b) : (aimM r q parts).L = [] := by
  unfold aimM
  split
  · rfl
  · rename_i h1
    rcases Classical.em (r.L = []) with h2 | h2
    · exact h2
    · exfalso
      apply h1
      rcases Nat.lt_or_ge r.q q with h3 | h3
      · exact .inl h3
      · refine .inr ⟨h2, fun e => hn ⟨?_, ?_⟩⟩
        · unfold badM at hb; omega
        · exact e.symm.trans (h.2.2.2 h2).symm
theorem takeM_ways {r : Rm} {q n1 : Nat} {part parts : Int} {b : List Int} (hb : ¬ badM r q part parts b) (hn : n1 = (aimM r q parts).L.length) :
    (part = n1 → (n1 : Int) + 1 < parts → takeM r q part parts b = (⟨q, parts, (aimM r q parts).L ++ [b]⟩, [], false)) ∧ (part = n1 → ¬ (n1 : Int) + 1 < parts → takeM r q part parts b = (⟨q, 0, []⟩, ((aimM r q parts).L ++ [b]).flatten, true)) ∧ (¬ part = n1 → takeM r q part parts b = (aimM r q parts, [], false)) := by
  subst hn
  refine ⟨fun h1 h2 => ?_, fun h1 h2 => ?_, fun h1 => ?_⟩
  · unfold takeM; rw [if_neg hb, if_neg (fun h => h h1), if_pos h2]
  · unfold takeM; rw [if_neg hb, if_neg (fun h => h h1), if_neg h2]
  · unfold takeM; rw [if_neg hb, if_pos h1]
theorem inM_more {w : World} {g : Nat} {a : Option Addr} {c q n1 : Nat} {parts : Int} {R : Rm} {l1 b : List Int} (h : R.q = q ∧ l1 = R.L.flatten ∧ n1 = R.L.length) (hX : InX w g a c q (n1 + 1) parts (l1 ++ b)) : InM w g a c parts ⟨q, parts, R.L ++ [b]⟩ := by
  obtain ⟨h1, rfl, rfl⟩ := h
  obtain ⟨x1, x2, x3⟩ := hX
  refine ⟨by simpa using x1, by simpa using x2, by simpa using x3, fun _ => rfl⟩
theorem inM_none {w : World} {g : Nat} {a : Option Addr} {c q : Nat} (hX : InX w g a c q 0 0 []) : InM w g a c 0 ⟨q, 0, []⟩ := ⟨hX.1, hX.2.1, hX.2.2, fun h => absurd rfl h⟩
theorem inM_aim {w : World} {g : Nat} {a : Option Addr} {c q n1 : Nat} {parts : Int} {R : Rm} {l1 : List Int} (h : R.q = q ∧ l1 = R.L.flatten ∧ n1 = R.L.length) (hp : R.L ≠ [] → R.n = parts) (hX : InX w g a c q n1 parts l1) : InM w g a c parts R := by
  obtain ⟨rfl, rfl, rfl⟩ := h
  exact ⟨hX.1, hX.2.1, hX.2.2, fun h => (hp h).symm⟩

theorem old_more {w : World} {a a' : Option Addr} {n c c' : Nat} {l1 b : List Int} {L : List (List Int)} (h : l1 = L.flatten) (u : OldRow w a n c a' (l1 ++ b).length c') : ∀ k, some k = (Value.slice a' (L ++ [b]).flatten.length c').ownBlock → some k = (Value.slice a n c).ownBlock ∨ w.heap.size ≤ k := by
  subst h
  simpa [OldRow] using u
theorem bsl_last {w : World} {F : Nat → Prop} {a : Option Addr} {c y1 : Nat} {l1 b : List Int} {L : List (List Int)} (h : l1 = L.flatten) (hy : y1 = l1.length) (u : BSl w F (.slice a (l1 ++ b).length c) (l1 ++ b)) : BSl w F (.slice a (y1 + b.length) c) (L ++ [b]).flatten := by
  subst h hy
  simpa using u
/-- What Take leaves, where the part fits. -/
def TakeP (w : World) (g : Nat) (a : Option Addr) (c : Nat) (r : Rm) (q : Nat) (part parts : Int) (b : List Int) (e : Ending) (w' : World) : Prop :=
  ∃ a' c' u, e = .returned (.tuple #[u, .bool (takeM r q part parts b).2.2]) ∧ BSl w' (fun k => some k = (Value.slice a r.L.flatten.length c).ownBlock ∨ w.heap.size ≤ k) u (takeM r q part parts b).2.1 ∧
        (∃ pp', InM w' g a' c' pp' (takeM r q part parts b).1) ∧ (∀ k, some k = (Value.slice a' (takeM r q part parts b).1.L.flatten.length c').ownBlock → some k = (Value.slice a r.L.flatten.length c).ownBlock ∨ w.heap.size ≤ k) ∧ Kept (FtI g a r.L.flatten.length c) w w'
set_option maxRecDepth 100000 in
theorem Take_good (g : Nat) (a : Option Addr) (c : Nat) (pp : Int) (r : Rm) (q : Nat) (part parts : Int) (v : Value) (b : List Int) (F : Nat → Prop) (w : World) (h : InM w g a c pp r) (hb : BSl w F v b) (hF : ∀ k, F k → ¬ FtI g a r.L.flatten.length c k) (hbad : ¬ badM r q part parts b) (hq : q < 18446744073709551616) (hL : r.L.length ≤ 100000) (hz : r.L.flatten.length ≤ 100000000) :
    Calls Try.prog 16 #[.pointer (some ⟨g, 0, none⟩), .int .u64 q, .int .i64 part, .int .i64 parts, v] w (TakeP w g a c r q part parts b) := by
  have hr1 : (q : Int) = r.q ∨ r.q < q := by unfold badM at hbad; omega
  have d1 : decide (part < 0) = false := decide_eq_false (by unfold badM at hbad; omega)
  have d2 : decide (parts ≤ part) = false := decide_eq_false (by unfold badM at hbad; omega)
  have d3 : decide ((1024 : Int) < b.length) = false := decide_eq_false (by unfold badM at hbad; omega)
  have d4 : decide ((q : Int) < r.q) = false := decide_eq_false (by unfold badM at hbad; omega)
  obtain ⟨va, vc, rfl, _⟩ := id hb
  have q0 : w.cell? ⟨g, 0, none⟩ = some (.int .u64 r.q) := cell_of_row _ _ 0 _ _ _ h.1
  have q1 : w.cell? ⟨g, 1, none⟩ = some (.int .i64 r.L.length) := cell_of_row _ _ 1 _ _ _ h.1
  have q2 : w.cell? ⟨g, 2, none⟩ = some (.int .i64 pp) := cell_of_row _ _ 2 _ _ _ h.1
  have q3 : w.cell? ⟨g, 3, none⟩ = some (.slice a r.L.flatten.length c) := cell_of_row _ _ 3 _ _ _ h.1
  have z0 : w.frozen? ⟨g, 0, none⟩ = false := by simp [World.frozen?, h.1]
  have z1 : w.frozen? ⟨g, 1, none⟩ = false := by simp [World.frozen?, h.1]
  have z2 : w.frozen? ⟨g, 2, none⟩ = false := by simp [World.frozen?, h.1]
  have z3 : w.frozen? ⟨g, 3, none⟩ = false := by simp [World.frozen?, h.1]
  have HI := Lib.hid h
  have HBS := Lib.hid hb
  have HBD := Lib.hid hbad
  have HFF := Lib.hid hF
  have HB10 := Lib.hid (show b.length ≤ 1024 by unfold badM at hbad; omega)
  obtain ⟨rq, hrq⟩ : ∃ rq, rq = r.q := ⟨_, rfl⟩
  obtain ⟨rl, hrl⟩ : ∃ rl, rl = r.L.length := ⟨_, rfl⟩
  obtain ⟨rz, hrz⟩ : ∃ rz, rz = r.L.flatten.length := ⟨_, rfl⟩
  rw [← hrq] at q0 d4 hr1
  rw [← hrl] at q1
  rw [← hrz] at q3
  have HRQ := Lib.hid hrq
  have HRL := Lib.hid hrl
  have HRZ := Lib.hid hrz
  clear h hb hbad hF hrq hrl hrz
  -- THE WAYS
  -- THE WAYS
  -- THE WAYS
  -- THE WAYS
  -- THE WAYS
  -- THE WAYS
  by_cases hre : (q : Int) = rq ∧ parts = pp
  · obtain rfl : q = rq := by have := hre.1; omega
    have dq : ((q : Int) != q) = false := by simp
    have dp : (parts != pp) = false := by simp [hre.2]
    have hA : aimM r q parts = r := aimM_same (q := q) HI.out hre.2 (by rw [← HRQ.out])
    have HPP := Lib.hid (show (aimM r q parts).L ≠ [] → (aimM r q parts).n = parts from by rw [hA]; exact fun h => (HI.out.2.2.2 h).symm.trans hre.2.symm)
    obtain ⟨n1, hn1⟩ : ∃ n1, n1 = (aimM r q parts).L.length := ⟨_, rfl⟩
    obtain ⟨l1, hl1⟩ : ∃ l1, l1 = (aimM r q parts).L.flatten := ⟨_, rfl⟩
    have HQL := Lib.hid (show (aimM r q parts).q = q ∧ l1 = (aimM r q parts).L.flatten ∧ n1 = (aimM r q parts).L.length from ⟨aimM_q HBD.out, hl1, hn1⟩)
    have HTK := Lib.hid (takeM_ways HBD.out hn1)
    have HL1 := Lib.hid (show l1.length ≤ 100000000 by rw [hl1]; exact Nat.le_trans (aimM_len r q parts) hz)
    have hn1L : n1 ≤ 100000 := by rw [hn1]; exact Nat.le_trans (aimM_num r q parts) hL
    obtain ⟨a1, ha1⟩ : ∃ a1, a1 = a := ⟨_, rfl⟩
    obtain ⟨c1, hc1⟩ : ∃ c1, c1 = c := ⟨_, rfl⟩
    have HX : Hid (InX w g a1 c1 q n1 parts l1) := Lib.hid (by rw [ha1, hc1, hn1, hl1, hA, hre.2, show q = r.q from HRQ.out]; exact ⟨HI.out.1, HI.out.2.1, HI.out.2.2.1⟩)
    have HKA := Lib.hid (Kept.refl (FtI g a r.L.flatten.length c) w)
    have HOB : Hid (OldRow w a r.L.flatten.length c a1 l1.length c1) := Lib.hid (by rw [ha1, hc1, hl1, hA]; exact fun k hk => .inl hk)
    clear hn1 hl1 ha1 hc1 hA hre q1 q3 z0 z1 z2 z3 hr1
    go_enter Try.func16, Try.ntmps16
    go_upto_region 5 with fail
    have p1 : w.cell? ⟨g, 1, none⟩ = some (.int .i64 n1) := cell_of_row _ _ 1 _ _ _ HX.out.1
    have p3 : w.cell? ⟨g, 3, none⟩ = some (.slice a1 l1.length c1) := cell_of_row _ _ 3 _ _ _ HX.out.1
    have z3 : w.frozen? ⟨g, 3, none⟩ = false := blkM_frozen HX.out.1 3
    have hown1 := Lib.hid HX.out.2.2
    obtain ⟨y1, hy1⟩ : ∃ y1, y1 = l1.length := ⟨_, rfl⟩
    have hy2 : y1 ≤ 100000000 := by rw [hy1]; exact HL1.out
    rw [← hy1] at p3 hown1
    have HY1 := Lib.hid hy1
    clear hy1
    by_cases hp : part = n1
    · have dpn : (part != (n1 : Int)) = false := by simp [hp]
      have HP := Lib.hid hp
      clear hp
      have hne3 : ¬ some g = (Value.slice a1 y1 c1).ownBlock := by rw [HY1.out]; exact own_ne HX.out.2.2 HX.out.1 (by decide)
      have HBW : Hid (BSl w F (.slice va b.length vc) b) := Lib.hid (HBS.out.kept HKA.out (fun k hk h => HFF.out k hk h))
      obtain ⟨i0, hi0, hz0, hz1, hz2⟩ := info_parts Try.info5
      have hbl : b.length ≤ 1024 := HB10.out
      by_cases hlt : (n1 : Int) + 1 < parts
      · have dlt : decide ((n1 : Int) + 1 < parts) = true := decide_eq_true hlt
        go_wp2_with (at_builtin; refine wpList_append_bsl _ rfl (.tmp 66) (.tmp 67) _ rfl 5 i0 _ Try.underlying23 hi0 hz0 hz1 hz2 rfl (.slice a1 y1 c1) y1 l1 rfl hown1.out F _ b rfl HBW.out (by omega) ?_; intro a' c' w1 hown2 hg2 hat2; have hk2 := kept_grownM hg2; have hb2 := hk2.heap hne3 HX.out.1; have x0 : w1.cell? ⟨g, 0, none⟩ = some (.int .u64 q) := cell_of_row _ _ 0 _ _ _ hb2; have x1 : w1.cell? ⟨g, 1, none⟩ = some (.int .i64 n1) := cell_of_row _ _ 1 _ _ _ hb2; have x2 : w1.cell? ⟨g, 2, none⟩ = some (.int .i64 parts) := cell_of_row _ _ 2 _ _ _ hb2; have x3 : w1.cell? ⟨g, 3, none⟩ = some (.slice a1 l1.length c1) := cell_of_row _ _ 3 _ _ _ hb2; have f0 := blkM_frozen hb2 0; have f1 := blkM_frozen hb2 1; have f2 := blkM_frozen hb2 2; have f3 := blkM_frozen hb2 3; have HOW2 := Lib.hid hown2; have HG2 := Lib.hid hg2; have HAT2 := Lib.hid hat2; clear hown2 hg2 hat2 hk2 hb2)
        go_ret2
        unfold TakeP
        rw [(HTK.out.1 HP.out hlt)]
        obtain ⟨u1, u2, u3⟩ := in_more HX.out HY1.out HBW.out.isB HKA.out HOB.out HOW2.out HG2.out HAT2.out
        exact ⟨a', c', _, rfl, BSl.nil _ _, ⟨parts, inM_more HQL.out u1⟩, old_more HQL.out.2.1 u3, u2⟩
      · have dlt : decide ((n1 : Int) + 1 < parts) = false := decide_eq_false hlt
        go_wp2_with (at_builtin; refine wpList_append_bsl _ rfl (.tmp 66) (.tmp 67) _ rfl 5 i0 _ Try.underlying23 hi0 hz0 hz1 hz2 rfl (.slice a1 y1 c1) y1 l1 rfl hown1.out F _ b rfl HBW.out (by omega) ?_; intro a' c' w1 hown2 hg2 hat2; have hk2 := kept_grownM hg2; have hb2 := hk2.heap hne3 HX.out.1; have x0 : w1.cell? ⟨g, 0, none⟩ = some (.int .u64 q) := cell_of_row _ _ 0 _ _ _ hb2; have x1 : w1.cell? ⟨g, 1, none⟩ = some (.int .i64 n1) := cell_of_row _ _ 1 _ _ _ hb2; have x2 : w1.cell? ⟨g, 2, none⟩ = some (.int .i64 parts) := cell_of_row _ _ 2 _ _ _ hb2; have x3 : w1.cell? ⟨g, 3, none⟩ = some (.slice a1 l1.length c1) := cell_of_row _ _ 3 _ _ _ hb2; have f0 := blkM_frozen hb2 0; have f1 := blkM_frozen hb2 1; have f2 := blkM_frozen hb2 2; have f3 := blkM_frozen hb2 3; have HOW2 := Lib.hid hown2; have HG2 := Lib.hid hg2; have HAT2 := Lib.hid hat2; clear hown2 hg2 hat2 hk2 hb2)
        go_ret2
        unfold TakeP
        rw [(HTK.out.2.1 HP.out hlt)]
        obtain ⟨u1, u2, u3⟩ := in_more HX.out HY1.out HBW.out.isB HKA.out HOB.out HOW2.out HG2.out HAT2.out
        obtain ⟨x1, x2, x3⟩ := in_last q u1 u2 u3
        exact ⟨none, 0, _, rfl, bsl_last HQL.out.2.1 HY1.out x3, ⟨0, inM_none x1⟩, fun k hk => by simp [Value.ownBlock] at hk, x2⟩
    · have dpn : (part != (n1 : Int)) = true := by simpa using hp
      have HP := Lib.hid hp
      clear hp
      go_wp2
      go_ret2
      unfold TakeP
      rw [HTK.out.2.2 HP.out]
      exact ⟨a1, c1, _, rfl, BSl.nil _ _, ⟨parts, inM_aim HQL.out HPP.out HX.out⟩, by rw [HQL.out.2.1] at HOB; exact HOB.out, HKA.out⟩
  · by_cases hqq : (q : Int) = rq
    · obtain rfl : q = rq := by omega
      have dq : ((q : Int) != q) = false := by simp
      have dp : (parts != pp) = true := by simp; intro h; exact hre ⟨hqq, h⟩
      clear hqq
      have hA : (aimM r q parts).L = [] := aimM_none (q := q) HI.out (by rw [← HRQ.out]; omega) HBD.out
      have HPP := Lib.hid (show (aimM r q parts).L ≠ [] → (aimM r q parts).n = parts from fun h => absurd hA h)
      obtain ⟨n1, hn1⟩ : ∃ n1, n1 = (aimM r q parts).L.length := ⟨_, rfl⟩
      obtain ⟨l1, hl1⟩ : ∃ l1, l1 = (aimM r q parts).L.flatten := ⟨_, rfl⟩
      have HQL := Lib.hid (show (aimM r q parts).q = q ∧ l1 = (aimM r q parts).L.flatten ∧ n1 = (aimM r q parts).L.length from ⟨aimM_q HBD.out, hl1, hn1⟩)
      have HTK := Lib.hid (takeM_ways HBD.out hn1)
      have HL1 := Lib.hid (show l1.length ≤ 100000000 by rw [hl1]; exact Nat.le_trans (aimM_len r q parts) hz)
      have hn1L : n1 ≤ 100000 := by rw [hn1]; exact Nat.le_trans (aimM_num r q parts) hL
      obtain ⟨a1, ha1⟩ : ∃ a1 : Option Addr, a1 = none := ⟨_, rfl⟩
      obtain ⟨c1, hc1⟩ : ∃ c1, c1 = 0 := ⟨_, rfl⟩
      obtain ⟨W1, hW1⟩ : ∃ W1, W1 = ((((w.setCell ⟨g, 0, none⟩ (.int .u64 q)).setCell ⟨g, 1, none⟩ (.int .i64 0)).setCell ⟨g, 2, none⟩ (.int .i64 parts)).setCell ⟨g, 3, none⟩ (.slice none 0 0)) := ⟨_, rfl⟩
      have HX : Hid (InX W1 g a1 c1 q n1 parts l1) := Lib.hid (by rw [ha1, hc1, hn1, hl1, hA, hW1]; exact inX_reset HI.out.1 q parts)
      have HKA : Hid (Kept (FtI g a r.L.flatten.length c) w W1) := Lib.hid (by rw [hW1]; exact kept_reset _ _ _ _)
      have HOB : Hid (OldRow w a r.L.flatten.length c a1 l1.length c1) := Lib.hid (by rw [ha1, hc1]; intro k hk; simp [Value.ownBlock] at hk)
      have HW1 := Lib.hid hW1
      have HA1 := Lib.hid (And.intro ha1 (And.intro hc1 (show l1 = [] by rw [hl1, hA]; rfl)))
      have hn0 : n1 = 0 := by rw [hn1, hA]; rfl
      clear hn1 hl1 ha1 hc1 hA hW1 hr1 hre
      go_enter Try.func16, Try.ntmps16
      go_upto_region 5 with fail
      rw [← HW1.out]
      clear z0 z1 z2 z3 q0 q1 q2 q3 hn0
      have p1 : W1.cell? ⟨g, 1, none⟩ = some (.int .i64 n1) := cell_of_row _ _ 1 _ _ _ HX.out.1
      have p3 : W1.cell? ⟨g, 3, none⟩ = some (.slice a1 l1.length c1) := cell_of_row _ _ 3 _ _ _ HX.out.1
      have z3 : W1.frozen? ⟨g, 3, none⟩ = false := blkM_frozen HX.out.1 3
      have hown1 := Lib.hid HX.out.2.2
      obtain ⟨y1, hy1⟩ : ∃ y1, y1 = l1.length := ⟨_, rfl⟩
      have hy2 : y1 ≤ 100000000 := by rw [hy1]; exact HL1.out
      rw [← hy1] at p3 hown1
      have HY1 := Lib.hid hy1
      clear hy1
      by_cases hp : part = n1
      · have dpn : (part != (n1 : Int)) = false := by simp [hp]
        have HP := Lib.hid hp
        clear hp
        have hne3 : ¬ some g = (Value.slice a1 y1 c1).ownBlock := by rw [HY1.out]; exact own_ne HX.out.2.2 HX.out.1 (by decide)
        have HBW : Hid (BSl W1 F (.slice va b.length vc) b) := Lib.hid (HBS.out.kept HKA.out (fun k hk h => HFF.out k hk h))
        obtain ⟨i0, hi0, hz0, hz1, hz2⟩ := info_parts Try.info5
        have hbl : b.length ≤ 1024 := HB10.out
        by_cases hlt : (n1 : Int) + 1 < parts
        · have dlt : decide ((n1 : Int) + 1 < parts) = true := decide_eq_true hlt
          go_wp2_with (at_builtin; refine wpList_append_bsl _ rfl (.tmp 66) (.tmp 67) _ rfl 5 i0 _ Try.underlying23 hi0 hz0 hz1 hz2 rfl (.slice a1 y1 c1) y1 l1 rfl hown1.out F _ b rfl HBW.out (by omega) ?_; intro a' c' w1 hown2 hg2 hat2; have hk2 := kept_grownM hg2; have hb2 := hk2.heap hne3 HX.out.1; have x0 : w1.cell? ⟨g, 0, none⟩ = some (.int .u64 q) := cell_of_row _ _ 0 _ _ _ hb2; have x1 : w1.cell? ⟨g, 1, none⟩ = some (.int .i64 n1) := cell_of_row _ _ 1 _ _ _ hb2; have x2 : w1.cell? ⟨g, 2, none⟩ = some (.int .i64 parts) := cell_of_row _ _ 2 _ _ _ hb2; have x3 : w1.cell? ⟨g, 3, none⟩ = some (.slice a1 l1.length c1) := cell_of_row _ _ 3 _ _ _ hb2; have f0 := blkM_frozen hb2 0; have f1 := blkM_frozen hb2 1; have f2 := blkM_frozen hb2 2; have f3 := blkM_frozen hb2 3; have HOW2 := Lib.hid hown2; have HG2 := Lib.hid hg2; have HAT2 := Lib.hid hat2; clear hown2 hg2 hat2 hk2 hb2)
          go_ret2
          unfold TakeP
          rw [(HTK.out.1 HP.out hlt)]
          obtain ⟨u1, u2, u3⟩ := in_more HX.out HY1.out HBW.out.isB HKA.out HOB.out HOW2.out HG2.out HAT2.out
          exact ⟨a', c', _, rfl, BSl.nil _ _, ⟨parts, inM_more HQL.out u1⟩, old_more HQL.out.2.1 u3, u2⟩
        · have dlt : decide ((n1 : Int) + 1 < parts) = false := decide_eq_false hlt
          go_wp2_with (at_builtin; refine wpList_append_bsl _ rfl (.tmp 66) (.tmp 67) _ rfl 5 i0 _ Try.underlying23 hi0 hz0 hz1 hz2 rfl (.slice a1 y1 c1) y1 l1 rfl hown1.out F _ b rfl HBW.out (by omega) ?_; intro a' c' w1 hown2 hg2 hat2; have hk2 := kept_grownM hg2; have hb2 := hk2.heap hne3 HX.out.1; have x0 : w1.cell? ⟨g, 0, none⟩ = some (.int .u64 q) := cell_of_row _ _ 0 _ _ _ hb2; have x1 : w1.cell? ⟨g, 1, none⟩ = some (.int .i64 n1) := cell_of_row _ _ 1 _ _ _ hb2; have x2 : w1.cell? ⟨g, 2, none⟩ = some (.int .i64 parts) := cell_of_row _ _ 2 _ _ _ hb2; have x3 : w1.cell? ⟨g, 3, none⟩ = some (.slice a1 l1.length c1) := cell_of_row _ _ 3 _ _ _ hb2; have f0 := blkM_frozen hb2 0; have f1 := blkM_frozen hb2 1; have f2 := blkM_frozen hb2 2; have f3 := blkM_frozen hb2 3; have HOW2 := Lib.hid hown2; have HG2 := Lib.hid hg2; have HAT2 := Lib.hid hat2; clear hown2 hg2 hat2 hk2 hb2)
          go_ret2
          unfold TakeP
          rw [(HTK.out.2.1 HP.out hlt)]
          obtain ⟨u1, u2, u3⟩ := in_more HX.out HY1.out HBW.out.isB HKA.out HOB.out HOW2.out HG2.out HAT2.out
          obtain ⟨x1, x2, x3⟩ := in_last q u1 u2 u3
          exact ⟨none, 0, _, rfl, bsl_last HQL.out.2.1 HY1.out x3, ⟨0, inM_none x1⟩, fun k hk => by simp [Value.ownBlock] at hk, x2⟩
      · have dpn : (part != (n1 : Int)) = true := by simpa using hp
        have HP := Lib.hid hp
        clear hp
        go_wp2
        go_ret2
        unfold TakeP
        rw [HTK.out.2.2 HP.out]
        exact ⟨a1, c1, _, rfl, BSl.nil _ _, ⟨parts, inM_aim HQL.out HPP.out HX.out⟩, by rw [HQL.out.2.1] at HOB; exact HOB.out, HKA.out⟩
    · have dq : ((q : Int) != rq) = true := by simpa using hqq
      have d5 : ¬ q < rq := by omega
      have d6 : rq < q := by omega
      have hA : (aimM r q parts).L = [] := aimM_none (q := q) HI.out (by rw [← HRQ.out]; omega) HBD.out
      have HPP := Lib.hid (show (aimM r q parts).L ≠ [] → (aimM r q parts).n = parts from fun h => absurd hA h)
      obtain ⟨n1, hn1⟩ : ∃ n1, n1 = (aimM r q parts).L.length := ⟨_, rfl⟩
      obtain ⟨l1, hl1⟩ : ∃ l1, l1 = (aimM r q parts).L.flatten := ⟨_, rfl⟩
      have HQL := Lib.hid (show (aimM r q parts).q = q ∧ l1 = (aimM r q parts).L.flatten ∧ n1 = (aimM r q parts).L.length from ⟨aimM_q HBD.out, hl1, hn1⟩)
      have HTK := Lib.hid (takeM_ways HBD.out hn1)
      have HL1 := Lib.hid (show l1.length ≤ 100000000 by rw [hl1]; exact Nat.le_trans (aimM_len r q parts) hz)
      have hn1L : n1 ≤ 100000 := by rw [hn1]; exact Nat.le_trans (aimM_num r q parts) hL
      obtain ⟨a1, ha1⟩ : ∃ a1 : Option Addr, a1 = none := ⟨_, rfl⟩
      obtain ⟨c1, hc1⟩ : ∃ c1, c1 = 0 := ⟨_, rfl⟩
      obtain ⟨W1, hW1⟩ : ∃ W1, W1 = ((((w.setCell ⟨g, 0, none⟩ (.int .u64 q)).setCell ⟨g, 1, none⟩ (.int .i64 0)).setCell ⟨g, 2, none⟩ (.int .i64 parts)).setCell ⟨g, 3, none⟩ (.slice none 0 0)) := ⟨_, rfl⟩
      have HX : Hid (InX W1 g a1 c1 q n1 parts l1) := Lib.hid (by rw [ha1, hc1, hn1, hl1, hA, hW1]; exact inX_reset HI.out.1 q parts)
      have HKA : Hid (Kept (FtI g a r.L.flatten.length c) w W1) := Lib.hid (by rw [hW1]; exact kept_reset _ _ _ _)
      have HOB : Hid (OldRow w a r.L.flatten.length c a1 l1.length c1) := Lib.hid (by rw [ha1, hc1]; intro k hk; simp [Value.ownBlock] at hk)
      have HW1 := Lib.hid hW1
      have HA1 := Lib.hid (And.intro ha1 (And.intro hc1 (show l1 = [] by rw [hl1, hA]; rfl)))
      have hn0 : n1 = 0 := by rw [hn1, hA]; rfl
      clear hn1 hl1 ha1 hc1 hA hW1 hr1 hre
      go_enter Try.func16, Try.ntmps16
      go_upto_region 5 with fail
      rw [← HW1.out]
      clear z0 z1 z2 z3 q0 q1 q2 q3 hn0
      have p1 : W1.cell? ⟨g, 1, none⟩ = some (.int .i64 n1) := cell_of_row _ _ 1 _ _ _ HX.out.1
      have p3 : W1.cell? ⟨g, 3, none⟩ = some (.slice a1 l1.length c1) := cell_of_row _ _ 3 _ _ _ HX.out.1
      have z3 : W1.frozen? ⟨g, 3, none⟩ = false := blkM_frozen HX.out.1 3
      have hown1 := Lib.hid HX.out.2.2
      obtain ⟨y1, hy1⟩ : ∃ y1, y1 = l1.length := ⟨_, rfl⟩
      have hy2 : y1 ≤ 100000000 := by rw [hy1]; exact HL1.out
      rw [← hy1] at p3 hown1
      have HY1 := Lib.hid hy1
      clear hy1
      by_cases hp : part = n1
      · have dpn : (part != (n1 : Int)) = false := by simp [hp]
        have HP := Lib.hid hp
        clear hp
        have hne3 : ¬ some g = (Value.slice a1 y1 c1).ownBlock := by rw [HY1.out]; exact own_ne HX.out.2.2 HX.out.1 (by decide)
        have HBW : Hid (BSl W1 F (.slice va b.length vc) b) := Lib.hid (HBS.out.kept HKA.out (fun k hk h => HFF.out k hk h))
        obtain ⟨i0, hi0, hz0, hz1, hz2⟩ := info_parts Try.info5
        have hbl : b.length ≤ 1024 := HB10.out
        by_cases hlt : (n1 : Int) + 1 < parts
        · have dlt : decide ((n1 : Int) + 1 < parts) = true := decide_eq_true hlt
          go_wp2_with (at_builtin; refine wpList_append_bsl _ rfl (.tmp 66) (.tmp 67) _ rfl 5 i0 _ Try.underlying23 hi0 hz0 hz1 hz2 rfl (.slice a1 y1 c1) y1 l1 rfl hown1.out F _ b rfl HBW.out (by omega) ?_; intro a' c' w1 hown2 hg2 hat2; have hk2 := kept_grownM hg2; have hb2 := hk2.heap hne3 HX.out.1; have x0 : w1.cell? ⟨g, 0, none⟩ = some (.int .u64 q) := cell_of_row _ _ 0 _ _ _ hb2; have x1 : w1.cell? ⟨g, 1, none⟩ = some (.int .i64 n1) := cell_of_row _ _ 1 _ _ _ hb2; have x2 : w1.cell? ⟨g, 2, none⟩ = some (.int .i64 parts) := cell_of_row _ _ 2 _ _ _ hb2; have x3 : w1.cell? ⟨g, 3, none⟩ = some (.slice a1 l1.length c1) := cell_of_row _ _ 3 _ _ _ hb2; have f0 := blkM_frozen hb2 0; have f1 := blkM_frozen hb2 1; have f2 := blkM_frozen hb2 2; have f3 := blkM_frozen hb2 3; have HOW2 := Lib.hid hown2; have HG2 := Lib.hid hg2; have HAT2 := Lib.hid hat2; clear hown2 hg2 hat2 hk2 hb2)
          go_ret2
          unfold TakeP
          rw [(HTK.out.1 HP.out hlt)]
          obtain ⟨u1, u2, u3⟩ := in_more HX.out HY1.out HBW.out.isB HKA.out HOB.out HOW2.out HG2.out HAT2.out
          exact ⟨a', c', _, rfl, BSl.nil _ _, ⟨parts, inM_more HQL.out u1⟩, old_more HQL.out.2.1 u3, u2⟩
        · have dlt : decide ((n1 : Int) + 1 < parts) = false := decide_eq_false hlt
          go_wp2_with (at_builtin; refine wpList_append_bsl _ rfl (.tmp 66) (.tmp 67) _ rfl 5 i0 _ Try.underlying23 hi0 hz0 hz1 hz2 rfl (.slice a1 y1 c1) y1 l1 rfl hown1.out F _ b rfl HBW.out (by omega) ?_; intro a' c' w1 hown2 hg2 hat2; have hk2 := kept_grownM hg2; have hb2 := hk2.heap hne3 HX.out.1; have x0 : w1.cell? ⟨g, 0, none⟩ = some (.int .u64 q) := cell_of_row _ _ 0 _ _ _ hb2; have x1 : w1.cell? ⟨g, 1, none⟩ = some (.int .i64 n1) := cell_of_row _ _ 1 _ _ _ hb2; have x2 : w1.cell? ⟨g, 2, none⟩ = some (.int .i64 parts) := cell_of_row _ _ 2 _ _ _ hb2; have x3 : w1.cell? ⟨g, 3, none⟩ = some (.slice a1 l1.length c1) := cell_of_row _ _ 3 _ _ _ hb2; have f0 := blkM_frozen hb2 0; have f1 := blkM_frozen hb2 1; have f2 := blkM_frozen hb2 2; have f3 := blkM_frozen hb2 3; have HOW2 := Lib.hid hown2; have HG2 := Lib.hid hg2; have HAT2 := Lib.hid hat2; clear hown2 hg2 hat2 hk2 hb2)
          go_ret2
          unfold TakeP
          rw [(HTK.out.2.1 HP.out hlt)]
          obtain ⟨u1, u2, u3⟩ := in_more HX.out HY1.out HBW.out.isB HKA.out HOB.out HOW2.out HG2.out HAT2.out
          obtain ⟨x1, x2, x3⟩ := in_last q u1 u2 u3
          exact ⟨none, 0, _, rfl, bsl_last HQL.out.2.1 HY1.out x3, ⟨0, inM_none x1⟩, fun k hk => by simp [Value.ownBlock] at hk, x2⟩
      · have dpn : (part != (n1 : Int)) = true := by simpa using hp
        have HP := Lib.hid hp
        clear hp
        go_wp2
        go_ret2
        unfold TakeP
        rw [HTK.out.2.2 HP.out]
        exact ⟨a1, c1, _, rfl, BSl.nil _ _, ⟨parts, inM_aim HQL.out HPP.out HX.out⟩, by rw [HQL.out.2.1] at HOB; exact HOB.out, HKA.out⟩
end Go.Proofs.Ytnamipgdclbkeaa
