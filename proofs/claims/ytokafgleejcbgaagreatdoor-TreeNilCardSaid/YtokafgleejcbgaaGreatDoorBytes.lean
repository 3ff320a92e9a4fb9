/-
  Slices of bytes as values, and append from one: plain words, over whatever program.
-/
import Derived.Test.YtokafgleejcbgaaGreatDoorBase
import Derived.Maps.AppendAt
import Derived.Laws.AppendOwnNone
import Derived.WalkSpells
namespace Go.Proofs.YtokafgleejcbgaaGreatDoor
open Go.RowKit

/-- The value v is a slice that reads as the bytes l, which lie in a block of F. -/
def BSl (w : World) (F : Nat → Prop) (v : Value) (l : List Int) : Prop :=
  ∃ a cap, v = .slice a l.length cap ∧ l.length ≤ cap ∧ cap ≤ maxLen ∧ (a = none → cap = 0) ∧ Rd w F a l

theorem BSl.nil (w : World) (F : Nat → Prop) : BSl w F (.slice none 0 0) [] := ⟨none, 0, rfl, Nat.le_refl _, Nat.zero_le _, fun _ => rfl, Rd.nil _ _ _⟩
theorem BSl.isB {w : World} {F : Nat → Prop} {v : Value} {l : List Int} (h : BSl w F v l) : IsB l := by obtain ⟨_, _, _, _, _, _, hr⟩ := h; exact hr.1
theorem BSl.kept {S F : Nat → Prop} {w w' : World} {v : Value} {l : List Int} (h : BSl w F v l) (hk : Kept S w w') (hs : ∀ k, F k → ¬ S k) : BSl w' F v l := by
  obtain ⟨a, cap, h1, h2, h3, h4, h5⟩ := h
  exact ⟨a, cap, h1, h2, h3, h4, h5.kept hk hs⟩
theorem BSl.mono {F G : Nat → Prop} {w : World} {v : Value} {l : List Int} (h : BSl w F v l) (hG : ∀ k, k < w.heap.size → F k → G k) : BSl w G v l := by
  obtain ⟨a, cap, h1, h2, h3, h4, h5⟩ := h
  exact ⟨a, cap, h1, h2, h3, h4, h5.mono hG⟩
/-- A slice of the call's own is one. -/
theorem BSl.ofOwn {w : World} {base n : Nat} {e : TypeId} {v : Value} {l : List Int} {F : Nat → Prop} (h : w.ownsRow base e 1 v n (l.map (Value.int .u8))) (hl : IsB l) (hF : ∀ k, v.ownBlock = some k → F k) : BSl w F v l := by
  have hn : l.length = n := by have := h.1; simpa using this
  subst hn
  rcases h.2 with ⟨rfl, h0⟩ | ⟨r, cap, cur, rfl, hb, hr, hc, hm, _⟩
  · have : l = [] := List.eq_nil_of_length_eq_zero h0
    subst this
    exact BSl.nil w F
  · exact ⟨_, cap, rfl, hc, hm, (fun h => by cases h), Rd.ofOwn h hl hF⟩

theorem bsl_drop {w : World} {F : Nat → Prop} {a : Option Addr} {cap n : Nat} {l : List Int} (hc : l.length ≤ cap) (hm : cap ≤ maxLen) (hn : a = none → cap = 0) (hr : Rd w F a l) :
    BSl w F (.slice (if cap = n then a else a.map (·.add n)) (l.length - n) (cap - n)) (l.drop n) := by
  refine ⟨_, cap - n, by rw [List.length_drop], by rw [List.length_drop]; omega, by omega, fun h => ?_, hr.drop hc⟩
  by_cases e : cap = n
  · omega
  · rw [if_neg e] at h
    have := hn (by cases a with | none => rfl | some x => cases h)
    omega
theorem bsl_take {w : World} {F : Nat → Prop} {a : Option Addr} {cap n : Nat} {l : List Int} (hc : l.length ≤ cap) (hm : cap ≤ maxLen) (hn : a = none → cap = 0) (hr : Rd w F a l) (h : n ≤ l.length) :
    BSl w F (.slice a n cap) (l.take n) :=
  ⟨a, cap, by rw [List.length_take, Nat.min_eq_left h], by rw [List.length_take]; omega, hm, hn, hr.take n⟩
theorem bsl_take3 {w : World} {F : Nat → Prop} {a : Option Addr} {cap n : Nat} {l : List Int} (hc : l.length ≤ cap) (hm : cap ≤ maxLen) (hn : a = none → cap = 0) (hr : Rd w F a l) (h : n ≤ l.length) :
    BSl w F (.slice a n n) (l.take n) :=
  ⟨a, n, by rw [List.length_take, Nat.min_eq_left h], by rw [List.length_take]; omega, by omega, fun e => by have := hn e; omega, hr.take n⟩

theorem isB_one {l : List Int} : ∀ u ∈ l.map (Value.int .u8), u.oneCell' = true := by
  intro u hu
  obtain ⟨x, _, rfl⟩ := List.mem_map.1 hu
  rfl

theorem run_append_bsl {P : Program} (w : World) (base : Nat) (t ty e : TypeId) (i : TypeInfo) (z : Value) (ht : P.underlying t = some (.slice e)) (hi : P.info? e = some i) (hz : i.zero = some z)
    (hsize : i.size = 1) (hby : i.bytes = 1) (hzs : z.cells.size = 1)
    (v : Value) (n : Nat) (cs : List Int) (hown : w.ownsRow base e 1 v n (cs.map (Value.int .u8))) (F : Nat → Prop) (y : Value) (l : List Int) (hy : BSl w F y l)
    (hbytes : n + l.length ≤ 140737488355328) (hbase : base ≤ w.heap.size) :
    ∃ v' w', (Builtin.append_ #[t, t] ty #[v, y]).run P w = .ok v' w' ∧ w'.ownsRow base e 1 v' (n + l.length) ((cs ++ l).map (Value.int .u8)) ∧ w.grownBy w' v.ownBlock ∧ (v'.ownBlock = v.ownBlock ∨ v'.ownBlock = some w.heap.size) := by
  obtain ⟨a, cap, rfl, hc, hm, hn, hr⟩ := hy
  rcases a with _ | ad
  · have h0 := hn rfl
    subst h0
    have hl : l = [] := List.eq_nil_of_length_eq_zero (by omega)
    subst hl
    exact ⟨v, w, run_append_owned_none w base t ty e i 1 ht hi v n _ hown, by simpa using hown, ⟨rfl, rfl, rfl, Nat.le_refl _, fun _ _ _ => rfl⟩, .inl rfl⟩
  · have hcells : ∀ j u, (l.map (Value.int .u8))[j]? = some u → w.cell? (ad.add j) = some u := by
      intro j u hu
      have hj : j < l.length := by
        rcases Nat.lt_or_ge j l.length with h | h
        · exact h
        · rw [List.getElem?_eq_none (by simpa using h)] at hu; cases hu
      obtain ⟨b, o, ha, _, _, hcell⟩ := hr.at_ hj
      injection ha with ha
      subst ha
      have hadd : (⟨b, o, none⟩ : Addr).add j = ⟨b, o + j, none⟩ := by unfold Addr.add; split <;> simp_all
      rw [hadd, hcell]
      simp [List.getElem?_eq_getElem hj] at hu ⊢
      exact hu
    obtain ⟨v', w', hrun, h2, h3, _, h5⟩ := run_append_own_at (P := P) w base t ty e i z 1 1 ht hi hz hsize hby hzs (by decide) v n _ hown ad l.length cap (l.map (Value.int .u8)) (by simp) hcells isB_one (by unfold maxLen; omega) (by omega) hbase
    exact ⟨v', w', hrun, by rw [List.map_append]; exact h2, h3, h5⟩

theorem own_form {w : World} {base n : Nat} {e : TypeId} {v : Value} {xs : List Value} (h : w.ownsRow base e 1 v n xs) : ∃ a c, v = .slice a n c := by
  rcases h.2 with ⟨rfl, h0⟩ | ⟨r, cap, cur, rfl, _⟩
  · exact ⟨none, 0, by rw [h0]⟩
  · exact ⟨_, _, rfl⟩

theorem wpList_append_bsl {P : Program} (w : World) {ops : Array Oper} {rest : List Oper} {o : Oper} {a : Act} {Q : Exit → Act → World → Prop} (hgd : o.guard = none) (s x : Operand) (t : TypeId)
    (ho : o.op = .call { callee := .builtin .append, args := #[s, x], argTypes := #[t, t] })
    (e : TypeId) (i : TypeInfo) (z : Value) (ht : P.underlying t = some (.slice e)) (hi : P.info? e = some i) (hz : i.zero = some z)
    (hsize : i.size = 1) (hby : i.bytes = 1) (hzs : z.cells.size = 1)
    (v : Value) (n : Nat) (cs : List Int) (hs : a.eval s = v) (hown : w.ownsRow 0 e 1 v n (cs.map (Value.int .u8))) (F : Nat → Prop) (y : Value) (l : List Int) (hx : a.eval x = y) (hy : BSl w F y l)
    (hbytes : n + l.length ≤ 140737488355328)
    (h : ∀ a' c' w', w'.ownsRow 0 e 1 (.slice a' (n + l.length) c') (n + l.length) ((cs ++ l).map (Value.int .u8)) → w.grownBy w' v.ownBlock → ((Value.slice a' (n + l.length) c').ownBlock = v.ownBlock ∨ (Value.slice a' (n + l.length) c').ownBlock = some w.heap.size) → wpList P ops Q rest (a.put o.dst (.slice a' (n + l.length) c')) w') : wpList P ops Q (o :: rest) a w := by
  refine wpList_plain hgd fun K hK => ?_
  obtain ⟨v', w', hrun, h2, h3, h4⟩ := run_append_bsl (P := P) w 0 t o.type e i z ht hi hz hsize hby hzs v n cs hown F y l hy hbytes (Nat.zero_le _)
  obtain ⟨a', c', rfl⟩ := own_form h2
  unfold Oper.wp execOp
  simp only [ho, resolve, invoke, builtin, Sem.run_bind, Sem.run_pure, Result.andThen_ok, List.map_toArray, List.map_cons, List.map_nil, hs, hx, hrun]
  exact hK _ _ (h a' c' w' h2 h3 h4)
end Go.Proofs.YtokafgleejcbgaaGreatDoor
