/-
  Slices of slices of bytes: opened, and grown by one.
-/
import Derived.Test.YtpcacndbagiajaaCrcSw
import Derived.Test.YtpcacndbagiajaaOpen
namespace Go.Proofs.Ytpcacndbagiajaa
open Go.ChangeShapes Go.WideShapes Go.ChangeAt Go.RowKit Go.Deep

section
variable {H : Type} {enc : TypeId × Value → H} {W : World} {base : Nat}
theorem bss_open {d : DataW H} {p : List MemPlace} {a : Option Addr} {len cap : Nat}
    (h : DataW.Trod enc Try.prog W base (fun _ => true) true 135 (.slice a len cap) d p) : ∃ L : Nat → List Int, PAt W (fun k => k < W.heap.size) (.slice a len cap) len L := by
  obtain ⟨fuel, hf⟩ := h
  rcases open_slice1 Try.underlying135 (by kernel_rfl) hf with ⟨hcs, _⟩ | ⟨x, l, c, m, n, V, D, Pl, hcs, _, hl, hm, hmm, _, hi⟩
  · simp [Value.cells] at hcs
    obtain ⟨rfl, rfl, rfl⟩ := hcs
    exact ⟨fun _ => [], none, 0, rfl, Nat.zero_le _, fun h => absurd h (by omega)⟩
  · simp [Value.cells] at hcs
    obtain ⟨rfl, rfl, rfl⟩ := hcs
    simp only [if_true] at hmm
    subst hmm
    unfold maxLen at hm
    have key : ∀ j, j < m → ∃ l : List Int, BSl W (fun k => k < W.heap.size) (V j) l := fun j hj => bsl_cell (hi j hj).2
    obtain ⟨L, hL⟩ := pick_all [] key
    refine ⟨L, some x, m, rfl, by omega, fun hp => ?_⟩
    have h0 := (hi 0 (by omega)).1
    obtain ⟨b, o, spot⟩ := x
    have hspot : spot = none := by simpa [Addr.add] using World.cell?_spot h0
    subst hspot
    have hb := World.block_lt_of_cell? W _ h0
    rw [addr_add] at hb
    refine ⟨b, o, rfl, hb, hb, fun j hj => ⟨V j, ?_, hL j (by omega)⟩⟩
    have := (hi j (by omega)).1
    rwa [addr_add] at this
end

theorem row_kept {S : Nat → Prop} {w w' : World} {e n : Nat} {v : Value} {xs : List Value} (hown : w.ownsRow 0 e 1 v n xs) (hk : Kept S w w') (hs : ∀ k, v.ownBlock = some k → ¬ S k) : w'.ownsRow 0 e 1 v n xs := by
  refine ⟨hown.1, ?_⟩
  rcases hown.2 with hn | ⟨r, cap, cur, rfl, hb, hr, rest⟩
  · exact .inl hn
  · exact .inr ⟨r, cap, cur, rfl, hb, hk.heap (hs r rfl) hr, rest⟩
theorem row_apart {w : World} {e e' n n' : Nat} {v v' : Value} {xs xs' : List Value} (h : w.ownsRow 0 e 1 v n xs) (h' : w.ownsRow 0 e' 1 v' n' xs') (hne : e ≠ e') : ∀ k, v'.ownBlock = some k → ¬ v.ownBlock = some k := by
  intro k hk he
  rcases h'.2 with ⟨rfl, _⟩ | ⟨r, cap, cur, rfl, hb, hr, rest⟩
  · simp [Value.ownBlock] at hk
  · have : r = k := by simpa [Value.ownBlock] using hk
    subst this
    exact own_ne h hr hne he.symm
theorem row_cell {w : World} {e n b o c j : Nat} {xs : List Value} {x : Value} (h : w.ownsRow 0 e 1 (.slice (some ⟨b, o, none⟩) n c) n xs) (hx : xs[j]? = some x) : w.cell? ⟨b, o + j, none⟩ = some x := by
  rcases h.2 with ⟨h0, _⟩ | ⟨r, cap, cur, e0, _, hr, h1, h2, h3, h4⟩
  · cases h0
  · injection e0 with e0 e1 e2
    injection e0 with e0
    injection e0 with e0 e3
    subst e0 e3 e2
    rw [cell_of_row _ _ _ _ _ _ hr, Nat.zero_add]
    rw [← h4, List.getElem?_take] at hx
    split at hx
    · simpa using hx
    · cases hx

/-- append of one value that lies at an address. -/
theorem wpList_append_one {P : Program} (w : World) {ops : Array Oper} {rest : List Oper} {o : Oper} {a : Act} {Q : Exit → Act → World → Prop} (hgd : o.guard = none) (s x : Operand) (t : TypeId)
    (ho : o.op = .call { callee := .builtin .append, args := #[s, x], argTypes := #[t, t] })
    (e : TypeId) (i : TypeInfo) (z : Value) (ht : P.underlying t = some (.slice e)) (hi : P.info? e = some i) (hz : i.zero = some z)
    (hsize : i.size = 1) (hby : i.bytes ≤ 1000) (hzs : z.cells.size = 1)
    (v : Value) (n : Nat) (xs : List Value) (hs : a.eval s = v) (hown : w.ownsRow 0 e 1 v n xs) (y : Value) (ad : Addr) (c : Nat) (hx : a.eval x = .slice (some ad) 1 c) (hy : w.cell? ad = some y) (h1 : y.oneCell' = true)
    (hbytes : n ≤ 1000000)
    (h : ∀ a' c' w', w'.ownsRow 0 e 1 (.slice a' (n + 1) c') (n + 1) (xs ++ [y]) → w.grownBy w' v.ownBlock → ((Value.slice a' (n + 1) c').ownBlock = v.ownBlock ∨ (Value.slice a' (n + 1) c').ownBlock = some w.heap.size) → wpList P ops Q rest (a.put o.dst (.slice a' (n + 1) c')) w') : wpList P ops Q (o :: rest) a w := by
  refine wpList_plain hgd fun K hK => ?_
  have hcells : ∀ j u, [y][j]? = some u → w.cell? (ad.add j) = some u := by
    intro j u hu
    match j with
    | 0 =>
      simp at hu
      subst hu
      have : ad.add 0 = ad := by unfold Addr.add; split <;> simp_all
      rw [this]; exact hy
    | j + 1 => simp at hu
  obtain ⟨v', w', hrun, h2, h3, _, h4⟩ := run_append_own_at (P := P) w 0 t o.type e i z 1 i.bytes ht hi hz hsize rfl hzs (by decide) v n xs hown ad 1 c [y] rfl hcells (fun u hu => by simp at hu; subst hu; exact h1) (by unfold maxLen; omega) (by have := Nat.mul_le_mul (show n + 1 ≤ 1000001 by omega) hby; omega) (Nat.zero_le _)
  obtain ⟨a', c', rfl⟩ := own_form h2
  unfold Oper.wp execOp
  simp only [ho, resolve, invoke, builtin, Sem.run_bind, Sem.run_pure, Result.andThen_ok, List.map_toArray, List.map_cons, List.map_nil, hs, hx, hrun]
  exact hK _ _ (h a' c' w' h2 h3 h4)
end Go.Proofs.Ytpcacndbagiajaa
