/-
  All frames of some bytes, plainly; rows of frames in memory; append of a frame to such a row.
-/
import Derived.Test.YtpcacndbagiajaaFrmJ
namespace Go.Proofs.Ytpcacndbagiajaa
open Go.RowKit

/-- Where one stands, and what one has, behind k frames. -/
def allS (l : List Int) : Nat → Nat × List FR
  | 0 => (0, [])
  | k + 1 => ((allS l k).1 + (cutF (l.drop (allS l k).1)).n.toNat, (allS l k).2 ++ [cutF (l.drop (allS l k).1)])
def OkS (l : List Int) (k : Nat) : Prop := ∀ i, i < k → (allS l i).1 < l.length ∧ (cutF (l.drop (allS l i).1)).err = 0
def EndS (l : List Int) (k : Nat) (er : Int) : Prop := OkS l k ∧ ((er = 0 ∧ l.length ≤ (allS l k).1) ∨ (er ≠ 0 ∧ (allS l k).1 < l.length ∧ (cutF (l.drop (allS l k).1)).err = er))
theorem EndS.uniq {l : List Int} {k k' : Nat} {e e' : Int} (h : EndS l k e) (h' : EndS l k' e') : k = k' ∧ e = e' := by
  have key : ∀ {a b : Nat} {x y : Int}, EndS l a x → EndS l b y → ¬ a < b := by
    intro a b x y ha hb hlt
    obtain ⟨h1, h2⟩ := hb.1 a hlt
    rcases ha.2 with ⟨_, h3⟩ | ⟨h3, _, h4⟩
    · omega
    · rw [h2] at h4; exact h3 h4.symm
  have e1 : k = k' := by
    have := key h h'
    have := key h' h
    omega
  subst e1
  refine ⟨rfl, ?_⟩
  rcases h.2 with ⟨h1, h2⟩ | ⟨h1, h2, h3⟩ <;> rcases h'.2 with ⟨h4, h5⟩ | ⟨h4, h5, h6⟩
  · rw [h1, h4]
  · omega
  · omega
  · rw [← h3, ← h6]
theorem allS_len (l : List Int) (k : Nat) : (allS l k).2.length = k := by
  induction k with
  | zero => rfl
  | succ k ih => rw [allS, List.length_append, ih]; rfl
theorem cut_n {l : List Int} (h : (cutF l).err = 0) : 7 ≤ (cutF l).n ∧ (cutF l).n ≤ (l.length : Int) := by
  have hsz : (sizeF l).2 = 0 := by
    by_cases hz : (sizeF l).2 = 0
    · exact hz
    · unfold cutF at h
      rw [if_pos hz] at h
      exact absurd h hz
  obtain ⟨_, hle, _⟩ := sizeF_ok hsz
  have hcf := cut_of_fit hsz
  by_cases hf : fitsB (l.take (lenF l + 7)) = true
  · rw [if_pos hf] at hcf
    rw [hcf]
    exact ⟨by show (7 : Int) ≤ (lenF l : Int) + 7; omega, by show (lenF l : Int) + 7 ≤ _; omega⟩
  · rw [if_neg hf] at hcf
    rw [hcf] at h
    exact absurd h (by show ¬ (5 : Int) = 0; decide)
theorem OkS.next {l : List Int} {k : Nat} (h : OkS l k) (h1 : (allS l k).1 < l.length) (h2 : (cutF (l.drop (allS l k).1)).err = 0) : OkS l (k + 1) := fun i hi => by
  by_cases e : i = k
  · subst e; exact ⟨h1, h2⟩
  · exact h i (by omega)
theorem OkS.le {l : List Int} {k : Nat} (h : OkS l k) : 7 * k ≤ (allS l k).1 ∧ (allS l k).1 ≤ l.length := by
  induction k with
  | zero => exact ⟨Nat.le_refl _, Nat.zero_le _⟩
  | succ k ih =>
    obtain ⟨h1, h2⟩ := ih (fun i hi => h i (by omega))
    obtain ⟨h3, h4⟩ := h k (by omega)
    have := cut_n h4
    rw [List.length_drop] at this
    rw [allS]
    refine ⟨?_, ?_⟩
    · show 7 * (k + 1) ≤ (allS l k).1 + _; omega
    · show (allS l k).1 + _ ≤ _; omega

/-- A row of the call's own, of whatever size its elements have, stays. -/
theorem rowN_kept {S : Nat → Prop} {w w' : World} {e size n : Nat} {v : Value} {xs : List Value} (hown : w.ownsRow 0 e size v n xs) (hk : Kept S w w') (hs : ∀ k, v.ownBlock = some k → ¬ S k) : w'.ownsRow 0 e size v n xs := by
  refine ⟨hown.1, ?_⟩
  rcases hown.2 with hn | ⟨r, cap, cur, rfl, hb, hr, rest⟩
  · exact .inl hn
  · exact .inr ⟨r, cap, cur, rfl, hb, hk.heap (hs r rfl) hr, rest⟩
theorem rowN_form {w : World} {size n : Nat} {e : TypeId} {v : Value} {xs : List Value} (h : w.ownsRow 0 e size v n xs) : ∃ a c, v = .slice a n c := by
  rcases h.2 with ⟨rfl, h0⟩ | ⟨r, cap, cur, rfl, _⟩
  · exact ⟨none, 0, by rw [h0]⟩
  · exact ⟨_, _, rfl⟩

/-- The value is a row of these frames, in a block of F; their bodies lie in blocks of G. -/
def FrsAt (w : World) (F G : Nat → Prop) (e : TypeId) (v : Value) (fs : List FR) : Prop :=
  ∃ xs, w.ownsRow 0 e 2 v fs.length xs ∧ (∀ (i : Nat) (f : FR), fs[i]? = some f → xs[2 * i]? = some (.int .u8 f.kind) ∧ ∃ b, xs[2 * i + 1]? = some b ∧ BSl w (fun k => G k ∧ some k ≠ v.ownBlock) b f.body) ∧ ∀ k, v.ownBlock = some k → F k
theorem FrsAt.kept {S F G : Nat → Prop} {w w' : World} {e : TypeId} {v : Value} {fs : List FR} (h : FrsAt w F G e v fs) (hk : Kept S w w') (hF : ∀ k, F k → ¬ S k) (hG : ∀ k, G k → ¬ S k) : FrsAt w' F G e v fs := by
  obtain ⟨xs, h1, h2, h3⟩ := h
  refine ⟨xs, rowN_kept h1 hk (fun k hk => hF k (h3 k hk)), fun i f hf => ?_, h3⟩
  obtain ⟨h4, b, h5, h6⟩ := h2 i f hf
  exact ⟨h4, b, h5, h6.kept hk (fun k h => hG k h.1)⟩
theorem FrsAt.nil (w : World) (F G : Nat → Prop) (e : TypeId) : FrsAt w F G e (.slice none 0 0) [] :=
  ⟨[], World.ownsRow_nil _ _ _ _, fun i f hf => by simp at hf, fun k hk => by simp [Value.ownBlock] at hk⟩
theorem FrsAt.form {w : World} {F G : Nat → Prop} {e : TypeId} {v : Value} {fs : List FR} (h : FrsAt w F G e v fs) : ∃ a c, v = .slice a fs.length c := by
  obtain ⟨xs, h1, _⟩ := h
  exact rowN_form h1

theorem wpList_append_two {P : Program} (w : World) {ops : Array Oper} {rest : List Oper} {o : Oper} {a : Act} {Q : Exit → Act → World → Prop} (hgd : o.guard = none) (s x : Operand) (t : TypeId)
    (ho : o.op = .call { callee := .builtin .append, args := #[s, x], argTypes := #[t, t] })
    (e : TypeId) (i : TypeInfo) (z : Value) (ht : P.underlying t = some (.slice e)) (hi : P.info? e = some i) (hz : i.zero = some z)
    (hsize : i.size = 2) (hby : i.bytes ≤ 1000) (hzs : z.cells.size = 2)
    (F G : Nat → Prop) (v : Value) (fs : List FR) (hs : a.eval s = v) (hown : FrsAt w F G e v fs) (f : FR) (bv : Value) (ad : Addr) (c : Nat) (hx : a.eval x = .slice (some ad) 1 c)
    (h0 : w.cell? (ad.add 0) = some (.int .u8 f.kind)) (hy : w.cell? (ad.add 1) = some bv) (hb : BSl w (fun k => G k ∧ some k ≠ v.ownBlock) bv f.body)
    (hF : ∀ k, w.heap.size ≤ k → F k)
    (hbytes : fs.length ≤ 1000000)
    (h : ∀ a' c' w', FrsAt w' F G e (.slice a' (fs.length + 1) c') (fs ++ [f]) → w.grownBy w' v.ownBlock → wpList P ops Q rest (a.put o.dst (.slice a' (fs.length + 1) c')) w') : wpList P ops Q (o :: rest) a w := by
  refine wpList_plain hgd fun K hK => ?_
  obtain ⟨xs, hrow, hel, hblk⟩ := hown
  have hb1 : bv.oneCell' = true := by obtain ⟨_, _, rfl, _⟩ := hb; rfl
  have hcells : ∀ j u, [Value.int .u8 f.kind, bv][j]? = some u → w.cell? (ad.add j) = some u := by
    intro j u hu
    match j with
    | 0 => simp at hu; subst hu; exact h0
    | 1 => simp at hu; subst hu; exact hy
    | j + 2 => simp at hu
  obtain ⟨v', w', hrun, h2, h3, _, h4⟩ := run_append_own_at (P := P) w 0 t o.type e i z 2 i.bytes ht hi hz hsize rfl hzs (by decide) v fs.length xs hrow ad 1 c [Value.int .u8 f.kind, bv] rfl hcells (fun u hu => by simp at hu; rcases hu with rfl | rfl; rfl; exact hb1) (by unfold maxLen; omega) (by have := Nat.mul_le_mul (show fs.length + 1 ≤ 1000001 by omega) hby; omega) (Nat.zero_le _)
  obtain ⟨a', c', rfl⟩ := rowN_form h2
  have hkept : Kept (fun k => v.ownBlock = some k) w w' := (Kept.refl _ _).grown h3 (fun k hk => .inl hk)
  have hG2 : ∀ (bb : Value) (l : List Int), BSl w (fun k => G k ∧ some k ≠ v.ownBlock) bb l → BSl w' (fun k => G k ∧ some k ≠ (Value.slice a' (fs.length + 1) c').ownBlock) bb l := by
    intro bb l hbb
    have : BSl w (fun k => (G k ∧ some k ≠ v.ownBlock) ∧ k < w.heap.size) bb l := hbb.mono (fun k hk hg => ⟨hg, hk⟩)
    refine (this.kept hkept (fun k hk hr => hk.1.2 hr.symm)).mono (fun k _ h => ⟨h.1.1, fun he => ?_⟩)
    rcases h4 with e5 | e5
    · rw [e5] at he; exact h.1.2 he
    · rw [e5] at he; injection he with he; have := h.2; omega
  have hxl : xs.length = fs.length * 2 := hrow.1
  unfold Oper.wp execOp
  simp only [ho, resolve, invoke, builtin, Sem.run_bind, Sem.run_pure, Result.andThen_ok, List.map_toArray, List.map_cons, List.map_nil, hs, hx, hrun]
  refine hK _ _ (h a' c' w' ⟨xs ++ [Value.int .u8 f.kind, bv], by rw [List.length_append]; exact h2, fun i g hg => ?_, fun k hk => ?_⟩ h3)
  · by_cases hi : i < fs.length
    · rw [List.getElem?_append_left hi] at hg
      obtain ⟨h5, b, h6, h7⟩ := hel i g hg
      exact ⟨by rw [List.getElem?_append_left (by omega)]; exact h5, b, by rw [List.getElem?_append_left (by omega)]; exact h6, hG2 _ _ h7⟩
    · have hie : i = fs.length := by
        have : i < (fs ++ [f]).length := by
          rcases Nat.lt_or_ge i (fs ++ [f]).length with h | h
          · exact h
          · rw [List.getElem?_eq_none h] at hg; cases hg
        rw [List.length_append] at this
        simp at this
        omega
      subst hie
      rw [List.getElem?_append_right (by omega)] at hg
      simp at hg
      subst hg
      refine ⟨by rw [List.getElem?_append_right (by omega), show 2 * fs.length - xs.length = 0 by omega]; rfl, bv, by rw [List.getElem?_append_right (by omega), show 2 * fs.length + 1 - xs.length = 1 by omega]; rfl, hG2 _ _ hb⟩
  · rcases h4 with e5 | e5
    · rw [e5] at hk; exact hblk k hk
    · rw [e5] at hk; injection hk with hk; subst hk; exact hF _ (Nat.le_refl _)
end Go.Proofs.Ytpcacndbagiajaa
