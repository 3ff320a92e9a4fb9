/-
  The chapter's picture that is taken in: rows of slices of bytes; All.
-/
import Derived.Test.YtnamipgdclbkeaaMovE
import Derived.Maps.AppendAt
import Derived.Laws.AppendOwnNone
namespace Go.Proofs.Ytnamipgdclbkeaa
open Go.RowKit Go.Shelf
set_option linter.unusedVariables false

/-- A row of slices of bytes of the call's own that reads as the lists L. -/
def LsO (w : World) (F : Nat → Prop) (v : Value) (L : List (List Int)) : Prop :=
  ∃ vs, w.ownsRow 0 23 1 v L.length vs ∧ (∀ k, v.ownBlock = some k → F k) ∧ ∀ j, j < L.length → ∃ u, vs[j]? = some u ∧ BSl w F u (L.getD j [])
theorem LsO.nil (w : World) (F : Nat → Prop) : LsO w F (.slice none 0 0) [] := ⟨[], World.ownsRow_nil _ _ _ _, fun k h => by simp [Value.ownBlock] at h, fun j h => absurd h (by simp)⟩
theorem LsO.kept {S F : Nat → Prop} {w w' : World} {v : Value} {L : List (List Int)} (h : LsO w F v L) (hk : Kept S w w') (hs : ∀ k, F k → ¬ S k) : LsO w' F v L := by
  obtain ⟨vs, h1, h2, h3⟩ := h
  exact ⟨vs, own_keptM h1 hk (fun k hk' => hs k (h2 k hk'.symm)), h2, fun j hj => by obtain ⟨u, hu, hb⟩ := h3 j hj; exact ⟨u, hu, hb.kept hk hs⟩⟩
theorem LsO.no {F : Nat → Prop} {w w' : World} {v : Value} {L : List (List Int)} (h : LsO w F v L) (hk : Kept NoB w w') : LsO w' F v L := h.kept hk (fun _ _ h => h)
theorem LsO.mono {F G : Nat → Prop} {w : World} {v : Value} {L : List (List Int)} (h : LsO w F v L) (hG : ∀ k, k < w.heap.size → F k → G k) : LsO w G v L := by
  obtain ⟨vs, h1, h2, h3⟩ := h
  exact ⟨vs, h1, fun k hk => hG k (h1.lt k hk).2 (h2 k hk), fun j hj => by obtain ⟨u, hu, hb⟩ := h3 j hj; exact ⟨u, hu, hb.mono hG⟩⟩
theorem LsO.form {F : Nat → Prop} {w : World} {v : Value} {L : List (List Int)} (h : LsO w F v L) : ∃ a c, v = .slice a L.length c := by
  obtain ⟨vs, h1, _⟩ := h
  exact own_form h1
theorem LsO.at_ {F : Nat → Prop} {w : World} {a : Option Addr} {n c : Nat} {L : List (List Int)} (h : LsO w F (.slice a n c) L) (j : Nat) (hj : j < L.length) :
    ∃ r u, a = some ⟨r, 0, none⟩ ∧ w.cell? ⟨r, j, none⟩ = some u ∧ BSl w F u (L.getD j []) := by
  obtain ⟨vs, h1, _, h3⟩ := h
  obtain ⟨u, hu, hb⟩ := h3 j hj
  rcases h1.2 with ⟨_, h0⟩ | ⟨r, cap, cur, hv, _⟩
  · omega
  · injection hv with hv1 hv2 hv3
    subst hv1 hv2 hv3
    have := h1.cells (g := r) rfl j u hu
    rw [addr_add21, Nat.zero_add] at this
    exact ⟨r, u, rfl, this, hb⟩
theorem oneCell_bsl {w : World} {F : Nat → Prop} {v : Value} {l : List Int} (h : BSl w F v l) : v.oneCell' = true := by
  obtain ⟨a, c, rfl, _⟩ := h; rfl

/-- append(nil, l...) of such a row. -/
theorem wpList_append_ls {P : Program} (w : World) {ops : Array Oper} {rest : List Oper} {o : Oper} {a : Act} {Q : Exit → Act → World → Prop} (hgd : o.guard = none) (s x : Operand) (t : TypeId)
    (ho : o.op = .call { callee := .builtin .append, args := #[s, x], argTypes := #[t, t] })
    (e : TypeId) (i : TypeInfo) (z : Value) (ht : P.underlying t = some (.slice e)) (hi : P.info? e = some i) (hz : i.zero = some z)
    (hsize : i.size = 1) (hby : i.bytes ≤ 1000) (hzs : z.cells.size = 1)
    (hs : a.eval s = .slice none 0 0) (lv : Value) (n : Nat) (vs : List Value) (hx : a.eval x = lv) (hown : w.ownsRow 0 e 1 lv n vs) (h1 : ∀ u ∈ vs, u.oneCell' = true) (hbytes : n ≤ 1000000)
    (h : ∀ a' c' w', w'.ownsRow 0 e 1 (.slice a' n c') n vs → Kept NoB w w' → (∀ k, (Value.slice a' n c').ownBlock = some k → w.heap.size ≤ k) → wpList P ops Q rest (a.put o.dst (.slice a' n c')) w') : wpList P ops Q (o :: rest) a w := by
  refine wpList_plain hgd fun K hK => ?_
  rcases hown.2 with ⟨hv, h0⟩ | ⟨r, cap, cur, hv, hb, hh, hrest⟩
  · subst hv h0
    have hrun := run_append_owned_none (P := P) w 0 t o.type e i 1 ht hi (.slice none 0 0) 0 [] (World.ownsRow_nil _ _ _ _)
    have hvs : vs = [] := List.eq_nil_of_length_eq_zero (by have := hown.1; simpa using this)
    subst hvs
    unfold Oper.wp execOp
    simp only [ho, resolve, invoke, builtin, Sem.run_bind, Sem.run_pure, Result.andThen_ok, List.map_toArray, List.map_cons, List.map_nil, hs, hx, hrun]
    exact hK _ _ (h none 0 w (World.ownsRow_nil _ _ _ _) (Kept.refl _ _) (fun k hk => by simp [Value.ownBlock] at hk))
  · subst hv
    have hcells : ∀ j u, vs[j]? = some u → w.cell? ((⟨r, 0, none⟩ : Addr).add j) = some u := fun j u hu => hown.cells (g := r) rfl j u hu
    obtain ⟨v', w', hrun, h2, h3, _, h4⟩ := run_append_own_at (P := P) w 0 t o.type e i z 1 i.bytes ht hi hz hsize rfl hzs (by decide) (.slice none 0 0) 0 [] (World.ownsRow_nil _ _ _ _) ⟨r, 0, none⟩ n cap vs (by have := hown.1; simpa using this) hcells h1 (by unfold maxLen; omega) (by have := Nat.mul_le_mul (show 0 + n ≤ 1000001 by omega) hby; omega) (Nat.zero_le _)
    rw [Nat.zero_add, List.nil_append] at h2
    obtain ⟨a', c', rfl⟩ := own_form h2
    unfold Oper.wp execOp
    simp only [ho, resolve, invoke, builtin, Sem.run_bind, Sem.run_pure, Result.andThen_ok, List.map_toArray, List.map_cons, List.map_nil, hs, hx, hrun]
    refine hK _ _ (h a' c' w' h2 ((Kept.refl _ _).grown h3 (fun k hk => by simp [Value.ownBlock] at hk)) (fun k hk => ?_))
    rcases h4 with e | e <;> rw [e] at hk <;> simp [Value.ownBlock] at hk <;> omega
/-- append of one value that lies at an address. -/
theorem wpList_append_one21 {P : Program} (w : World) {ops : Array Oper} {rest : List Oper} {o : Oper} {a : Act} {Q : Exit → Act → World → Prop} (hgd : o.guard = none) (s x : Operand) (t : TypeId)
    (ho : o.op = .call { callee := .builtin .append, args := #[s, x], argTypes := #[t, t] })
    (e : TypeId) (i : TypeInfo) (z : Value) (ht : P.underlying t = some (.slice e)) (hi : P.info? e = some i) (hz : i.zero = some z)
    (hsize : i.size = 1) (hby : i.bytes ≤ 1000) (hzs : z.cells.size = 1)
    (v : Value) (n : Nat) (xs : List Value) (hs : a.eval s = v) (hown : w.ownsRow 0 e 1 v n xs) (y : Value) (ad : Addr) (c : Nat) (hx : a.eval x = .slice (some ad) 1 c) (hy : w.cell? ad = some y) (h1 : y.oneCell' = true)
    (hbytes : n ≤ 1000000)
    (h : ∀ a' c' w', w'.ownsRow 0 e 1 (.slice a' (n + 1) c') (n + 1) (xs ++ [y]) → w.grownBy w' v.ownBlock → ((Value.slice a' (n + 1) c').ownBlock = v.ownBlock ∨ (Value.slice a' (n + 1) c').ownBlock = some w.heap.size) → wpList P ops Q rest (a.put o.dst (.slice a' (n + 1) c')) w') : wpList P ops Q (o :: rest) a w := by
  refine wpList_plain hgd fun K hK => ?_
  have hcells : ∀ j u, [y][j]? = some u → w.cell? (ad.add j) = some u := by
    intro j u hu
    match j with
    | 0 =>
      simp at hu
      subst hu
      have : ad.add 0 = ad := by unfold Addr.add; split <;> simp_all
      rw [this]; exact hy
    | j + 1 => simp at hu
  obtain ⟨v', w', hrun, h2, h3, _, h4⟩ := run_append_own_at (P := P) w 0 t o.type e i z 1 i.bytes ht hi hz hsize rfl hzs (by decide) v n xs hown ad 1 c [y] rfl hcells (fun u hu => by simp at hu; subst hu; exact h1) (by unfold maxLen; omega) (by have := Nat.mul_le_mul (show n + 1 ≤ 1000001 by omega) hby; omega) (Nat.zero_le _)
  obtain ⟨a', c', rfl⟩ := own_form h2
  unfold Oper.wp execOp
  simp only [ho, resolve, invoke, builtin, Sem.run_bind, Sem.run_pure, Result.andThen_ok, List.map_toArray, List.map_cons, List.map_nil, hs, hx, hrun]
  exact hK _ _ (h a' c' w' h2 h3 h4)

def AllRel (w : World) (L : List (List Int)) (o i : Value) (wr : World) : Prop :=
  ∃ k : Nat, i = .int .i64 k ∧ k ≤ L.length ∧ Own wr (fun k => w.heap.size ≤ k) o (L.take k).flatten ∧ Kept NoB w wr
theorem flat_le (L : List (List Int)) (k : Nat) : (L.take k).flatten.length ≤ L.flatten.length := by
  conv => rhs; rw [← List.take_append_drop k L, List.flatten_append, List.length_append]
  omega
theorem flat_succ (L : List (List Int)) (k : Nat) (h : k < L.length) : (L.take (k + 1)).flatten = (L.take k).flatten ++ L.getD k [] := by
  rw [List.take_add_one, List.flatten_append, List.getD_eq_getElem?_getD, List.getElem?_eq_getElem h]; simp
set_option maxRecDepth 100000 in
/-- The chapter's All. -/
theorem RAll_any (v : Value) (L : List (List Int)) (F : Nat → Prop) (w : World) (h : LsO w F v L) (hn : L.length ≤ 100000) (hz : L.flatten.length ≤ 100000000) :
    Calls Try.prog 20 #[v] w fun e w' => ∃ u, e = .returned u ∧ BSl w' (fun k => w.heap.size ≤ k ∧ k < w'.heap.size) u L.flatten ∧ Kept NoB w w' := by
  obtain ⟨i0, hi0, hz0, hz1, hz2⟩ := info_parts Try.info5
  obtain ⟨la, lc, rfl⟩ := h.form
  have HL := Lib.hid h
  clear h
  go_enter Try.func20, Try.ntmps20
  go_wp2
  go_loopw [3, 4] (AllRel w L) (fun _ i _ => L.length - (intOf i).toNat)
  case atStart => exact ⟨0, rfl, Nat.zero_le _, Own.nil _ _, Kept.refl _ _⟩
  case round =>
    obtain ⟨k, rfl, hk, hO, hK⟩ := hrel
    obtain ⟨oa, oc, rfl⟩ := own_form hO.2.1
    have hfl := flat_le L k
    obtain ⟨m, hm⟩ : ∃ m, m = (L.take k).flatten := ⟨_, rfl⟩
    rw [← hm] at hO hfl ⊢
    have HK := Lib.hid hK
    have HM := Lib.hid hm
    have HO := Lib.hid hO
    clear hK hm hO
    by_cases hlt : k < L.length
    · obtain ⟨r, u, rfl, hu, hb⟩ := (HL.out.no HK.out).at_ k hlt
      have hs := flat_succ L k hlt
      have hfl2 := flat_le L (k + 1)
      rw [hs, ← HM.out, List.length_append] at hfl2
      obtain ⟨b, hb0⟩ : ∃ b, b = L.getD k [] := ⟨_, rfl⟩
      rw [← hb0] at hb hs hfl2
      have HB := Lib.hid hb
      obtain ⟨ua, uc, rfl, _⟩ := hb
      have HS := Lib.hid hs
      clear hs hb0
      go_wp2_with (at_builtin; refine wpList_append_bsl _ rfl (.tmp 11) (.tmp 15) _ rfl 5 i0 _ Try.underlying23 hi0 hz0 hz1 hz2 rfl (.slice oa m.length oc) m.length m rfl HO.out.2.1 F _ b rfl HB.out (by omega) ?_; intro a' c' w1 hown2 hg2 hat2; have HG := Lib.hid (HO.out.grow (G := fun k => w.heap.size ≤ k) HB.out.isB (fun _ _ h => h) (fun k h => Nat.le_trans HK.out.size h) hown2 hg2 hat2); clear hown2 hg2 hat2)
      go_roundw
      case rel =>
        refine ⟨k + 1, by go_num, by omega, ?_, HK.out.trans HG.out.2 (fun i hi h => by omega)⟩
        rw [HS.out, ← HM.out]; exact HG.out.1
      case measure => simp [intOf]; omega
    · have hk2 : k = L.length := by omega
      have hd : decide ((k : Int) < (L.length : Int)) = false := decide_eq_false (by omega)
      go_wp2
      go_ret
      have e : L.flatten = m := by rw [HM.out, hk2, List.take_length]
      refine ⟨_, rfl, ?_, HK.out⟩
      rw [e]
      exact HO.out.bsl.mono (fun k h1 h2 => ⟨h2, h1⟩)
end Go.Proofs.Ytnamipgdclbkeaa
