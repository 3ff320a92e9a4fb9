/-
  ChosenOwn: other numbers written into nodes; one command behind the other. ChosenOrder: the walk. ChosenOwn: the walk.
-/
import Derived.Test.YtidhaofojcdbaaaCho2
import Derived.Test.YtidhaofojcdbaaaCnf5
import Derived.Test.YtidhaofojcdbaaaCnf3
import Derived.BigQuiet
import Derived.Test.YtidhaofojcdbaaaCnf1
import Derived.Test.YtidhaofojcdbaaaCho1
namespace Go.Proofs.Ytidhaofojcdbaaa
open Go.RowKit
set_option linter.unusedVariables false

/-- Nodes that may be written: they lie in blocks of F. -/
def NdS (w : World) (F : Nat → Prop) (u : Value) : Prop :=
  ∃ a n c, u = .slice a n c ∧ n ≤ 1000 ∧ (0 < n → ∃ b o, a = some ⟨b, o, none⟩ ∧ F b ∧ ∀ i, i < n → ∃ x, w.cell? ⟨b, o + i, none⟩ = some (.int .i64 x))
/-- What writing numbers into blocks of F leaves. -/
structure SpR (F : Nat → Prop) (w w' : World) : Prop where
  kept : Kept F w w'
  wr : ∀ k, F k → Wr w' k
  num : ∀ p x, w.cell? p = some (.int .i64 x) → ∃ y, w'.cell? p = some (.int .i64 y)
  oth : ∀ p v, w.cell? p = some v → (∀ x, v ≠ .int .i64 x) → w'.cell? p = some v
theorem SpR.refl {F : Nat → Prop} {w : World} (h : ∀ k, F k → Wr w k) : SpR F w w := ⟨Kept.refl _ _, h, fun _ x h => ⟨x, h⟩, fun _ _ h _ => h⟩
theorem SpR.trans {F : Nat → Prop} {a b c : World} (h : SpR F a b) (g : SpR F b c) : SpR F a c :=
  ⟨h.kept.trans g.kept (fun _ _ h => h), g.wr, fun p x e => by obtain ⟨y, e⟩ := h.num p x e; exact g.num p y e, fun p v e hv => g.oth p v (h.oth p v e hv) hv⟩
theorem SpR.set {F : Nat → Prop} {w w' : World} (h : SpR F w w') {b o : Nat} {x : Int} (hF : F b) (hc : w'.cell? ⟨b, o, none⟩ = some (.int .i64 x)) (y : Int) : SpR F w (w'.setCell ⟨b, o, none⟩ (.int .i64 y)) := by
  obtain ⟨cs, t, hb⟩ := h.wr b hF
  have ho : cs[o]? = some (.int .i64 x) := by rw [← cell_of_row w' b o cs t _ hb]; exact hc
  have hlt : o < cs.size := by
    rcases Nat.lt_or_ge o cs.size with h | h
    · exact h
    · rw [Array.getElem?_eq_none h] at ho; cases ho
  have hb' := blkA_set hb o (.int .i64 y)
  have hat : ∀ p v, w'.cell? p = some v → (p = ⟨b, o, none⟩ ∧ v = .int .i64 x) ∨ (w'.setCell ⟨b, o, none⟩ (.int .i64 y)).cell? p = some v := fun p v hp => by
    by_cases e : p = ⟨b, o, none⟩
    · subst e
      rw [hc] at hp
      injection hp with hp
      exact .inl ⟨rfl, hp.symm⟩
    · right
      obtain ⟨pb, po, ps⟩ := p
      have hs := World.cell?_spot hp
      subst hs
      by_cases e2 : pb = b
      · subst e2
        have hne : o ≠ po := fun h => e (by rw [h])
        rw [cell_of_row _ _ _ _ _ _ hb]at hp
        rw [cell_of_row _ _ _ _ _ _ hb', Array.getElem?_setIfInBounds_ne hne]
        exact hp
      · have hkk : Kept (fun k => k = b) w' (w'.setCell ⟨b, o, none⟩ (.int .i64 y)) := (Kept.refl (fun k => k = b) w').setCell (p := ⟨b, o, none⟩) (.inl rfl) _
        exact hkk.cell (p := ⟨pb, po, none⟩) e2 hp
  have hnew : (w'.setCell ⟨b, o, none⟩ (.int .i64 y)).cell? ⟨b, o, none⟩ = some (.int .i64 y) := by
    rw [cell_of_row _ _ _ _ _ _ hb']
    simp [hlt]
  refine ⟨h.kept.trans ((Kept.refl F w').setCell (p := ⟨b, o, none⟩) (.inl hF) _) (fun _ _ h => h), fun k hk => ?_, fun p z e => ?_, fun p v e hv => ?_⟩
  · by_cases e : k = b
    · subst e
      exact ⟨_, t, hb'⟩
    · exact (h.wr k hk).kept ((Kept.refl (fun i => i = b) w').setCell (p := ⟨b, o, none⟩) (.inl rfl) _) e
  · obtain ⟨z', e⟩ := h.num p z e
    rcases hat p _ e with ⟨rfl, _⟩ | e
    · exact ⟨y, hnew⟩
    · exact ⟨z', e⟩
  · rcases hat p _ (h.oth p v e hv) with ⟨rfl, ev⟩ | e
    · exact absurd ev (hv x)
    · exact e
theorem NdS.sp {F : Nat → Prop} {w w' : World} {u : Value} (h : NdS w F u) (hs : SpR F w w') : NdS w' F u := by
  obtain ⟨a, n, c, h1, h2, h3⟩ := h
  refine ⟨a, n, c, h1, h2, fun hp => ?_⟩
  obtain ⟨b, o, e1, e2, e3⟩ := h3 hp
  exact ⟨b, o, e1, e2, fun i hi => by obtain ⟨x, e⟩ := e3 i hi; exact hs.num _ x e⟩
set_option maxRecDepth 100000 in
theorem spoil_any (w : World) (F : Nat → Prop) (u : Value) (h : NdS w F u) (hF : ∀ k, F k → Wr w k) : Calls Try.prog 38 #[u] w fun e w' => e = .returned (.tuple #[]) ∧ SpR F w w' := by
  obtain ⟨a, n, c, rfl, hn, hcells⟩ := h
  have HC := Lib.hid hcells
  have HS0 := Lib.hid (SpR.refl hF)
  clear hcells hF
  go_enter Try.func38, Try.ntmps38
  go_wp2
  go_loopw [2] (fun iv wr => ∃ i : Nat, iv = .int .i64 i ∧ i ≤ n ∧ SpR F w wr) (fun i _ => n - (RowKit.intOf i).toNat)
  case atStart => exact ⟨0, rfl, Nat.zero_le _, HS0.out⟩
  case round =>
    obtain ⟨i, rfl, hi, hs⟩ := hrel
    have HS := Lib.hid hs
    have hi0 : (0 : Int) ≤ (i : Int) := by omega
    clear hs
    by_cases hlt : i < n
    · have hi1 : (i : Int) < (n : Int) := by omega
      obtain ⟨b, o, rfl, hb, hc⟩ := HC.out (by omega)
      obtain ⟨x, hx⟩ := hc i hlt
      obtain ⟨x', hx'⟩ := HS.out.num _ x hx
      obtain ⟨cs, t, hrow⟩ := HS.out.wr b hb
      have hfz : wr.frozen? ⟨b, o + i, none⟩ = false := by simp [World.frozen?, hrow]
      have HN := Lib.hid (HS.out.set hb hx' 99)
      clear hx hc hrow
      go_wp2
      exact ⟨⟨i + 1, by go_num, by omega, HN.out⟩, by simp [RowKit.intOf]; omega⟩
    · go_wp2
      go_end0
      exact ⟨rfl, HS.out⟩
/-- A slice of configurations whose nodes may be written. -/
def CfS (w : World) (F : Nat → Prop) (v : Value) (n : Nat) : Prop :=
  ∃ a c, v = .slice a n c ∧ n ≤ 10000 ∧ (0 < n → ∃ b o, a = some ⟨b, o, none⟩ ∧ ∀ j, j < n → ∃ u, w.cell? ⟨b, o + j * 5 + 2, none⟩ = some u ∧ NdS w F u)
theorem CfS.sp {F : Nat → Prop} {w w' : World} {v : Value} {n : Nat} (h : CfS w F v n) (hs : SpR F w w') : CfS w' F v n := by
  obtain ⟨a, c, h1, h2, h3⟩ := h
  refine ⟨a, c, h1, h2, fun hp => ?_⟩
  obtain ⟨b, o, e1, e2⟩ := h3 hp
  refine ⟨b, o, e1, fun j hj => ?_⟩
  obtain ⟨u, e3, e4⟩ := e2 j hj
  refine ⟨u, hs.oth _ u e3 (fun x e => ?_), e4.sp hs⟩
  obtain ⟨_, _, _, e5, _⟩ := e4
  rw [e5] at e
  cases e
theorem CfsAt.cfS {w : World} {F : Nat → Prop} {v : Value} {l : List Cf} (h : CfsAt w F v l) (hl : l.length ≤ 10000) : CfS w F v l.length := by
  obtain ⟨a, c, h1, h2, h3, h4, h5⟩ := h
  refine ⟨a, c, h1, hl, fun hp => ?_⟩
  obtain ⟨b, o, e1, e2, e3, e4⟩ := h5 hp
  refine ⟨b, o, e1, fun j hj => ?_⟩
  obtain ⟨u, _, _, c2, _, _, hn, hb⟩ := e4 j hj
  obtain ⟨na, nc, rfl, n2, n3, n4, n5⟩ := hn
  exact ⟨_, c2, na, _, nc, rfl, hb.2.2, fun hp => by
    obtain ⟨b', o', f1, f2, _, f4⟩ := n5 hp
    exact ⟨b', o', f1, f2, fun i hi => ⟨_, f4 i hi⟩⟩⟩
/-- The log knows just the slots below n; now: what its configurations are. -/
def OwE (F : Nat → Prop) (g bm : Nat) (n : Nat) (now : List Cf) (l0 : List Cf) (k ch ep nd : Int) (w : World) (e : Ending) (w' : World) : Prop :=
  ∃ (D : List Cf) (oa : Option Addr) (oc : Nat) (G : Nat → Prop) (L2 : List Vt) (X : Int), e = .returned (.tuple #[.slice oa D.length oc, .int .i64 X]) ∧ D.length ≤ 10000 ∧ CfsAt w' (fun k => w.heap.size ≤ k ∧ Wr w' k ∧ ¬ G k) (.slice oa D.length oc) D ∧
    LkAt w' (fun k => G k ∧ (F k ∨ w.heap.size ≤ k)) g bm L2 L2.length l0 ∧ L2.length ≤ n + 1 ∧ (runC l0 L2).2 = doC now (chk k ch ep nd) k ch ep nd ∧ Kept (LB g bm) w w'
theorem own_learn (w : World) (F : Nat → Prop) (g bm : Nat) (L : List Vt) (l0 : List Cf) (h : LkAt w F g bm L L.length l0) (k ch ep nd : Int) (hep : 0 ≤ ep) (hep2 : ep ≤ 18446744073709551615) (hn : L.length < 512) :
    Calls Try.prog 34 #[.pointer (some ⟨g, 0, none⟩), .int .i64 (L.length : Nat), .agg #[.int .i64 k, .int .i64 ch, .int .u64 ep, .int .i64 nd]] w (OwE F g bm L.length (runC l0 L).2 l0 k ch ep nd w) := by
  have hslot : ∀ i (hi : i < L.length), L[i].s = (i : Int) := fun i hi => h.lead.2.1 i hi hi
  have hlow : ∀ x ∈ L, x.s < (L.length : Int) := fun x hx => by
    obtain ⟨i, hi, rfl⟩ := List.getElem_of_mem hx
    have := hslot i hi
    omega
  have hnone : atV L (L.length : Int) = none := atV_none (fun x hx => by have := hlow x hx; omega)
  have hck := chk_is k ch ep nd
  by_cases hc : chk k ch ep nd = 0
  · have hX : lrn L ⟨L.length, 0, k, ch, ep, nd⟩ = 0 := by
      show lrnX L L.length (chk k ch ep nd) k ch ep nd = 0
      unfold lrnX
      rw [if_neg (by omega), if_neg (by simpa using hc), hnone]
    have hput : putV L (zv ⟨L.length, 0, k, ch, ep, nd⟩) = L ++ [⟨L.length, 0, k, ch, ep, nd⟩] := putV_snoc hlow
    have hl2 : (L ++ [(⟨L.length, 0, k, ch, ep, nd⟩ : Vt)]).length = L.length + 1 := by simp
    have hlead : LeadIs (putV L (zv ⟨L.length, 0, k, ch, ep, nd⟩)) (L.length + 1) := by
      rw [hput]
      refine ⟨by omega, fun i hi _ => ?_, fun hi => absurd hi (by omega)⟩
      by_cases e : i < L.length
      · rw [List.getElem_append_left e]
        exact hslot i e
      · obtain rfl : i = L.length := by omega
        simp
    refine (one_learn w F g bm L L.length (L.length + 1) l0 h ⟨L.length, 0, k, ch, ep, nd⟩ hep hep2 hX hlead).mono fun e w' ⟨D, oa, oc, G, e1, e2, e3, e4, e5⟩ => ?_
    rw [hput] at e2 e4
    have ht : (L ++ [(⟨L.length, 0, k, ch, ep, nd⟩ : Vt)]).take (L.length + 1) = L ++ [⟨L.length, 0, k, ch, ep, nd⟩] := by rw [← hl2, List.take_length]
    rw [ht] at e2
    refine ⟨D, oa, oc, G, _, 0, e1, ?_, e3, by rw [hl2]; exact e4, by omega, ?_, e5⟩
    · have := runC_few l0 (L ++ [(⟨L.length, 0, k, ch, ep, nd⟩ : Vt)])
      rw [e2, List.length_append] at this
      omega
    · rw [runC_snoc, hc]
      rfl
  · obtain ⟨⟨dn, a, c, hlog⟩, h2, h3⟩ := id h
    refine (LLearn_any w F g bm L L.length dn a c _ L.length _ k ch ep nd hlog hck hep hep2).mono fun e w' hle => ?_
    have hX : lrnX L L.length (chk k ch ep nd) k ch ep nd = chk k ch ep nd := by
      unfold lrnX
      rw [if_neg (by omega), if_pos hc]
    rcases hle with ⟨hx, e1, e2, e3⟩ | ⟨hx, _⟩
    · refine ⟨[], none, 0, F, L, _, e1, by simp, CfsAt.nil _ _, (h.no e3).mono_ (fun k hk => ⟨hk, .inl hk⟩) (fun k hk => hlog.sub k hk.1), by omega, ?_, e3.mono (fun _ _ h => h.elim)⟩
      unfold doC
      rw [if_pos]
      unfold canC
      split
      · decide
      · first
          | exact hc
          | (rw [if_pos hc]; exact hc)
    · rw [hX] at hx
      exact absurd hx hc
end Go.Proofs.Ytidhaofojcdbaaa
namespace Go.Proofs.Ytidhaofojcdbaaa
open Go.RowKit
set_option linter.unusedVariables false

theorem beg_ok (chains per : Int) : (begX chains per = 0 ∧ AllC (begC chains per)) ∨ begX chains per = 1 := by
  unfold begX begC
  cases h : begB chains per with
  | false => exact .inr rfl
  | true =>
    have hb : 1 ≤ chains ∧ chains ≤ 4 ∧ 1 ≤ per ∧ per ≤ 5 := of_decide_eq_true h
    exact .inl ⟨rfl, begL_all (by omega) (by omega) (by omega) (by omega)⟩
theorem CfsAt.no3 {w w' : World} {F : Nat → Prop} {v : Value} {l : List Cf} (h : CfsAt w F v l) (hk : Kept NoB w w') : CfsAt w' F v l := h.kept hk (fun _ _ _ h => h)
theorem same_two {w : World} {F G : Nat → Prop} {v u : Value} {l : List Cf} (hv : CfsAt w F v l) (hu : CfsAt w G u l) : Calls Try.prog 35 #[v, u] w (BoolE true w) := by
  have := SameAll_any v u l l F G w hv hu
  rwa [decide_eq_true rfl] at this
theorem wnam {S : Nat → Prop} {w w' : World} (h : Kept S w w') : ∃ x, x = w' := ⟨_, rfl⟩
/-- The chapter's log in its block. -/
def RbAt (w : World) (r : Nat) (L : List Vt) : Prop := ∃ ka kc, w.heap[r]? = some (.cells #[.slice ka L.length kc, .slice none 0 0] 78 (0, 0)) ∧ VRd w (fun k => r < k) (.slice ka L.length kc) L
theorem RbAt.no {w w' : World} {r : Nat} {L : List Vt} (h : RbAt w r L) (hk : Kept NoB w w') : RbAt w' r L := by
  obtain ⟨ka, kc, h1, h2⟩ := h
  exact ⟨ka, kc, hk.heap (fun h => h) h1, h2.no hk⟩
def C1Rel (W1 : World) (r N : Nat) (it : Nat → Vt) (iv : Value) (wr : World) : Prop :=
  ∃ j : Nat, iv = .int .i64 j ∧ j ≤ N ∧ (∀ i, i < j → lrn (kn it i) (it i) = 0) ∧ KnOk (kn it j) ∧ RbAt wr r (kn it j) ∧ Kept (fun k => k = r) W1 wr
def C1Cut (W1 : World) (r : Nat) (L : List Vt) (v : Vt) (x15 x16 x17 : Value) (wc : World) : Prop :=
  ∃ (s : Nat) (L2 : List Vt) (ka : Option Addr) (kc : Nat), x15 = .pointer (some ⟨s, 0, none⟩) ∧ x17 = .int .i64 (lrn L v) ∧ wc.heap[s]? = some (.cells #[.slice ka L2.length kc, .slice none 0 0] 78 (0, 0)) ∧
    VRd wc (fun i => r < i) (.slice ka L2.length kc) L2 ∧ (lrn L v = 0 → L2 = putV L (zv v)) ∧ Kept NoB W1 wc
theorem VRd.two {w : World} {F : Nat → Prop} {v : Value} {L : List Vt} {r : Nat} {a b : Option Addr} {n c m d : Nat} {t : TypeId} (h : VRd w F v L) (hr : w.heap[r]? = some (.cells #[.slice a n c, .slice b m d] t (0, 0))) : VRd w (fun k => F k ∧ k ≠ r) v L := by
  obtain ⟨a', c', h1, h2, h3, h4, h5⟩ := h
  refine ⟨a', c', h1, h2, h3, h4, fun hp => ?_⟩
  obtain ⟨b', o, e, hF, hb, hc⟩ := h5 hp
  refine ⟨b', o, e, ⟨hF, ?_⟩, hb, hc⟩
  rintro rfl
  obtain ⟨e0, _⟩ := hc 0 hp
  simp only [Nat.zero_mul, Nat.add_zero] at e0
  match o with
  | 0 => rw [(cells2l hr).1] at e0; cases e0
  | 1 => rw [(cells2l hr).2.1] at e0; cases e0
  | o + 2 => simp [World.cell?, hr] at e0
theorem lx_start {w : World} {F S : Nat → Prop} {g bm : Nat} {l0 : List Cf} {a : Option Addr} {c : Nat} (h : LogAt w F g bm [] 0 0 a c l0) (hF : ∀ k, F k → k < w.heap.size ∧ ¬ S k) (hgb : g < w.heap.size ∧ bm < w.heap.size ∧ bm ≠ g) (hs : ∀ k, S k → k < w.heap.size) (hl : l0.length ≤ 1000) : LxAt w w.heap.size S g bm [] 0 l0 (.slice none 0 0) :=
  ⟨⟨F, ⟨⟨0, a, c, h⟩, ⟨Nat.zero_le _, (fun i hi h => absurd h (by omega)), fun hi => absurd hi (by simp)⟩, fun v hv => by cases hv⟩, fun k hk => ⟨(hF k hk).1, (hF k hk).2, fun e => by cases e⟩⟩, XRow.nil _ _, hgb, hs, Nat.le_refl _, hl⟩
def C2Rel (W2 : World) (S : Nat → Prop) (g bm N : Nat) (kl : Nat → List Vt) (l0 : List Cf) (xv iv : Value) (wr : World) : Prop :=
  ∃ j n : Nat, iv = .int .i64 j ∧ j ≤ N ∧ LxAt wr W2.heap.size S g bm (kl j) n l0 xv ∧ Kept (LB g bm) W2 wr
set_option maxRecDepth 100000 in
set_option maxHeartbeats 8000000 in
theorem ChosenOrder_any (w : World) (chains per : Int) (u : Value) (N : Nat) (it : Nat → Vt) (hv : VtsAt w u N it) :
    Calls Try.prog 7 #[.int .i64 chains, .int .i64 per, u] w (BoolE true w) := by
  obtain ⟨ua, uc, rfl, hN63, hcells⟩ := hv
  have HCS := Lib.hid hcells
  have HBX := Lib.hid (beg_ok chains per)
  have HB := Lib.hid (fun w' => RBegin_any chains per w')
  unfold BegE at HB
  obtain ⟨x, hx⟩ : ∃ x, x = begX chains per := ⟨_, rfl⟩
  obtain ⟨l0, hL⟩ : ∃ x, x = begC chains per := ⟨_, rfl⟩
  rw [← hx, ← hL] at HB HBX
  have hNN : (N : Int) ≤ 9223372036854775807 := by omega
  have hN0 : (0 : Int) ≤ (N : Int) := by omega
  clear hcells hx hL
  go_enter Try.func7, Try.ntmps7
  go_wp2_with fail
  refine (HB.out _).mono ?_
  rintro e w1 ⟨kv, rfl, hcf, hk1⟩
  have HC1 := Lib.hid hcf
  have HK1 := Lib.hid hk1
  obtain ⟨fa, fc, rfl, _⟩ := id hcf
  clear hcf hk1
  rcases HBX.out with ⟨rfl, hA⟩ | rfl
  · have HA := Lib.hid hA
    have hl6 : l0.length ≤ 4 := hA.2.1
    clear hA HBX HB
    by_cases h30 : 30 < N
    · have hd : decide (30 < (N : Int)) = true := decide_eq_true (by omega)
      go_wp2_with fail
      refine (awake12 _).mono ?_
      rintro e w5 ⟨rfl, hk5⟩
      have HK5 := Lib.hid (HK1.out.trans hk5 (fun _ _ h => h))
      clear hk5
      go_wp2
      go_ret
      exact ⟨rfl, HK5.out⟩
    · have hd : decide (30 < (N : Int)) = false := decide_eq_false (by omega)
      have hN30 : N ≤ 30 := by omega
      clear h30
      go_wp2_with fail
      refine (LNew_any w1 _ l0 _ HC1.out).mono ?_
      rintro e w2 hne
      rcases hne with ⟨_, g, bm, a1, c1, rfl, hlog, hg, hbm, hk2⟩ | ⟨hbad, _⟩
      rotate_left
      · exact absurd HA.out hbad
      have HLA := Lib.hid hlog.cut
      have HBD : Hid (Bnd l0) := Lib.hid (fun p hp => by
        obtain ⟨_, _, _, _, _, _, _, _, _, _, _, _, hb⟩ := HC1.out.at_ hp
        exact hb.2.1)
      have HGA : Hid (w1.heap.size ≤ g ∧ w1.heap.size ≤ bm ∧ g < w2.heap.size ∧ bm < w2.heap.size ∧ bm ≠ g) := Lib.hid ⟨hg, hbm, hlog.lt⟩
      have HC2 := Lib.hid (HC1.out.kept hk2 (fun _ _ _ h => h))
      have HK2 := Lib.hid (HK1.out.trans hk2 (fun _ _ h => h))
      clear hlog hg hbm hk2
      go_wp2_with fail
      refine (LNew_any w2 _ l0 _ HC2.out).mono ?_
      rintro e w3 hne
      rcases hne with ⟨_, g', bm', a2, c2, rfl, hlog, hg, hbm, hk3⟩ | ⟨hbad, _⟩
      rotate_left
      · exact absurd HA.out hbad
      have HLB := Lib.hid hlog.cut
      have HGB : Hid (w2.heap.size ≤ g' ∧ w2.heap.size ≤ bm' ∧ g' < w3.heap.size ∧ bm' < w3.heap.size ∧ bm' ≠ g') := Lib.hid ⟨hg, hbm, hlog.lt⟩
      have HLA3 := Lib.hid (HLA.out.no hk3)
      have HK3 := Lib.hid (HK2.out.trans hk3 (fun _ _ h => h))
      clear hlog hg hbm hk3 HLA HC1 HC2
      obtain ⟨r, hr⟩ : ∃ r, r = w3.heap.size := ⟨_, rfl⟩
      have HRQ := Lib.hid hr
      have HROW0 := Lib.hid (heap_alloc_new w3 (.cells #[.slice none 0 0, .slice none 0 0] 78))
      rw [← hr] at HROW0
      have HK4 := Lib.hid ((Kept.refl NoB w3).alloc (.cells #[.slice none 0 0, .slice none 0 0] 78))
      have HSZ4 : Hid ((w3.alloc (.cells #[.slice none 0 0, .slice none 0 0] 78)).heap.size = w3.heap.size + 1) := Lib.hid (by simp)
      go_upto_region 7 with fail
      rw [← hr]
      clear hr
      obtain ⟨W1, hW1⟩ : ∃ x, x = w3.alloc (.cells #[.slice none 0 0, .slice none 0 0] 78) := ⟨_, rfl⟩
      rw [← hW1] at HROW0 HK4 HSZ4 ⊢
      clear hW1
      have HK5 := Lib.hid (HK3.out.trans HK4.out (fun _ _ h => h))
      go_wp2_with fail
      go_loopw [14] (C1Rel W1 r N it) (fun i _ => 40 - (RowKit.intOf i).toNat)
      case atStart => exact ⟨0, rfl, Nat.zero_le _, (fun i h => absurd h (by omega)), KnOk.nil, ⟨none, 0, HROW0.out, VRd.nil _ _⟩, Kept.refl _ _⟩
      case round =>
        obtain ⟨j, rfl, hjN, hgood, hkn, hrb, hkr⟩ := hrel
        have HGOOD := Lib.hid hgood
        have HKN := Lib.hid hkn
        have HKR := Lib.hid hkr
        have hj0 : (0 : Int) ≤ (j : Int) := by omega
        obtain ⟨ka, kc, hrow, hvr⟩ := hrb
        have HROW := Lib.hid hrow
        have HVR := Lib.hid hvr
        have HLL : Hid ((kn it j).length ≤ 5000) := Lib.hid (by have := kn_len it j; omega)
        clear hgood hkn hkr hrow hvr
        by_cases hlt : j < N
        · have hj1 : (j : Int) < (N : Int) := by omega
          obtain ⟨b, o, rfl, hbw, hc⟩ := HCS.out (by omega)
          obtain ⟨⟨e0, _, e2, e3, e4, e5⟩, hfit⟩ := hc j hlt
          clear hc
          obtain ⟨y, hy⟩ : ∃ y, y = it j := ⟨_, rfl⟩
          rw [← hy] at e0 e2 e3 e4 e5 hfit
          have HY := Lib.hid hy
          clear hy
          obtain ⟨L, hL⟩ : ∃ L, L = kn it j := ⟨_, rfl⟩
          have HLQ := Lib.hid hL
          rw [← hL] at HKN HROW HVR HLL
          clear hL
          have HLE := Lib.hid (fun w' (hk : Kept NoB wr w') => r_learn w' (fun k => r < k) L ka kc y (HVR.out.no hk) HLL.out HKN.out hfit.2.2.2.2.1)
          have HFIT := Lib.hid hfit
          obtain ⟨vs, vb, vk, vch, vep, vnd⟩ := y
          simp only at e0 e2 e3 e4 e5 HLE
          obtain ⟨X, hX⟩ : ∃ X, X = lrn L ⟨vs, vb, vk, vch, vep, vnd⟩ := ⟨_, rfl⟩
          have HX := Lib.hid hX
          unfold RsE at HLE
          rw [← hX] at HLE
          have HWK : Hid (Kept (fun k => k = r) w wr) := Lib.hid ((HK5.out.mono (T := fun k => k = r) (fun _ _ h => h.elim)).trans HKR.out (fun _ _ h => h))
          have HRB : Hid (b < w.heap.size ∧ w3.heap.size = r ∧ w.heap.size ≤ w3.heap.size) := Lib.hid ⟨hbw, HRQ.out.symm, HK3.out.size⟩
          have hbr : ¬ b = r := by have := HRB.out; omega
          have hrb2 : ¬ r = b := fun h => hbr h.symm
          have f0 := HWK.out.cell (p := ⟨b, o + j * 6, none⟩) hbr e0
          have f2 := HWK.out.cell (p := ⟨b, o + j * 6 + 2, none⟩) hbr e2
          have f3 := HWK.out.cell (p := ⟨b, o + j * 6 + 3, none⟩) hbr e3
          have f4 := HWK.out.cell (p := ⟨b, o + j * 6 + 4, none⟩) hbr e4
          have f5 := HWK.out.cell (p := ⟨b, o + j * 6 + 5, none⟩) hbr e5
          obtain ⟨c0, c1, _, _⟩ := cells2l HROW.out
          have HRL : Hid (r < wr.heap.size) := Lib.hid (heap_lt HROW.out)
          clear e0 e2 e3 e4 e5 hfit hX
          go_upto_region 10 with fail
          go_cut [15, 16, 17] from 52 to 77 (C1Cut wr r L ⟨vs, vb, vk, vch, vep, vnd⟩)
          case first =>
            as_aux_lemma =>
              have HKQ : Hid (Kept NoB wr wr.drew) := Lib.hid (Kept.refl NoB wr).drew
              have HKQ2 : Hid (Kept NoB wr (wr.alloc (.cells #[.slice none 0 0, .slice none 0 0] 78)).drew) := Lib.hid ((Kept.refl NoB wr).alloc _).drew
              have HZW : Hid ((wr.alloc (.cells #[.slice none 0 0, .slice none 0 0] 78)).drew.heap[wr.heap.size]? = some (.cells #[.slice none 0 0, .slice none 0 0] 78 (0, 0))) := Lib.hid (heap_alloc_new wr _)
              have hq1 : ¬ wr.heap.size = r := fun h => by have := HRL.out; omega
              have hq2 : ¬ r = wr.heap.size := fun h => hq1 h.symm
              have hq3 : ¬ wr.heap.size = b := fun h => by have := HRB.out; have := HRL.out; omega
              have hq4 : ¬ b = wr.heap.size := fun h => hq3 h.symm
              go_region_held3 (fun w' => w'.cell? ⟨r, 0, none⟩ = some (.slice ka L.length kc) ∧ w'.cell? ⟨r, 1, none⟩ = some (.slice none 0 0) ∧ w'.cell? ⟨b, o + j * 6, none⟩ = some (.int .i64 vs) ∧ w'.cell? ⟨b, o + j * 6 + 2, none⟩ = some (.int .i64 vk) ∧ w'.cell? ⟨b, o + j * 6 + 3, none⟩ = some (.int .i64 vch) ∧ w'.cell? ⟨b, o + j * 6 + 4, none⟩ = some (.int .u64 vep) ∧ w'.cell? ⟨b, o + j * 6 + 5, none⟩ = some (.int .i64 vnd))
                (first
                  | (with_reducible exact ⟨cell_drew c0, cell_drew c1, cell_drew f0, cell_drew f2, cell_drew f3, cell_drew f4, cell_drew f5⟩)
                  | (with_reducible exact ⟨cell_drew (cell_alloc c0 _), cell_drew (cell_alloc c1 _), cell_drew (cell_alloc f0 _), cell_drew (cell_alloc f2 _), cell_drew (cell_alloc f3 _), cell_drew (cell_alloc f4 _), cell_drew (cell_alloc f5 _)⟩)
                  | (with_reducible exact ⟨kc0, kc1, kf0, kf2, kf3, kf4, kf5⟩)
                  | (with_reducible exact ⟨cell_alloc kc0 _, cell_alloc kc1 _, cell_alloc kf0 _, cell_alloc kf2 _, cell_alloc kf3 _, cell_alloc kf4 _, cell_alloc kf5 _⟩)
                  | go_keep)
                (first
                  | (go_at_call 33; (with_reducible refine (HLE.out _ HKQ.out).mono ?_); rintro e w6 ⟨L2, ka2, kc2, oa2, on2, oc2, rfl, hv2, hX2, hk6⟩; have HV2 := Lib.hid hv2; have HX2 := Lib.hid hX2; have HKB := Lib.hid (HKQ.out.trans hk6 (fun _ _ h => h)); clear hv2 hX2 hk6; have kc0 := HKB.out.cell (p := ⟨r, 0, none⟩) (fun h => h) c0; have kc1 := HKB.out.cell (p := ⟨r, 1, none⟩) (fun h => h) c1; have kf0 := HKB.out.cell (p := ⟨b, o + j * 6, none⟩) (fun h => h) f0; have kf2 := HKB.out.cell (p := ⟨b, o + j * 6 + 2, none⟩) (fun h => h) f2; have kf3 := HKB.out.cell (p := ⟨b, o + j * 6 + 3, none⟩) (fun h => h) f3; have kf4 := HKB.out.cell (p := ⟨b, o + j * 6 + 4, none⟩) (fun h => h) f4; have kf5 := HKB.out.cell (p := ⟨b, o + j * 6 + 5, none⟩) (fun h => h) f5)
                  | (go_at_call 33; (with_reducible refine (HLE.out _ HKQ2.out).mono ?_); rintro e w6 ⟨L2, ka2, kc2, oa2, on2, oc2, rfl, hv2, hX2, hk6⟩; have HV2 := Lib.hid hv2; have HX2 := Lib.hid hX2; have HKB := Lib.hid (HKQ2.out.trans hk6 (fun _ _ h => h)); have HZ6 := Lib.hid (hk6.heap (fun h => h) HZW.out); obtain ⟨x0, x1, z0, z1⟩ := cells2l HZ6.out; clear hv2 hX2 hk6; have kc0 := HKB.out.cell (p := ⟨r, 0, none⟩) (fun h => h) c0; have kc1 := HKB.out.cell (p := ⟨r, 1, none⟩) (fun h => h) c1; have kf0 := HKB.out.cell (p := ⟨b, o + j * 6, none⟩) (fun h => h) f0; have kf2 := HKB.out.cell (p := ⟨b, o + j * 6 + 2, none⟩) (fun h => h) f2; have kf3 := HKB.out.cell (p := ⟨b, o + j * 6 + 3, none⟩) (fun h => h) f3; have kf4 := HKB.out.cell (p := ⟨b, o + j * 6 + 4, none⟩) (fun h => h) f4; have kf5 := HKB.out.cell (p := ⟨b, o + j * 6 + 5, none⟩) (fun h => h) f5))
              · have HREL : Hid (C1Cut wr r L ⟨vs, vb, vk, vch, vep, vnd⟩ (.pointer (some ⟨w6.heap.size, 0, none⟩)) (.slice oa2 on2 oc2) (.int .i64 X) (w6.alloc (.cells #[.slice ka2 L2.length kc2, .slice none 0 0] 78))) := Lib.hid ⟨_, L2, ka2, kc2, rfl, by rw [← HX.out], heap_alloc_new _ _,
                  (HV2.out.mono (G := fun i => r < i) (fun i hi h => h.elim id (fun h => by have := HRL.out; have := HKQ.out.size; omega))).no ((Kept.refl NoB w6).alloc _), (fun h => HX2.out (HX.out.trans h)), HKB.out.alloc _⟩
                clear c0 c1 f0 f2 f3 f4 f5 kc0 kc1 kf0 kf2 kf3 kf4 kf5 hq1 hq2 hq3 hq4
                go_wp2_with fail
                go_meet
                exact HREL.out
              · have HREL : Hid (C1Cut wr r L ⟨vs, vb, vk, vch, vep, vnd⟩ (.pointer (some ⟨wr.heap.size, 0, none⟩)) (.slice oa2 on2 oc2) (.int .i64 X) ((w6.setCell ⟨wr.heap.size, 0, none⟩ (.slice ka2 L2.length kc2)).setCell ⟨wr.heap.size, 1, none⟩ (.slice none 0 0))) := Lib.hid (by
                  have hks := ((Kept.refl (fun i => i = wr.heap.size) w6).setCell (p := ⟨wr.heap.size, 0, none⟩) (.inl rfl) (.slice ka2 L2.length kc2)).setCell (p := ⟨wr.heap.size, 1, none⟩) (.inl rfl) (.slice none 0 0)
                  exact ⟨_, L2, ka2, kc2, rfl, by rw [← HX.out], blkA_set (blkA_set HZ6.out 0 _) 1 _, ((HV2.out.two HZ6.out).kept hks (fun i h e => h.2 e)).mono (fun i _ h => h.1.elim id (fun h => by have := HRL.out; have := HKQ2.out.size; omega)), (fun h => HX2.out (HX.out.trans h)),
                    (HKB.out.setCell (p := ⟨wr.heap.size, 0, none⟩) (.inr (Nat.le_refl _)) (.slice ka2 L2.length kc2)).setCell (p := ⟨wr.heap.size, 1, none⟩) (.inr (Nat.le_refl _)) (.slice none 0 0)⟩)
                clear c0 c1 f0 f2 f3 f4 f5 kc0 kc1 kf0 kf2 kf3 kf4 kf5 hq1 hq2 hq3 hq4 x0 x1 z0 z1
                go_wp2_with fail
                go_meet
                exact HREL.out
          case rest =>
            as_aux_lemma =>
              obtain ⟨s15, L2, ka2, kc2, rfl, h17, hrs, hvr2, hX2, hkc⟩ := hcut
              rw [← HX.out] at h17 hX2
              subst h17
              have HV2 := Lib.hid hvr2
              have HX2 := Lib.hid hX2
              have HKC := Lib.hid hkc
              have HRS := Lib.hid hrs
              have HKW : Hid (Kept NoB w wc) := Lib.hid ((HWK.out.trans (hkc.mono (T := fun k => k = r) (fun _ _ h => h.elim)) (fun _ _ h => h)).mono (fun i hi e => by have := HRB.out; have e : i = r := e; omega))
              clear c0 c1 f0 f2 f3 f4 f5 hvr2 hX2 hkc hrs
              by_cases hx0 : X = 0
              · have hxb : (X != 0) = false := by simpa using hx0
                have HX0 := Lib.hid hx0
                clear hx0
                have HROWc := Lib.hid (HKC.out.heap (fun h => h) HROW.out)
                obtain ⟨x0, x1, _, _⟩ := cells2l HRS.out
                obtain ⟨c0, c1, g0, g1⟩ := cells2l HROWc.out
                go_upto_region 9 with fail
                have HSET := Lib.hid (((Kept.refl (fun i => i = r) wc).setCell (p := ⟨r, 0, none⟩) (.inl rfl) (.slice ka2 L2.length kc2)).setCell (p := ⟨r, 1, none⟩) (.inl rfl) (.slice none 0 0))
                have HRN := Lib.hid (blkA_set (blkA_set HROWc.out 0 (.slice ka2 L2.length kc2)) 1 (.slice none 0 0))
                obtain ⟨W3, hW3⟩ : ∃ x, x = (wc.setCell ⟨r, 0, none⟩ (.slice ka2 L2.length kc2)).setCell ⟨r, 1, none⟩ (.slice none 0 0) := ⟨_, rfl⟩
                rw [← hW3] at HSET HRN ⊢
                clear hW3 x0 x1 c0 c1 g0 g1
                have hL2 : L2 = kn it (j + 1) := by
                  rw [HX2.out HX0.out, HLQ.out, HY.out]
                  rfl
                have HFIN : Hid (C1Rel W1 r N it (.int .i64 ((j : Int) + 1)) W3) := Lib.hid (by
                  refine ⟨j + 1, by go_num, by omega, fun i hi => ?_, ?_, ?_, (HKR.out.trans (HKC.out.mono (T := fun k => k = r) (fun _ _ h => h.elim)) (fun _ _ h => h)).trans HSET.out (fun _ _ h => h)⟩
                  · by_cases e : i < j
                    · exact HGOOD.out i e
                    · obtain rfl : i = j := by omega
                      rw [← HY.out, ← HLQ.out, ← HX.out, HX0.out]
                  · rw [← hL2, HX2.out HX0.out]
                    exact HKN.out.put (by rw [← HX.out, HX0.out]) HFIT.out.2.2.2.2.1 HFIT.out.2.2.2.2.2
                  · rw [← hL2]
                    exact ⟨ka2, kc2, HRN.out, HV2.out.kept HSET.out (fun i h e => by have e : i = r := e; omega)⟩)
                clear hL2
                go_wp2
                exact ⟨HFIN.out, by simp [RowKit.intOf]; omega⟩
              · have hxb : (X != 0) = true := by simpa using hx0
                clear hx0
                go_wp2_with fail
                refine (awake12 _).mono ?_
                rintro e w5 ⟨rfl, hk5⟩
                have HK6 := Lib.hid (HKW.out.trans hk5 (fun _ _ h => h))
                clear hk5
                go_wp2
                go_ret
                exact ⟨rfl, HK6.out⟩
        · as_aux_lemma =>
            have hj3 : decide ((j : Int) < (N : Int)) = false := decide_eq_false (by omega)
            obtain rfl : j = N := by omega
            have HRR := Lib.hid HRQ.out
            have HZR : Hid (r < wr.heap.size) := Lib.hid (heap_lt HROW.out)
            have HLX0 : Hid (LxAt wr wr.heap.size (LB g' bm') g bm (kn it 0) 0 l0 (.slice none 0 0)) := Lib.hid (by
              have h1 := (HLA3.out.no HK4.out).kept HKR.out (fun e => by have := HGA.out; have := HGB.out; have := HRR.out; have e : g = r := e; omega) (fun e => by have := HGA.out; have := HGB.out; have := HRR.out; have e : bm = r := e; omega) (fun k _ hk e => by have := HGB.out; have := HRR.out; have := hk.2; have e : k = r := e; omega)
              refine lx_start h1 (fun k hk => ⟨by have := hk.2; have := HGB.out; have := HRR.out; have := HZR.out; omega, fun e => by have := hk.2; have := HGB.out; rcases e with e | e <;> omega⟩) ?_ (fun k e => ?_) (by omega)
              · have := HGA.out; have := HGB.out; have := HRR.out; have := HZR.out; omega
              · have := HGB.out; have := HRR.out; have := HZR.out; rcases e with e | e <;> omega)
            have HLB0 : Hid (LogAt wr (fun k => (w2.heap.size ≤ k ∧ NL g' bm' k) ∧ k < w3.heap.size) g' bm' [] 0 0 a2 c2 l0) := Lib.hid ((HLB.out.no HK4.out).kept HKR.out (fun e => by have := HGB.out; have := HRR.out; have e : g' = r := e; omega) (fun e => by have := HGB.out; have := HRR.out; have e : bm' = r := e; omega) (fun k _ hk e => by have := HRR.out; have := hk.2; have e : k = r := e; omega))
            have HKW : Hid (Kept NoB w wr) := Lib.hid (((HK5.out.mono (T := fun k => k = r) (fun _ _ h => h.elim)).trans HKR.out (fun _ _ h => h)).mono (fun i hi e => by have := HRR.out; have := HK3.out.size; have e : i = r := e; omega))
            have HRB : Hid (w3.heap.size = r ∧ w.heap.size ≤ w3.heap.size) := Lib.hid ⟨HRQ.out.symm, HK3.out.size⟩
            go_wp2_with fail
            rename World => W2
            go_loopw [18, 20] (C2Rel W2 (LB g' bm') g bm j (kn it) l0) (fun _ i _ => 40 - (RowKit.intOf i).toNat)
            case atStart => exact ⟨0, 0, rfl, Nat.zero_le _, HLX0.out, Kept.refl _ _⟩
            case round =>
              obtain ⟨i, n, rfl, hiN, hlx, hk2⟩ := hrel
              have HLX := Lib.hid hlx
              have HKR2 := Lib.hid hk2
              have hi0 : (0 : Int) ≤ (i : Int) := by omega
              obtain ⟨xa, xc, rfl⟩ := hlx.row.form
              clear hlx hk2
              by_cases hlt : i < j
              · as_aux_lemma =>
                  have hi1 : (i : Int) < (j : Int) := by omega
                  obtain ⟨b, o, rfl, hbw, hc⟩ := HCS.out (by omega)
                  obtain ⟨⟨e0, _, e2, e3, e4, e5⟩, hfit⟩ := hc i hlt
                  clear hc
                  have hgd := HGOOD.out i hlt
                  have HKS : Hid (kn it (i + 1) = putV (kn it i) (zv (it i))) := Lib.hid rfl
                  have HLEN : Hid ((kn it i).length ≤ 30 ∧ (kn it (i + 1)).length ≤ 31) := Lib.hid (by have := kn_len it i; have := kn_len it (i + 1); omega)
                  obtain ⟨L2, hL2⟩ : ∃ L2, L2 = kn it (i + 1) := ⟨_, rfl⟩
                  have HL2 := Lib.hid hL2
                  rw [← hL2] at HKS HLEN
                  clear hL2
                  obtain ⟨L, hL⟩ : ∃ L, L = kn it i := ⟨_, rfl⟩
                  rw [← hL] at HLX hgd HKS HLEN ⊢
                  clear hL
                  obtain ⟨y, hy⟩ : ∃ y, y = it i := ⟨_, rfl⟩
                  rw [← hy] at e0 e2 e3 e4 e5 hfit hgd HKS
                  clear hy
                  obtain ⟨m, hm⟩ := lead_ex L2
                  have HM := Lib.hid hm
                  rw [HKS.out] at hm
                  have HLE := Lib.hid (fun w' (hk : Kept NoB wr w') => x_learn w' _ _ g bm L n m l0 _ (HLX.out.no hk) y hfit.2.2.2.2.1 hfit.2.2.2.2.2 hgd hm)
                  rw [← HKS.out] at HLE
                  obtain ⟨vs, vb, vk, vch, vep, vnd⟩ := y
                  simp only at e0 e2 e3 e4 e5 HLE
                  obtain ⟨C, hC⟩ : ∃ C, C = (runC l0 (L.take n)).1 := ⟨_, rfl⟩
                  have hcl : C.length ≤ 30 := by rw [hC]; have := runC_few l0 (L.take n); have := HLEN.out; rw [List.length_take] at *; omega
                  rw [← hC] at HLE ⊢
                  unfold LzE at HLE
                  clear hgd hm hC
                  have HNB : Hid (∀ k, k < w.heap.size → ¬ LB g bm k) := Lib.hid (fun k hk e => by have := HGA.out; have := HK1.out.size; rcases e with e | e <;> omega)
                  have HWK : Hid (Kept (LB g bm) w wr) := Lib.hid ((HKW.out.mono (T := LB g bm) (fun _ _ h => h.elim)).trans HKR2.out (fun _ _ h => h))
                  have f0 := HWK.out.cell (p := ⟨b, o + i * 6, none⟩) (HNB.out b hbw) e0
                  have f2 := HWK.out.cell (p := ⟨b, o + i * 6 + 2, none⟩) (HNB.out b hbw) e2
                  have f3 := HWK.out.cell (p := ⟨b, o + i * 6 + 3, none⟩) (HNB.out b hbw) e3
                  have f4 := HWK.out.cell (p := ⟨b, o + i * 6 + 4, none⟩) (HNB.out b hbw) e4
                  have f5 := HWK.out.cell (p := ⟨b, o + i * 6 + 5, none⟩) (HNB.out b hbw) e5
                  have hnb := HNB.out b hbw
                  have HKQ : Hid (Kept NoB wr wr.drew) := Lib.hid (Kept.refl NoB wr).drew
                  clear e0 e2 e3 e4 e5 hfit
                  go_upto_region 18 with fail
                  go_region_held3 (fun w' => w'.cell? ⟨b, o + i * 6, none⟩ = some (.int .i64 vs) ∧ w'.cell? ⟨b, o + i * 6 + 2, none⟩ = some (.int .i64 vk) ∧ w'.cell? ⟨b, o + i * 6 + 3, none⟩ = some (.int .i64 vch) ∧ w'.cell? ⟨b, o + i * 6 + 4, none⟩ = some (.int .u64 vep) ∧ w'.cell? ⟨b, o + i * 6 + 5, none⟩ = some (.int .i64 vnd))
                    (first
                      | (with_reducible exact ⟨cell_drew f0, cell_drew f2, cell_drew f3, cell_drew f4, cell_drew f5⟩)
                      | (with_reducible exact ⟨kf0, kf2, kf3, kf4, kf5⟩)
                      | go_keep)
                    (first
                      | (go_at_call 34; (with_reducible refine (HLE.out _ HKQ.out).mono ?_); rintro e wl ⟨D, oa, oc, rfl, hly, hk1⟩; have HLY := Lib.hid hly; have HKA := Lib.hid ((HKQ.out.mono (T := LB g bm) (fun _ _ h => h.elim)).trans hk1 (fun _ _ h => h)); clear hly hk1; have kf0 := HKA.out.cell (p := ⟨b, o + i * 6, none⟩) hnb f0; have kf2 := HKA.out.cell (p := ⟨b, o + i * 6 + 2, none⟩) hnb f2; have kf3 := HKA.out.cell (p := ⟨b, o + i * 6 + 3, none⟩) hnb f3; have kf4 := HKA.out.cell (p := ⟨b, o + i * 6 + 4, none⟩) hnb f4; have kf5 := HKA.out.cell (p := ⟨b, o + i * 6 + 5, none⟩) hnb f5))
                  all_goals
                    clear f0 f2 f3 f4 f5 kf0 kf2 kf3 kf4 kf5
                    have HDL : Hid (C.length + D.length ≤ 100000) := Lib.hid (by
                      have h1 := HLY.out.all
                      have h2 := runC_few l0 (L2.take m)
                      rw [h1, List.length_append] at h2
                      rw [List.length_take] at h2
                      have := HLEN.out
                      omega)
                    go_upto_region 20 with (at_builtin; refine wpList_append_x _ rfl (.tmp 99) (.tmp 100) rfl _ _ _ C D rfl rfl HLY.out.row _ HLY.out.came (fun _ h => h) HDL.out HLY.out.bw ?_; intro a6 c6 w6 hrow6 hgr6 hat6; have HAP := Lib.hid (HLY.out.app hrow6 hgr6 hat6); clear hrow6 hgr6 hat6)
                    have HFIN : Hid (C2Rel W2 (LB g' bm') g bm j (kn it) l0 (.slice a6 (C.length + D.length) c6) (.int .i64 ((i : Int) + 1)) w6) := Lib.hid ⟨i + 1, m, by go_num, by omega, by rw [← HL2.out]; exact HAP.out.1, (HKR2.out.trans HKA.out (fun _ _ h => h)).trans HAP.out.2 (fun k hk h => absurd hk (by have h : W2.heap.size ≤ k := h; omega))⟩
                    clear HAP HLY HDL
                    go_wp2
                    exact ⟨HFIN.out, by simp [RowKit.intOf]; omega⟩
              · as_aux_lemma =>
                  have hi3 : decide ((i : Int) < (j : Int)) = false := decide_eq_false (by omega)
                  obtain rfl : i = j := by omega
                  have hjN2 := hjN
                  obtain ⟨K, hK⟩ : ∃ K, K = kn it i := ⟨_, rfl⟩
                  rw [← hK] at HLX HKN HROW HVR HLL ⊢
                  clear hK
                  have HGR : Hid (g < w3.heap.size ∧ bm < w3.heap.size ∧ r = w3.heap.size ∧ g' < w3.heap.size ∧ bm' < w3.heap.size) := Lib.hid (by have := HGA.out; have := HGB.out; have := HRQ.out; omega)
                  have HROW3 := Lib.hid (HKR2.out.heap (fun e => by have := HGR.out; rcases e with e | e <;> omega) HROW.out)
                  have HVR3 := Lib.hid (HVR.out.kept HKR2.out (fun k hk e => by have := HGR.out; rcases e with e | e <;> omega))
                  have HZR3 : Hid (r < wr.heap.size ∧ W2.heap.size ≤ wr.heap.size) := Lib.hid ⟨heap_lt HROW3.out, HKR2.out.size⟩
                  have HLX0 : Hid (LxAt wr wr.heap.size (LB g bm) g' bm' (K.take 0) 0 l0 (.slice none 0 0)) := Lib.hid (by
                    have h1 := HLB0.out.kept HKR2.out (fun e => by have := HGA.out; have := HGB.out; rcases e with e | e <;> omega) (fun e => by have := HGA.out; have := HGB.out; rcases e with e | e <;> omega) (fun k _ hk e => by have := HGA.out; have := hk.1.1; rcases e with e | e <;> omega)
                    refine lx_start h1 (fun k hk => ⟨by have := hk.2; have := HGR.out; have := HZR3.out; omega, fun e => by have := hk.1.1; have := HGA.out; rcases e with e | e <;> omega⟩) ?_ (fun k e => ?_) (by omega)
                    · have := HGB.out; have := HGR.out; have := HZR3.out; omega
                    · have := HGR.out; have := HZR3.out; rcases e with e | e <;> omega)
                  have HKW3 : Hid (Kept NoB w wr) := Lib.hid (((HKW.out.mono (T := LB g bm) (fun _ _ h => h.elim)).trans HKR2.out (fun _ _ h => h)).mono (fun k hk e => by have := HGA.out; have := HK1.out.size; rcases e with e | e <;> omega))
                  clear HROW HVR HKR2 HKW HLB0 HLA3
                  go_wp2_with fail
                  rename World => W3
                  go_loopw [19, 23] (C2Rel W3 (LB g bm) g' bm' K.length (fun q => K.take q) l0) (fun _ i _ => K.length - (RowKit.intOf i).toNat)
                  case atStart => exact ⟨0, 0, rfl, Nat.zero_le _, HLX0.out, Kept.refl _ _⟩
                  case round =>
                    obtain ⟨q, n', rfl, hqN, hly, hk3⟩ := hrel
                    have HLY := Lib.hid hly
                    have HKR3 := Lib.hid hk3
                    have hq0 : (0 : Int) ≤ (q : Int) := by omega
                    obtain ⟨ya, yc, rfl⟩ := hly.row.form
                    clear hly hk3
                    have hnr : ¬ LB g' bm' r := fun e => by have := HGR.out; rcases e with e | e <;> omega
                    have hrow := HKR3.out.heap hnr HROW3.out
                    obtain ⟨c0, c1, _, _⟩ := cells2l hrow
                    clear hrow
                    by_cases hlt : q < K.length
                    · as_aux_lemma =>
                        have hq1 : (q : Int) < (K.length : Int) := by omega
                        have hKl := HLL.out
                        obtain ⟨b, o, rfl, hbr, hbw, e0, _, e2, e3, e4, e5⟩ := HVR3.out.at_ q hlt
                        obtain ⟨hgd, hput⟩ := HKN.out.take q hlt
                        have hok := (HKN.out.ok _ (List.getElem_mem hlt)).1
                        obtain ⟨m, hm⟩ := lead_ex (K.take (q + 1))
                        have HM := Lib.hid hm
                        rw [← hput] at hm
                        have HLE := Lib.hid (fun w' (hk : Kept NoB wr w') => x_learn w' _ _ g' bm' (K.take q) n' m l0 _ (HLY.out.no hk) K[q] hok.2.2.2.2.1 hok.2.2.2.2.2 hgd hm)
                        rw [hput] at HLE
                        have hcl : (runC l0 ((K.take q).take n')).1.length ≤ 5000 := by have := runC_few l0 ((K.take q).take n'); have := HLL.out; rw [List.length_take, List.length_take] at *; omega
                        obtain ⟨C, hC⟩ : ∃ C, C = (runC l0 ((K.take q).take n')).1 := ⟨_, rfl⟩
                        rw [← hC] at HLE hcl ⊢
                        have HFEW : Hid ((runC l0 ((K.take (q + 1)).take m)).1.length ≤ 5000) := Lib.hid (by have := runC_few l0 ((K.take (q + 1)).take m); have := HLL.out; rw [List.length_take, List.length_take] at *; omega)
                        obtain ⟨y, hy⟩ : ∃ y, y = K[q] := ⟨_, rfl⟩
                        rw [← hy] at e0 e2 e3 e4 e5 HLE
                        clear hy hgd hput hok hm hC
                        obtain ⟨vs, vb, vk, vch, vep, vnd⟩ := y
                        simp only at e0 e2 e3 e4 e5 HLE
                        unfold LzE at HLE
                        have hnb : ¬ LB g' bm' b := fun e => by have := HGR.out; rcases e with e | e <;> omega
                        have f0 := HKR3.out.cell (p := ⟨b, o + q * 6, none⟩) hnb e0
                        have f2 := HKR3.out.cell (p := ⟨b, o + q * 6 + 2, none⟩) hnb e2
                        have f3 := HKR3.out.cell (p := ⟨b, o + q * 6 + 3, none⟩) hnb e3
                        have f4 := HKR3.out.cell (p := ⟨b, o + q * 6 + 4, none⟩) hnb e4
                        have f5 := HKR3.out.cell (p := ⟨b, o + q * 6 + 5, none⟩) hnb e5
                        have HKQ : Hid (Kept NoB wr wr.drew) := Lib.hid (Kept.refl NoB wr).drew
                        clear e0 e2 e3 e4 e5
                        go_upto_region 25 with fail
                        go_region_held3 (fun w' => w'.cell? ⟨r, 0, none⟩ = some (.slice (some ⟨b, o, none⟩) K.length kc) ∧ w'.cell? ⟨b, o + q * 6, none⟩ = some (.int .i64 vs) ∧ w'.cell? ⟨b, o + q * 6 + 2, none⟩ = some (.int .i64 vk) ∧ w'.cell? ⟨b, o + q * 6 + 3, none⟩ = some (.int .i64 vch) ∧ w'.cell? ⟨b, o + q * 6 + 4, none⟩ = some (.int .u64 vep) ∧ w'.cell? ⟨b, o + q * 6 + 5, none⟩ = some (.int .i64 vnd))
                          (first
                            | (with_reducible exact ⟨cell_drew c0, cell_drew f0, cell_drew f2, cell_drew f3, cell_drew f4, cell_drew f5⟩)
                            | (with_reducible exact ⟨kc0, kf0, kf2, kf3, kf4, kf5⟩)
                            | go_keep)
                          (first
                            | (go_at_call 34; (with_reducible refine (HLE.out _ HKQ.out).mono ?_); rintro e wl ⟨D, oa, oc, rfl, hly, hk1⟩; have HLZ := Lib.hid hly; have HKA := Lib.hid ((HKQ.out.mono (T := LB g' bm') (fun _ _ h => h.elim)).trans hk1 (fun _ _ h => h)); clear hly hk1; have kc0 := HKA.out.cell (p := ⟨r, 0, none⟩) hnr c0; have kf0 := HKA.out.cell (p := ⟨b, o + q * 6, none⟩) hnb f0; have kf2 := HKA.out.cell (p := ⟨b, o + q * 6 + 2, none⟩) hnb f2; have kf3 := HKA.out.cell (p := ⟨b, o + q * 6 + 3, none⟩) hnb f3; have kf4 := HKA.out.cell (p := ⟨b, o + q * 6 + 4, none⟩) hnb f4; have kf5 := HKA.out.cell (p := ⟨b, o + q * 6 + 5, none⟩) hnb f5))
                        all_goals
                          clear c0 c1 f0 f2 f3 f4 f5 kc0 kf0 kf2 kf3 kf4 kf5
                          have HDL : Hid (C.length + D.length ≤ 100000) := Lib.hid (by
                            have h1 := HLZ.out.all
                            have h2 := HFEW.out
                            rw [h1, List.length_append] at h2
                            omega)
                          go_upto_region 27 with (at_builtin; refine wpList_append_x _ rfl (.tmp 128) (.tmp 129) rfl _ _ _ C D rfl rfl HLZ.out.row _ HLZ.out.came (fun _ h => h) HDL.out HLZ.out.bw ?_; intro a6 c6 w6 hrow6 hgr6 hat6; have HAP := Lib.hid (HLZ.out.app hrow6 hgr6 hat6); clear hrow6 hgr6 hat6)
                          have HFIN : Hid (C2Rel W3 (LB g bm) g' bm' K.length (fun q => K.take q) l0 (.slice a6 (C.length + D.length) c6) (.int .i64 ((q : Int) + 1)) w6) := Lib.hid ⟨q + 1, m, by go_num, by omega, HAP.out.1, (HKR3.out.trans HKA.out (fun _ _ h => h)).trans HAP.out.2 (fun k hk h => absurd hk (by have h : W3.heap.size ≤ k := h; omega))⟩
                          clear HAP HLZ HDL
                          go_wp2
                          exact ⟨HFIN.out, by simp [RowKit.intOf]; omega⟩
                    · as_aux_lemma =>
                        have hq3 : decide ((q : Int) < (K.length : Int)) = false := decide_eq_false (by omega)
                        obtain rfl : q = K.length := by omega
                        have hx := HLX.out.keptS HKR3.out (fun e => by have := HGA.out; have := HGB.out; rcases e with e | e <;> omega) (fun e => by have := HGA.out; have := HGB.out; rcases e with e | e <;> omega)
                        have HKW4 : Hid (Kept NoB w wr) := Lib.hid (((HKW3.out.mono (T := LB g' bm') (fun _ _ h => h.elim)).trans HKR3.out (fun _ _ h => h)).mono (fun k hk e => by have := HGB.out; have := HK2.out.size; rcases e with e | e <;> omega))
                        obtain ⟨G1, hka, _⟩ := hx.at_
                        obtain ⟨G2, hkb, _⟩ := HLY.out.at_
                        have hkb : LkAt wr G2 g' bm' (K.take K.length) n' l0 := hkb
                        rw [List.take_length] at hkb
                        obtain rfl := hka.lead.one hkb.lead
                        have hxr := hx.row
                        have hyr : XRow _ wr _ (runC l0 ((K.take K.length).take n)).1 := HLY.out.row
                        simp only [List.take_length] at hyr
                        have HRIS := Lib.hid (run_ris (vs := K.take n) HA.out HBD.out (fun v hv => (HKN.out.ok v (List.mem_of_mem_take hv)).2)).1
                        have hdl : (runC l0 (K.take n)).1.length ≤ 5000 := by have := runC_few l0 (K.take n); have := HLL.out; rw [List.length_take] at *; omega
                        obtain ⟨dn1, la1, lc1, hl1⟩ := hka.log
                        obtain ⟨dn2, la2, lc2, hl2⟩ := hkb.log
                        have HCA := Lib.hid (fun w' (hk : Kept NoB wr w') => LConfs_any w' G1 g bm K n dn1 la1 lc1 _ (hl1.no hk))
                        have HCB := Lib.hid (fun w' (hk : Kept NoB wr w') => LConfs_any w' G2 g' bm' K n dn2 la2 lc2 _ (hl2.no hk))
                        obtain ⟨lN, hlN⟩ : ∃ x, x = (runC l0 (K.take n)).2 := ⟨_, rfl⟩
                        rw [← hlN] at HCA HCB
                        obtain ⟨D, hD⟩ : ∃ x, x = (runC l0 (K.take n)).1 := ⟨_, rfl⟩
                        rw [← hD] at hxr hyr HRIS hdl
                        simp only [List.take_length, ← hD]
                        have HX := Lib.hid hxr.cfs
                        have HY := Lib.hid hyr.cfs
                        clear hxr hyr hx hka hkb hl1 hl2 hlN hD HLX HLY HKN HGOOD HROW3 HVR3 HKR3
                        go_wp2_with fail
                        rename World => W4
                        have hD0 : (D.length : Int) ≤ 5000 := by omega
                        go_loopw [26] (fun iv wr => ∃ p : Nat, iv = .int .i64 p ∧ p ≤ D.length ∧ Kept NoB W4 wr) (fun i _ => D.length - (RowKit.intOf i).toNat)
                        case atStart => exact ⟨0, rfl, Nat.zero_le _, Kept.refl _ _⟩
                        case round =>
                          obtain ⟨p, rfl, hpD, hk4⟩ := hrel
                          have HK4 := Lib.hid hk4
                          have hp0 : (0 : Int) ≤ (p : Int) := by omega
                          clear hk4
                          by_cases hlt : p < D.length
                          · have hp1 : (p : Int) < (D.length : Int) := by omega
                            go_wp2_with fail
                            rename World => W5
                            go_loopw [27] (fun iv wr => ∃ q : Nat, iv = .int .i64 q ∧ q ≤ p ∧ Kept NoB W5 wr) (fun i _ => p - (RowKit.intOf i).toNat)
                            case atStart => exact ⟨0, rfl, Nat.zero_le _, Kept.refl _ _⟩
                            case round =>
                              obtain ⟨q, rfl, hqp, hk5⟩ := hrel
                              have HK5b := Lib.hid hk5
                              have hq0 : (0 : Int) ≤ (q : Int) := by omega
                              have hxw := HX.out.kept (HK4.out.trans hk5 (fun _ _ h => h)) (fun _ _ _ h => h)
                              clear hk5
                              by_cases hqlt : q < p
                              · have hq1 : (q : Int) < (p : Int) := by omega
                                have hq2 : (q : Int) < (D.length : Int) := by omega
                                obtain ⟨b, o, rfl, _, _, u1, c0, c1, _, _, _, _, _⟩ := hxw.at_ hlt
                                obtain ⟨b2, o2, hbo, _, _, u2, d0, d1, _, _, _, _, _⟩ := hxw.at_ (j := q) (by omega)
                                simp only [Option.some.injEq, Addr.mk.injEq, and_true] at hbo
                                obtain ⟨rfl, rfl⟩ := hbo
                                have hris := ris_at HRIS.out hqlt hlt
                                clear hxw
                                obtain ⟨pch, hpch⟩ : ∃ x, x = (nthC D p).ch := ⟨_, rfl⟩
                                obtain ⟨pep, hpep⟩ : ∃ x, x = (nthC D p).ep := ⟨_, rfl⟩
                                obtain ⟨qch, hqch⟩ : ∃ x, x = (nthC D q).ch := ⟨_, rfl⟩
                                obtain ⟨qep, hqep⟩ : ∃ x, x = (nthC D q).ep := ⟨_, rfl⟩
                                rw [← hpch] at c0 hris
                                rw [← hpep] at c1 hris
                                rw [← hqch] at d0 hris
                                rw [← hqep] at d1 hris
                                clear hpch hpep hqch hqep
                                have HNX : Hid (∀ w', Kept NoB wr w' → Kept NoB W5 w') := Lib.hid (fun w' hk => HK5b.out.trans hk (fun _ _ h => h))
                                by_cases hch : qch = pch
                                · have hle : decide (pep ≤ qep) = false := decide_eq_false (by have := hris hch; omega)
                                  subst hch
                                  clear hris
                                  go_wp2_with fail
                                  go_quiet (fail)
                                  all_goals
                                    go_wp2
                                    exact ⟨⟨q + 1, by go_num, by omega, HNX.out _ ((Kept.refl NoB wr).drewN _)⟩, by simp [RowKit.intOf]; omega⟩
                                · have hchb : (qch == pch) = false := by simpa using hch
                                  clear hris hch
                                  go_wp2_with fail
                                  go_quiet (fail)
                                  all_goals
                                    go_wp2
                                    exact ⟨⟨q + 1, by go_num, by omega, HNX.out _ ((Kept.refl NoB wr).drewN _)⟩, by simp [RowKit.intOf]; omega⟩
                              · have hq3 : decide ((q : Int) < (p : Int)) = false := decide_eq_false (by omega)
                                have HNX := Lib.hid (HK4.out.trans HK5b.out (fun _ _ h => h))
                                clear hxw
                                go_wp2
                                exact ⟨⟨p + 1, by go_num, by omega, HNX.out⟩, by simp [RowKit.intOf]; omega⟩
                          · have hp3 : decide ((p : Int) < (D.length : Int)) = false := decide_eq_false (by omega)
                            have HXY : Hid (∀ w', Kept NoB W4 w' → Calls Try.prog 35 #[.slice xa D.length xc, .slice ya D.length yc] w' (BoolE true w')) := Lib.hid (fun w' hk => same_two (HX.out.no3 hk) (HY.out.no3 hk))
                            have HKe := Lib.hid HK4.out
                            go_wp2_with fail
                            refine (HXY.out _ HKe.out).mono ?_
                            rintro e v1 ⟨rfl, hq1⟩
                            replace HKe := Lib.hid (HKe.out.trans hq1 (fun _ _ h => h))
                            clear hq1
                            go_wp2_with fail
                            refine (HCA.out _ HKe.out).mono ?_
                            rintro e v2 ⟨za, zc, rfl, hz1, hq2⟩
                            have HZ1 := Lib.hid hz1
                            replace HKe := Lib.hid (HKe.out.trans hq2 (fun _ _ h => h))
                            clear hq2 hz1
                            go_wp2_with fail
                            refine (HCB.out _ HKe.out).mono ?_
                            rintro e v3 ⟨za2, zc2, rfl, hz2, hq2⟩
                            have HZ2 := Lib.hid hz2
                            have HZ1b := Lib.hid (HZ1.out.kept hq2 (fun _ _ _ h => h))
                            replace HKe := Lib.hid (HKe.out.trans hq2 (fun _ _ h => h))
                            clear hq2 hz2
                            have HSS := Lib.hid (same_two HZ1b.out HZ2.out)
                            go_wp2_with fail
                            refine HSS.out.mono ?_
                            rintro e v4 ⟨rfl, hq1⟩
                            replace HKe := Lib.hid (HKe.out.trans hq1 (fun _ _ h => h))
                            clear hq1
                            go_wp2_with fail
                            refine (awake12 _).mono ?_
                            rintro e v5 ⟨rfl, hq1⟩
                            replace HKe := Lib.hid (HKW4.out.trans (HKe.out.trans hq1 (fun _ _ h => h)) (fun _ _ h => h))
                            clear hq1
                            go_wp2
                            go_ret
                            exact ⟨rfl, HKe.out⟩
  · go_wp2_with fail
    refine (awake12 _).mono ?_
    rintro e w5 ⟨rfl, hk5⟩
    have HK5 := Lib.hid (HK1.out.trans hk5 (fun _ _ h => h))
    clear hk5
    go_wp2
    go_ret
    exact ⟨rfl, HK5.out⟩
end Go.Proofs.Ytidhaofojcdbaaa
namespace Go.Proofs.Ytidhaofojcdbaaa
open Go.RowKit
set_option linter.unusedVariables false

def OwRel (W : World) (g bm N : Nat) (l0 : List Cf) (now iv : Value) (wr : World) : Prop :=
  ∃ (j : Nat) (L : List Vt) (G : Nat → Prop), iv = .int .i64 j ∧ j ≤ N ∧ j ≤ 20 ∧ LkAt wr G g bm L L.length l0 ∧ (∀ k, G k → k < wr.heap.size) ∧ L.length ≤ j ∧ CfsAt wr (fun k => NL g bm k ∧ k < wr.heap.size) now (runC l0 L).2 ∧ Kept NoB W wr
def SpRel (F : Nat → Prop) (n : Nat) (wl : World) (iv : Value) (wr : World) : Prop := ∃ m : Nat, iv = .int .i64 m ∧ m ≤ n ∧ SpR F wl wr
set_option maxRecDepth 100000 in
set_option maxHeartbeats 8000000 in
theorem ChosenOwn_any (w : World) (chains per : Int) (u : Value) (N : Nat) (it : Nat → Vt) (hv : Cm2 w u N it) :
    Calls Try.prog 8 #[.int .i64 chains, .int .i64 per, u] w (BoolE true w) := by
  obtain ⟨ua, uc, rfl, hN63, hcells⟩ := hv
  have HCS := Lib.hid hcells
  have HBX := Lib.hid (beg_ok chains per)
  have HB := Lib.hid (fun w' => RBegin_any chains per w')
  unfold BegE at HB
  obtain ⟨x, hx⟩ : ∃ x, x = begX chains per := ⟨_, rfl⟩
  obtain ⟨l0, hL⟩ : ∃ x, x = begC chains per := ⟨_, rfl⟩
  rw [← hx, ← hL] at HB HBX
  have hNN : (N : Int) ≤ 9223372036854775807 := by omega
  have hN0 : (0 : Int) ≤ (N : Int) := by omega
  clear hcells hx hL
  go_enter Try.func8, Try.ntmps8
  go_wp2_with fail
  refine (HB.out _).mono ?_
  rintro e w1 ⟨kv, rfl, hcf, hk1⟩
  have HC1 := Lib.hid hcf
  have HK1 := Lib.hid hk1
  obtain ⟨fa, fc, rfl, _⟩ := id hcf
  clear hcf hk1
  rcases HBX.out with ⟨rfl, hA⟩ | rfl
  · have HA := Lib.hid hA
    have hl6 : l0.length ≤ 4 := hA.2.1
    clear hA HBX HB
    go_wp2_with fail
    refine (LNew_any w1 _ l0 _ HC1.out).mono ?_
    rintro e w2 hne
    rcases hne with ⟨_, g, bm, a1, c1, rfl, hlog, hg, hbm, hk2⟩ | ⟨hbad, _⟩
    rotate_left
    · exact absurd HA.out hbad
    have HLK : Hid (LkAt w2 (fun k => (w1.heap.size ≤ k ∧ NL g bm k) ∧ k < w2.heap.size) g bm [] 0 l0) := Lib.hid ⟨⟨0, a1, c1, hlog.cut⟩, ⟨Nat.zero_le _, (fun i hi h => absurd h (by omega)), fun hi => absurd hi (by simp)⟩, fun v hv => by cases hv⟩
    have HGA : Hid (w1.heap.size ≤ g ∧ w1.heap.size ≤ bm ∧ w.heap.size ≤ w1.heap.size) := Lib.hid ⟨hg, hbm, HK1.out.size⟩
    have HNOW : Hid (CfsAt w2 (fun k => NL g bm k ∧ k < w2.heap.size) (.slice fa l0.length fc) l0) := Lib.hid (((HC1.out.mono (G := fun k => NL g bm k ∧ k < w1.heap.size) (fun k hk _ => ⟨⟨by omega, by omega⟩, hk⟩)).kept hk2 (fun _ _ _ h => h)).mono (fun k hk h => ⟨h.1, hk⟩))
    have HK2 := Lib.hid (HK1.out.trans hk2 (fun _ _ h => h))
    clear hlog hg hbm hk2 HC1
    go_wp2_with fail
    go_loopw [11, 12] (OwRel w g bm N l0) (fun _ i _ => 40 - (RowKit.intOf i).toNat)
    case atStart => exact ⟨0, [], _, rfl, Nat.zero_le _, Nat.zero_le _, HLK.out, (fun k hk => hk.2), Nat.zero_le _, HNOW.out, HK2.out⟩
    case round =>
      obtain ⟨j, L, G, rfl, hjN, hj20, hlk, hGz, hLj, hnow, hkr⟩ := hrel
      have HLKr := Lib.hid hlk
      have HGZ := Lib.hid hGz
      have HNW := Lib.hid hnow
      have HKR := Lib.hid hkr
      have HGB : Hid (g < wr.heap.size ∧ bm < wr.heap.size ∧ bm ≠ g) := Lib.hid hlk.lt
      have hj0 : (0 : Int) ≤ (j : Int) := by omega
      obtain ⟨na, nc, rfl, _⟩ := id hnow
      clear hlk hGz hnow hkr
      by_cases hlt : j < N
      · by_cases h20 : j < 20
        · have hj1 : (j : Int) < (N : Int) := by omega
          have hj2 : (j : Int) < 20 := by omega
          obtain ⟨b, o, rfl, hbw, hc⟩ := HCS.out (by omega)
          obtain ⟨hcc, hep, hep2⟩ := hc j hlt
          clear hc
          obtain ⟨y, hy⟩ : ∃ y, y = it j := ⟨_, rfl⟩
          rw [← hy] at hcc hep hep2
          clear hy
          obtain ⟨_, _, ck, cch, cep, cnd⟩ := y
          simp only at hcc hep hep2
          have HCC := Lib.hid (hcc.no HKR.out)
          have HOW := Lib.hid (fun w' (hk : Kept NoB wr w') => own_learn w' G g bm L l0 (HLKr.out.no hk) ck cch cep cnd hep hep2 (by omega))
          have HNX : Hid (∀ w', Kept NoB wr w' → Calls Try.prog 37 #[.pointer (some ⟨g, 0, none⟩)] w' fun e w'' => e = .returned (.int .i64 (L.length : Nat)) ∧ w' = w'') := Lib.hid (fun w' hk => by
            obtain ⟨dn, a, c, h1⟩ := (HLKr.out.no hk).log
            exact LNext_any w' G g bm L _ dn a c _ h1)
          obtain ⟨LN, hLN⟩ : ∃ x, x = L.length := ⟨_, rfl⟩
          obtain ⟨now, hNO⟩ : ∃ x, x = (runC l0 L).2 := ⟨_, rfl⟩
          have hnl : now.length ≤ 4 := by rw [hNO, runC_len]; exact hl6
          rw [← hLN] at HOW HNX hLj
          rw [← hNO] at HOW HNW ⊢
          clear hLN hNO HLKr hcc
          unfold OwE at HOW
          obtain ⟨d0, d1, d2, d3⟩ := id HCC.out
          have HKQ : Hid (Kept NoB wr wr.drew) := Lib.hid (Kept.refl NoB wr).drew
          have hnb : ¬ LB g bm b := fun e => by have := HGA.out; rcases e with e | e <;> omega
          go_upto_region 9 with fail
          go_region_held3 (fun w' => w'.cell? ⟨b, o + j * 4, none⟩ = some (.int .i64 ck) ∧ w'.cell? ⟨b, o + j * 4 + 1, none⟩ = some (.int .i64 cch) ∧ w'.cell? ⟨b, o + j * 4 + 2, none⟩ = some (.int .u64 cep) ∧ w'.cell? ⟨b, o + j * 4 + 3, none⟩ = some (.int .i64 cnd))
            (first
              | (with_reducible exact ⟨cell_drew d0, cell_drew d1, cell_drew d2, cell_drew d3⟩)
              | (with_reducible exact ⟨kd0, kd1, kd2, kd3⟩)
              | go_keep)
            (first
              | (go_at_call 37; (with_reducible refine (HNX.out _ HKQ.out).mono ?_); rintro e wn ⟨rfl, rfl⟩)
              | (go_at_call 34; (with_reducible refine (HOW.out _ HKQ.out).mono ?_); rintro e wl ⟨D, oa, oc, G', L2, X, rfl, hdl, hD, hlk2, hl2, hrun, hk1⟩; have HD := Lib.hid hD; have HLK2 := Lib.hid hlk2; have HL2 := Lib.hid hl2; have HRUN := Lib.hid hrun; have HKA := Lib.hid ((HKQ.out.mono (T := LB g bm) (fun _ _ h => h.elim)).trans hk1 (fun _ _ h => h)); clear hD hlk2 hl2 hrun hk1; have kd0 := HKA.out.cell (p := ⟨b, o + j * 4, none⟩) hnb d0; have kd1 := HKA.out.cell (p := ⟨b, o + j * 4 + 1, none⟩) hnb d1; have kd2 := HKA.out.cell (p := ⟨b, o + j * 4 + 2, none⟩) hnb d2; have kd3 := HKA.out.cell (p := ⟨b, o + j * 4 + 3, none⟩) hnb d3))
          all_goals
            clear d0 d1 d2 d3 kd0 kd1 kd2 kd3
            have HF1 : Hid (∃ F1, CfS wl F1 (.slice oa D.length oc) D.length ∧ ∀ k, F1 k → wr.heap.size ≤ k ∧ Wr wl k ∧ ¬ G' k) := Lib.hid ⟨_, HD.out.cfS hdl, fun k h => h⟩
            obtain ⟨F1, hcs, hF1⟩ := HF1.out
            have HCF := Lib.hid hcs
            have HFF := Lib.hid hF1
            have hD0 : (D.length : Int) ≤ 10000 := by omega
            obtain ⟨M, hM⟩ : ∃ x, x = doC now (chk ck cch cep cnd) ck cch cep cnd := ⟨_, rfl⟩
            have HM := Lib.hid hM
            rw [← hM] at HRUN
            have hml : M.length ≤ 4 := by rw [← HRUN.out, runC_len]; exact hl6
            clear HF1 hcs hF1 HD hM
            go_wp2_with fail
            rename World => WL
            go_loopw [15] (SpRel F1 D.length WL) (fun i _ => D.length - (RowKit.intOf i).toNat)
            case atStart => exact ⟨0, rfl, Nat.zero_le _, SpR.refl (fun k h => (HFF.out k h).2.1)⟩
            case round =>
              obtain ⟨m, rfl, hmD, hs⟩ := hrel
              have HS := Lib.hid hs
              have hm0 : (0 : Int) ≤ (m : Int) := by omega
              clear hs
              by_cases hmlt : m < D.length
              · have hm1 : (m : Int) < (D.length : Int) := by omega
                obtain ⟨a', c', he, _, hcc⟩ := HCF.out.sp HS.out
                injection he with he1 _ he3
                subst he1 he3
                obtain ⟨bb, oo, rfl, hx⟩ := hcc (by omega)
                obtain ⟨u, hu, hnd⟩ := hx m hmlt
                obtain ⟨xa', xn, xc', rfl, _⟩ := id hnd
                have HSP := Lib.hid (spoil_any _ F1 _ hnd HS.out.wr)
                clear hcc hx hnd
                go_wp2_with fail
                refine HSP.out.mono ?_
                rintro e w3 ⟨rfl, hs3⟩
                have HN := Lib.hid (HS.out.trans hs3)
                clear hs3 hu
                go_wp2
                exact ⟨⟨m + 1, by go_num, by omega, HN.out⟩, by simp [RowKit.intOf]; omega⟩
              · have hm3 : decide ((m : Int) < (D.length : Int)) = false := decide_eq_false (by omega)
                have hF1g : ¬ F1 g := fun e => by have := (HFF.out g e).1; have := HGB.out; omega
                have hF1b : ¬ F1 bm := fun e => by have := (HFF.out bm e).1; have := HGB.out; omega
                have hwsz := HKR.out.size
                have HLK3 := Lib.hid (HLK2.out.kept HS.out.kept hF1g hF1b (fun k _ hk e => (HFF.out k e).2.2 hk.1)).cut
                have HNW3 := Lib.hid ((HNW.out.kept HKA.out (fun k _ h e => by have := h.1; unfold NL at this; rcases e with e | e <;> omega)).kept HS.out.kept (fun k _ h e => by have := (HFF.out k e).1; have := h.2; omega))
                have HKW : Hid (Kept NoB w wr) := Lib.hid ((((HKR.out.mono (T := LB g bm) (fun _ _ h => h.elim)).trans HKA.out (fun _ _ h => h)).mono (T := NoB) (fun i hi e => by have := HGA.out; rcases e with e | e <;> omega)).trans HS.out.kept (fun i hi e => by have := (HFF.out i e).1; omega))
                have HCC3 : Hid (CmC wr b (o + j * 4) ck cch cep cnd) := Lib.hid ((HCC.out.kept HKA.out hnb).kept HS.out.kept (fun e => by have := (HFF.out b e).1; omega))
                have HGB3 : Hid (g < wr.heap.size ∧ bm < wr.heap.size) := Lib.hid ⟨HLK3.out.lt.1, HLK3.out.lt.2.1⟩
                obtain ⟨dn3, la3, lc3, hl3⟩ := HLK3.out.log
                rw [List.take_length, HRUN.out] at hl3
                have HCO := Lib.hid (LConfs_any wr _ g bm L2 _ dn3 la3 lc3 M hl3)
                clear hl3 hF1g hF1b hwsz
                clear HLK2 HNW HKA HS HCF HFF HOW HNX HCC HKQ HKR
                rename World => WQ
                go_wp2_with fail
                refine HCO.out.mono ?_
                rintro e v2 ⟨za, zc, rfl, hz, hk2⟩
                have HCF2 := Lib.hid (hz.cfS (by omega))
                have HKV := Lib.hid hk2
                have hM0 : (M.length : Int) ≤ 10000 := by omega
                clear hz hk2 HCO
                go_wp2_with fail
                go_loopw [17] (SpRel (NwW WQ.heap.size v2) M.length v2) (fun i _ => M.length - (RowKit.intOf i).toNat)
                case atStart => exact ⟨0, rfl, Nat.zero_le _, SpR.refl (fun k h => h.2)⟩
                case round =>
                  obtain ⟨m, rfl, hmM, hs⟩ := hrel
                  have HS := Lib.hid hs
                  have hm0 : (0 : Int) ≤ (m : Int) := by omega
                  clear hs
                  by_cases hmlt : m < M.length
                  · have hm1 : (m : Int) < (M.length : Int) := by omega
                    obtain ⟨a', c', he, _, hcc⟩ := HCF2.out.sp HS.out
                    injection he with he1 _ he3
                    subst he1 he3
                    obtain ⟨bb, oo, rfl, hx⟩ := hcc (by omega)
                    obtain ⟨u, hu, hnd⟩ := hx m hmlt
                    obtain ⟨xa', xn, xc', rfl, _⟩ := id hnd
                    have HSP := Lib.hid (spoil_any wr _ _ hnd HS.out.wr)
                    clear hcc hx hnd
                    go_wp2_with fail
                    refine HSP.out.mono ?_
                    rintro e w3 ⟨rfl, hs3⟩
                    have HN := Lib.hid (HS.out.trans hs3)
                    clear hs3 hu
                    go_wp2
                    exact ⟨⟨m + 1, by go_num, by omega, HN.out⟩, by simp [RowKit.intOf]; omega⟩
                  · have hm3 : decide ((m : Int) < (M.length : Int)) = false := decide_eq_false (by omega)
                    have HLK4 := Lib.hid ((HLK3.out.no HKV.out).kept HS.out.kept (fun e => by have := e.1; have := HGB3.out; omega) (fun e => by have := e.1; have := HGB3.out; omega) (fun k _ hk e => by have := e.1; have := hk.2; omega))
                    have HNW4 := Lib.hid (((HNW3.out.mono (G := fun k => NL g bm k ∧ k < WQ.heap.size) (fun k hk h => ⟨h.1, hk⟩)).kept HKV.out (fun _ _ _ h => h)).kept HS.out.kept (fun k _ h e => by have := e.1; have := h.2; omega))
                    have HKV4 : Hid (Kept NoB w wr) := Lib.hid ((HKW.out.trans HKV.out (fun _ _ h => h)).trans HS.out.kept (fun i hi e => by have := e.1; have := HKW.out.size; omega))
                    have HCC4 : Hid (CmC wr b (o + j * 4) ck cch cep cnd) := Lib.hid ((HCC3.out.no HKV.out).kept HS.out.kept (fun e => by have := e.1; have := HKW.out.size; omega))
                    have HZ4 : Hid (WQ.heap.size ≤ wr.heap.size) := Lib.hid (Nat.le_trans HKV.out.size HS.out.kept.size)
                    obtain ⟨d0, d1, d2, d3⟩ := id HCC4.out
                    have hdo := RDo_any _ now _ ck cch cep cnd _ wr HNW4.out (by omega) (chk_is ck cch cep cnd) hep
                    rw [← HM.out] at hdo
                    have HDO := Lib.hid hdo
                    clear hdo HS HCF2
                    go_wp2_with fail
                    refine HDO.out.mono ?_
                    rintro e v3 ⟨nv, rfl, hnv, hk3⟩
                    have HLK5 := Lib.hid (HLK4.out.no hk3)
                    have HKV5 := Lib.hid (HKV4.out.trans hk3 (fun _ _ h => h))
                    have HNV := Lib.hid hnv
                    obtain ⟨nva, nvc, rfl, _⟩ := id hnv
                    obtain ⟨dn5, la5, lc5, hl5⟩ := HLK5.out.log
                    rw [List.take_length, HRUN.out] at hl5
                    have HCO := Lib.hid (LConfs_any v3 _ g bm L2 _ dn5 la5 lc5 M hl5)
                    clear hl5 hnv hk3 d0 d1 d2 d3 HLK4
                    go_wp2_with fail
                    refine HCO.out.mono ?_
                    rintro e v4 ⟨za4, zc4, rfl, hz4, hk4⟩
                    have HSS := Lib.hid (same_two hz4 (HNV.out.no3 hk4))
                    have HK4 := Lib.hid hk4
                    clear hz4 hk4 HCO
                    go_wp2_with fail
                    refine HSS.out.mono ?_
                    rintro e v5 ⟨rfl, hk5⟩
                    have HFIN : Hid (OwRel w g bm N l0 (.slice nva M.length nvc) (.int .i64 ((j : Int) + 1)) v5) := Lib.hid (by
                      have hk45 := HK4.out.trans hk5 (fun _ _ h => h)
                      have h1 := (HLK5.out.no hk45).cut
                      refine ⟨j + 1, L2, _, by go_num, by omega, by omega, h1, fun k hk => hk.2, by have := HL2.out; omega, ?_, HKV5.out.trans hk45 (fun _ _ h => h)⟩
                      rw [HRUN.out]
                      refine (HNV.out.no3 hk45).mono (fun k hk h => ⟨?_, hk⟩)
                      rcases h with h | h
                      · exact h.1
                      · have := HGB3.out
                        have := HZ4.out
                        exact ⟨by omega, by omega⟩)
                    clear hk5
                    go_wp2
                    exact ⟨HFIN.out, by simp [RowKit.intOf]; omega⟩
        · have hj3 : decide ((j : Int) < 20) = false := decide_eq_false (by omega)
          have hj1 : (j : Int) < (N : Int) := by omega
          go_wp2_with fail
          refine (awake12 _).mono ?_
          rintro e w5 ⟨rfl, hk5⟩
          have HK5 := Lib.hid (HKR.out.trans hk5 (fun _ _ h => h))
          clear hk5
          go_wp2
          go_ret
          exact ⟨rfl, HK5.out⟩
      · have hj3 : decide ((j : Int) < (N : Int)) = false := decide_eq_false (by omega)
        go_wp2_with fail
        refine (awake12 _).mono ?_
        rintro e w5 ⟨rfl, hk5⟩
        have HK5 := Lib.hid (HKR.out.trans hk5 (fun _ _ h => h))
        clear hk5
        go_wp2
        go_ret
        exact ⟨rfl, HK5.out⟩
  · go_wp2_with fail
    refine (awake12 _).mono ?_
    rintro e w5 ⟨rfl, hk5⟩
    have HK5 := Lib.hid (HK1.out.trans hk5 (fun _ _ h => h))
    clear hk5
    go_wp2
    go_ret
    exact ⟨rfl, HK5.out⟩
end Go.Proofs.Ytidhaofojcdbaaa
