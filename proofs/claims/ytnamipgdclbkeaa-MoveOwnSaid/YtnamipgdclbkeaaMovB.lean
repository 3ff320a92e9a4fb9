/-
  Parts of a picture, plainly; bytes.Clone; the iterator over the parts (move.cut).
-/
import Derived.Test.YtnamipgdclbkeaaRef
import Derived.Test.YtnamipgdclbkeaaMovA
import Derived.LoopTactic
import Derived.LoopIn
import Derived.BigFrameIn
import Derived.Deep.CutRange
namespace Go.Proofs.Ytnamipgdclbkeaa
open Go.RowKit
set_option linter.unusedVariables false

/-- How many parts n bytes have. -/
def npr (n : Nat) : Nat := (n - 1) / 1024 + 1
/-- The part i of the bytes l. -/
def prt (l : List Int) (i : Nat) : List Int := (l.drop (1024 * i)).take 1024
/-- Where the part i begins. -/
def avM (a : Option Addr) : Nat → Option Addr
  | 0 => a
  | i + 1 => (avM a i).map (·.add 1024)
/-- The slice that part i is. -/
def pvM (a : Option Addr) (n i : Nat) : Value := .slice (avM a i) (min 1024 (n - 1024 * i)) (min 1024 (n - 1024 * i))

theorem sub_step (c j : Nat) : c - 1024 * j - 1024 = c - 1024 * (j + 1) := by omega
theorem pvM_bsl {w : World} {F : Nat → Prop} {a : Option Addr} {cap : Nat} {l : List Int} (h : BSl w F (.slice a l.length cap) l) (i : Nat) (hi : i < npr l.length) :
    BSl w F (pvM a l.length i) (prt l i) := by
  obtain ⟨a', cap', he, hc, hm, hn, hr⟩ := h
  injection he with he1 he2 he3
  subst he1 he3
  unfold npr at hi
  have key : ∀ j, j ≤ i → BSl w F (.slice (avM a j) (l.length - 1024 * j) (cap - 1024 * j)) (l.drop (1024 * j)) := by
    intro j
    induction j with
    | zero => intro _; exact ⟨a, cap, by simp [avM], by simp; exact hc, by omega, fun h => by have := hn h; omega, by simpa [avM] using hr⟩
    | succ j ih =>
      intro hj
      obtain ⟨a2, cap2, he, hc2, hm2, hn2, hr2⟩ := ih (by omega)
      injection he with he1 he2 he3
      subst he1 he3
      have hlen : (l.drop (1024 * j)).length = l.length - 1024 * j := by simp
      have := bsl_drop (n := 1024) hc2 hm2 hn2 hr2
      rw [if_neg (by omega)] at this
      rw [List.drop_drop, hlen] at this
      have e3 : 1024 * j + 1024 = 1024 * (j + 1) := (Nat.mul_succ _ _).symm
      rw [sub_step, sub_step, e3] at this
      exact this
  obtain ⟨a2, cap2, he, hc2, hm2, hn2, hr2⟩ := key i (Nat.le_refl _)
  injection he with he1 he2 he3
  subst he1 he3
  unfold pvM prt
  rcases Nat.le_total 1024 (l.length - 1024 * i) with h1 | h1
  · rw [Nat.min_eq_left h1]
    exact bsl_take3 hc2 hm2 hn2 hr2 (by simp; exact h1)
  · rw [Nat.min_eq_right h1]
    have := bsl_take3 (n := l.length - 1024 * i) hc2 hm2 hn2 hr2 (by simp)
    have e : (l.drop (1024 * i)).take (l.length - 1024 * i) = (l.drop (1024 * i)).take 1024 := by
      rw [List.take_of_length_le (by simp), List.take_of_length_le (by simp; omega)]
    rw [e] at this
    exact this
theorem prt_len (l : List Int) (i : Nat) : (prt l i).length = min 1024 (l.length - 1024 * i) := by simp [prt]

set_option maxRecDepth 100000 in
/-- bytes.Clone. -/
theorem CloneM_any (v : Value) (l : List Int) (F : Nat → Prop) (w : World) (h : BSl w F v l) (hl : l.length ≤ 1000000) :
    Calls Try.prog 23 #[v] w fun e w' => ∃ v', e = .returned v' ∧ BSl w' (fun k => w.heap.size ≤ k ∧ k < w'.heap.size) v' l ∧ Kept NoB w w' := by
  obtain ⟨i0, hi0, hz0, hz1, hz2⟩ := info_parts Try.info5
  have HB := Lib.hid h
  obtain ⟨a, cap, rfl, hc, hm, hn, hr⟩ := h
  have hq := fun (w : World) => Lib.run_eql_slice_nil (P := Try.prog) w 23 5 a l.length cap 0 0 Try.underlying23
  rcases a with _ | ad
  · have h0 := hn rfl
    subst h0
    have hl : l = [] := List.eq_nil_of_length_eq_zero (by omega)
    subst hl
    simp only [Option.isNone, List.length_nil] at hq
    go_enter Try.func23, Try.ntmps23
    go_wp2
    go_ret
    exact ⟨_, rfl, BSl.nil _ _, Kept.refl _ _⟩
  · simp only [Option.isNone] at hq
    clear hr hn
    go_enter Try.func23, Try.ntmps23
    go_wp2_with (at_builtin; refine wpList_append_bsl _ rfl (.tmp 5) (.tmp 6) _ rfl 5 i0 _ Try.underlying23 hi0 hz0 hz1 hz2 rfl (.slice (some ⟨w.heap.size, 0, none⟩) 0 0) 0 [] rfl (World.ownsRow_made w #[] 0 (Nat.zero_le _) (by decide) rfl) F _ l rfl (HB.out.kept ((Kept.refl NoB _).alloc _) (fun _ _ h => h)) (by omega) ?_; intro a' c' w1 hown1 hg1 hat1)
    go_ret
    have hk1 : Kept NoB w w1 := ((Kept.refl _ _).alloc _).grown hg1 (fun k hk => .inr (by simp [Value.ownBlock] at hk; omega))
    simp only [Nat.zero_add, List.nil_append] at hown1 hat1
    refine ⟨.slice a' l.length c', rfl, (BSl.ofOwn (F := fun k => w.heap.size ≤ k) hown1 (HB.out.isB) (fun k hk => ?_)).mono (fun k h1 h2 => ⟨h2, h1⟩), hk1⟩
    rcases hat1 with e | e <;> rw [e] at hk <;> simp [Value.ownBlock] at hk <;> omega

attribute [local go_sem] Oper.semAt_some
def lenOfM : Value → Nat
  | .slice _ n _ => n
  | _ => 0
theorem avM_form {w : World} {F : Nat → Prop} {a : Option Addr} {cap : Nat} {l : List Int} (h : BSl w F (.slice a l.length cap) l) (k : Nat) (hk : 1024 * k < l.length) : ∃ b o, avM a k = some ⟨b, o, none⟩ := by
  obtain ⟨a', cap', he, hc, hm, hn, hr⟩ := h
  injection he with he1 he2 he3
  subst he1
  obtain ⟨b, o, ha, _⟩ := hr.2 (by omega)
  subst ha
  clear hr hn hk
  induction k with
  | zero => exact ⟨_, _, rfl⟩
  | succ k ih => obtain ⟨b, o, hp⟩ := ih; exact ⟨b, o + 1024, by simp [avM, hp, Addr.add]⟩

set_option maxRecDepth 100000 in
/-- The iterator yields the parts in their order, whatever a round does. -/
theorem stops_cut {n c cap : Nat} {a : Option Addr} {l : List Int} {F : Nat → Prop} {W0 : World} (hc : W0.cell? ⟨c, 0, none⟩ = some (.slice a l.length cap)) (hb : BSl W0 F (.slice a l.length cap) l) (hl : l.length ≤ 1000000) (hn : 2 ≤ n) :
    SeqStopsK Fence.wide n Try.prog 24 #[.pointer (some ⟨c, 0, none⟩)] (fun i => #[pvM a l.length i]) (fun _ _ => True) (fun xs => xs = List.range (npr l.length)) (fun _ => True) (npr l.length) W0 := by
  intro y J Jx W hW hJ hJx hY h0
  have hcW : W.cell? ⟨c, 0, none⟩ = some (.slice a l.length cap) := (World.cell?_of_block (hW.block c (World.block_lt_of_cell? W0 ⟨c, 0, none⟩ hc))).trans hc
  have hcap : l.length ≤ cap ∧ cap ≤ maxLen := by obtain ⟨_, _, he, h1, h2, _⟩ := hb; injection he with e1 e2 e3; subst e3; exact ⟨h1, h2⟩
  have HAV := Lib.hid (fun k hk => avM_form hb k hk)
  have HJ0 := Lib.hid h0
  clear hb h0 hc
  refine callsIn_of_wp Try.func24 rfl trivial ?_ rfl
  simp only [Try.ntmps24, List.size_toArray, List.length_cons, List.length_nil, Nat.reduceAdd, Nat.reduceSub, Array.replicate_succ, Array.replicate_zero, List.push_toArray, List.append_toArray, List.nil_append, List.cons_append]
  gi_wp2_with fail
  gi_loopw [3] (fun rest wr => ∃ k : Nat, rest = .slice (avM a k) (l.length - 1024 * k) (cap - 1024 * k) ∧ (k = 0 ∨ 1024 * k < l.length) ∧ J (List.range k) wr) (fun rest _ => lenOfM rest)
  case atStart => exact ⟨0, by simp [avM], .inl rfl, HJ0.out⟩
  case round =>
    obtain ⟨k, rfl, hk, hJk⟩ := hrel
    have hnk : k < npr l.length := by unfold npr; omega
    obtain ⟨nn, hnn⟩ : ∃ nn, nn = l.length - 1024 * k := ⟨_, rfl⟩
    obtain ⟨cc, hcc⟩ : ∃ cc, cc = cap - 1024 * k := ⟨_, rfl⟩
    have hle : nn ≤ cc := by omega
    have hccm : cc ≤ maxLen := Nat.le_trans (by omega) hcap.2
    have HM := Lib.hid hccm
    obtain ⟨fn, tmps, assign, body, hy, hR⟩ := hY (List.range k) k wr hJk (by simp; exact hnk)
    by_cases hlt : 1024 < nn
    · obtain ⟨pb, po, hp⟩ := HAV.out k (by omega)
      have hpv : pvM a l.length k = .slice (some ⟨pb, po, none⟩) 1024 1024 := by unfold pvM; rw [hp, ← hnn, Nat.min_eq_left (by omega)]
      have hav : avM a (k + 1) = some ⟨pb, po + 1024, none⟩ := by simp [avM, hp, Addr.add]
      have hn2 : l.length - 1024 * (k + 1) = nn - 1024 := by rw [hnn, sub_step]
      have hc2 : cap - 1024 * (k + 1) = cc - 1024 := by rw [hcc, sub_step]
      have hk2 : 1024 * (k + 1) < l.length := by omega
      rw [hpv] at hy
      rw [hp, ← hnn, ← hcc]
      have H1 := Lib.hid (And.intro hav (And.intro hn2 (And.intro hc2 hk2)))
      have hy' : (Instr.yield y #[.slice (some ⟨pb, po, none⟩) 1024 1024]).run Try.prog wr = .ok (.round y fn tmps assign body) wr := hy
      have hncc : ¬ cc = 1024 := by omega
      clear hy hJk hp hpv hav hn2 hc2 hk2 hnn hcc hk hnk hccm hcap
      gi_wp2
      refine ⟨fun _ => by omega, ?_⟩
      refine hR.mono ?_
      rintro e W3 (⟨rfl, hJ3, _⟩ | ⟨rfl, hJx3⟩)
      · have HJ3 := Lib.hid (show J (List.range (k + 1)) W3 by rw [List.range_succ]; exact hJ3)
        clear hJ3 hR hy'
        gi_wp2
        go_roundw
        case rel =>
          obtain ⟨h1, h2, h3, h4⟩ := H1.out
          exact ⟨k + 1, by rw [h1, h2, h3], .inr h4, HJ3.out⟩
        case measure => simp [lenOfM]; omega
      · have HJX := Lib.hid hJx3
        clear hJx3 hR hy'
        gi_wp2
        refine bodyPost_ret (results_none rfl _ _ _) rfl ?_
        exact ⟨⟨_, rfl⟩, .inr ⟨_, trivial, HJX.out⟩⟩
    · have hpv : pvM a l.length k = .slice (avM a k) nn nn := by unfold pvM; rw [← hnn, Nat.min_eq_right (by omega)]
      have hN : npr l.length = k + 1 := by unfold npr; omega
      rw [hpv] at hy
      rw [← hnn, ← hcc]
      have hy' : (Instr.yield y #[.slice (avM a k) nn nn]).run Try.prog wr = .ok (.round y fn tmps assign body) wr := hy
      obtain ⟨aa, haa⟩ : ∃ aa, aa = avM a k := ⟨_, rfl⟩
      rw [← haa] at hy' ⊢
      have HN := Lib.hid hN
      clear hy hJk hpv hnn hcc hk hnk hccm hcap hN haa
      gi_wp2
      refine ⟨fun _ => by omega, ?_⟩
      refine hR.mono ?_
      rintro e W3 (⟨rfl, hJ3, _⟩ | ⟨rfl, hJx3⟩)
      · have HJ3 := Lib.hid (show J (List.range (k + 1)) W3 by rw [List.range_succ]; exact hJ3)
        clear hJ3 hR hy'
        gi_wp2
        go_end0
        exact ⟨⟨_, rfl⟩, .inl ⟨_, rfl, by rw [HN.out]; exact HJ3.out⟩⟩
      · have HJX := Lib.hid hJx3
        clear hJx3 hR hy'
        gi_wp2
        go_end0
        exact ⟨⟨_, rfl⟩, .inr ⟨_, trivial, HJX.out⟩⟩
end Go.Proofs.Ytnamipgdclbkeaa
