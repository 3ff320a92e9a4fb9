/-
  Package update: copyOf, selected.
-/
import Derived.Test.YtnnmkmipeoajjaaGreatDoorUpdB
namespace Go.Proofs.YtnnmkmipeoajjaaGreatDoor
open Go.RowKit
set_option linter.unusedVariables false
set_option linter.unusedSimpArgs false

theorem info_upd : (Tryz.prog.info? 62).map (fun i => (i.zero, i.size, i.bytes)) = some (some (.agg #[.int .u64 0, .int .i64 0, .int .u64 0, .int .i64 0, .int .u32 0, .int .u64 0, .slice none 0 0]), 7, 72) := by kernel_rfl
/-- bytes.Clone: a slice of the call's own. -/
theorem Clone_own17 (v : Value) (l : List Int) (F : Nat → Prop) (w : World) (h : BSl w F v l) (hl : l.length ≤ 1000000) :
    Calls Tryz.prog 169 #[v] w fun e w' => ∃ v', e = .returned v' ∧ Own w' (fun k => w.heap.size ≤ k) v' l ∧ Kept NoB w w' := by
  obtain ⟨i0, hi0, hz0, hz1, hz2⟩ := info_parts Tryz.info5
  have HB := Lib.hid h
  obtain ⟨a, cap, rfl, hc, hm, hn, hr⟩ := h
  have hq := fun (w : World) => Lib.run_eql_slice_nil (P := Tryz.prog) w 60 5 a l.length cap 0 0 Tryz.underlying60
  rcases a with _ | ad
  · have h0 := hn rfl
    subst h0
    have hl : l = [] := List.eq_nil_of_length_eq_zero (by omega)
    subst hl
    simp only [Option.isNone, List.length_nil] at hq
    go_enter Tryz.func169, Tryz.ntmps169
    go_wp2
    go_ret
    exact ⟨_, rfl, Own.nil _ _, Kept.refl _ _⟩
  · simp only [Option.isNone] at hq
    clear hr hn
    go_enter Tryz.func169, Tryz.ntmps169
    go_wp2_with (at_builtin; refine wpList_append_bsl _ rfl (.tmp 5) (.tmp 6) _ rfl 5 i0 _ Tryz.underlying60 hi0 hz0 hz1 hz2 rfl (.slice (some ⟨w.heap.size, 0, none⟩) 0 0) 0 [] rfl (World.ownsRow_made w #[] 0 (Nat.zero_le _) (by decide) rfl) F _ l rfl (HB.out.kept ((Kept.refl NoB _).alloc _) (fun _ _ h => h)) (by omega) ?_; intro a' c' w1 hown1 hg1 hat1)
    go_ret
    have hk1 : Kept NoB w w1 := ((Kept.refl _ _).alloc _).grown hg1 (fun k hk => .inr (by simp [Value.ownBlock] at hk; omega))
    simp only [Nat.zero_add, List.nil_append] at hown1 hat1
    refine ⟨.slice a' l.length c', rfl, ⟨HB.out.isB, hown1, fun k hk => ?_⟩, hk1⟩
    rcases hat1 with e | e <;> rw [e] at hk <;> simp [Value.ownBlock] at hk <;> omega

/-- A function of the program that has a body. -/
def Enters17 (f : FuncId) : Prop := ∀ (args : Array Value) (w : World), Sem.run Tryz.prog (callFunc f args) w = .ok (.enter f args) w
/-- Their data are rows of the call's own. -/
def DatO (w : World) (F : Nat → Prop) (ps : List (Up × Value)) : Prop := ∀ p ∈ ps, Own w F p.2 p.1.d
theorem DatO.u {w : World} {F : Nat → Prop} {ps : List (Up × Value)} (h : DatO w F ps) : DatU w F ps := fun p hp => (h p hp).bsl
theorem DatO.mono {F G : Nat → Prop} {w : World} {ps : List (Up × Value)} (h : DatO w F ps) (hG : ∀ k, k < w.heap.size → F k → G k) : DatO w G ps := fun p hp => (h p hp).mono hG
theorem Own.row17 {w : World} {F : Nat → Prop} {v : Value} {l : List Int} (h : Own w F v l) {k : Nat} (hk : v.ownBlock = some k) : ∃ cs fr, w.heap[k]? = some (.cells cs 5 fr) := by
  rcases h.2.1.2 with ⟨rfl, _⟩ | ⟨r, cap, cur, rfl, _, hr, _⟩
  · cases hk
  · injection hk with hk
    subst hk
    exact ⟨_, _, hr⟩
/-- Data are not a block of updates. -/
theorem Own.kept17 {S F : Nat → Prop} {w w' : World} {v : Value} {l : List Int} (h : Own w F v l) (hk : Kept S w w') (hs : ∀ k cs fr, w.heap[k]? = some (.cells cs 5 fr) → F k → ¬ S k) : Own w' F v l := by
  have h2 : Own w (fun k => F k ∧ v.ownBlock = some k) v l := ⟨h.1, h.2.1, fun k hk => ⟨h.2.2 k hk, hk⟩⟩
  have h3 := h2.kept hk (fun k ⟨h4, h5⟩ => by obtain ⟨cs, fr, h6⟩ := h.row17 h5; exact hs k cs fr h6 h4)
  exact ⟨h3.1, h3.2.1, fun k hk => (h3.2.2 k hk).1⟩
theorem DatO.kept17 {S F : Nat → Prop} {w w' : World} {ps : List (Up × Value)} (h : DatO w F ps) (hk : Kept S w w') (hs : ∀ k cs fr, w.heap[k]? = some (.cells cs 5 fr) → F k → ¬ S k) : DatO w' F ps := fun p hp => (h p hp).kept17 hk hs
theorem DatO.no {F : Nat → Prop} {w w' : World} {ps : List (Up × Value)} (h : DatO w F ps) (hk : Kept NoB w w') : DatO w' F ps := h.kept17 hk (fun _ _ _ _ _ h => h)
/-- A function literal that keeps a number, and tells by it. -/
structure TakesU (f : FuncId) (caps : Array Value) (T : Nat → Prop) (st : Int → Up → Bool × Int) (St : Int → World → Prop) (s0 : Int) (w : World) (F : Nat → Prop) (l : List Up) : Prop where
  ent : Enters17 f
  keep : ∀ s a b S, St s a → Kept S a b → (∀ k, k < w.heap.size → ¬ S k) → St s b
  lt : ∀ k, T k → k < w.heap.size
  far : ∀ k, F k → ¬ T k ∧ k < w.heap.size
  call : ∀ s x v w', (∃ k, k < l.length ∧ s = endU st s0 (l.take k)) → x ∈ l → UpV w' F v x → St s w' → Kept T w w' → Calls Tryz.prog f (#[v] ++ caps) w' fun e w'' => e = .returned (.bool (st s x).1) ∧ St (st s x).2 w'' ∧ Kept T w' w''
/-- What is chosen: a row of the call's own, with data of its own. -/
def SelEnd (w : World) (T : Nat → Prop) (St : Int → World → Prop) (s : Int) (out : List Up) (e : Ending) (w' : World) : Prop :=
  ∃ a c ps, e = .returned (.slice a out.length c) ∧ UOw 62 w.heap.size w' (.slice a out.length c) ps ∧ ps.map Prod.fst = out ∧ DatO w' (fun k => w.heap.size ≤ k) ps ∧ St s w' ∧ Kept T w w'
def SelRel (w : World) (l : List Up) (st : Int → Up → Bool × Int) (T : Nat → Prop) (St : Int → World → Prop) (s0 : Int) (ov iv : Value) (wr : World) : Prop :=
  ∃ (k : Nat) (ps : List (Up × Value)), k ≤ l.length ∧ iv = .int .i64 k ∧ UOw 62 w.heap.size wr ov ps ∧ ps.map Prod.fst = selU st s0 (l.take k) ∧ DatO wr (fun k => w.heap.size ≤ k) ps ∧ St (endU st s0 (l.take k)) wr ∧ Kept T w wr
end Go.Proofs.YtnnmkmipeoajjaaGreatDoor
