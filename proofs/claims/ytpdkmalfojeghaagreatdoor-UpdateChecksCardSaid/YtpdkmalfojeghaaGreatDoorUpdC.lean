/-
  Package update: copyOf, selected.
-/
import Derived.Test.YtpdkmalfojeghaaGreatDoorUpdB
namespace Go.Proofs.YtpdkmalfojeghaaGreatDoor
open Go.RowKit
set_option linter.unusedVariables false
set_option linter.unusedSimpArgs false

theorem info_upd : (Tryz.prog.info? 43).map (fun i => (i.zero, i.size, i.bytes)) = some (some (.agg #[.int .u64 0, .int .i64 0, .int .u64 0, .int .i64 0, .int .u32 0, .int .u64 0, .slice none 0 0]), 7, 72) := by kernel_rfl
/-- bytes.Clone: a slice of the call's own. -/
theorem Clone_own17 (v : Value) (l : List Int) (F : Nat → Prop) (w : World) (h : BSl w F v l) (hl : l.length ≤ 1000000) :
    Calls Tryz.prog 81 #[v] w fun e w' => ∃ v', e = .returned v' ∧ Own w' (fun k => w.heap.size ≤ k) v' l ∧ Kept NoB w w' := by
  obtain ⟨i0, hi0, hz0, hz1, hz2⟩ := info_parts Tryz.info5
  have HB := Lib.hid h
  obtain ⟨a, cap, rfl, hc, hm, hn, hr⟩ := h
  have hq := fun (w : World) => Lib.run_eql_slice_nil (P := Tryz.prog) w 32 5 a l.length cap 0 0 Tryz.underlying32
  rcases a with _ | ad
  · have h0 := hn rfl
    subst h0
    have hl : l = [] := List.eq_nil_of_length_eq_zero (by omega)
    subst hl
    simp only [Option.isNone, List.length_nil] at hq
    go_enter Tryz.func81, Tryz.ntmps81
    go_wp2
    go_ret
    exact ⟨_, rfl, Own.nil _ _, Kept.refl _ _⟩
  · simp only [Option.isNone] at hq
    clear hr hn
    go_enter Tryz.func81, Tryz.ntmps81
    go_wp2_with (at_builtin; refine wpList_append_bsl _ rfl (.tmp 5) (.tmp 6) _ rfl 5 i0 _ Tryz.underlying32 hi0 hz0 hz1 hz2 rfl (.slice (some ⟨w.heap.size, 0, none⟩) 0 0) 0 [] rfl (World.ownsRow_made w #[] 0 (Nat.zero_le _) (by decide) rfl) F _ l rfl (HB.out.kept ((Kept.refl NoB _).alloc _) (fun _ _ h => h)) (by omega) ?_; intro a' c' w1 hown1 hg1 hat1)
    go_ret
    have hk1 : Kept NoB w w1 := ((Kept.refl _ _).alloc _).grown hg1 (fun k hk => .inr (by simp [Value.ownBlock] at hk; omega))
    simp only [Nat.zero_add, List.nil_append] at hown1 hat1
    refine ⟨.slice a' l.length c', rfl, ⟨HB.out.isB, hown1, fun k hk => ?_⟩, hk1⟩
    rcases hat1 with e | e <;> rw [e] at hk <;> simp [Value.ownBlock] at hk <;> omega

/-- A function of the program that has a body. -/
def Enters17 (f : FuncId) : Prop := ∀ (args : Array Value) (w : World), Sem.run Tryz.prog (callFunc f args) w = .ok (.enter f args) w
set_option maxRecDepth 100000 in
set_option maxHeartbeats 1000000 in
theorem UCopyOf_any (w : World) (v : Value) (x : Up) (F : Nat → Prop) (h : UpV w F v x) (hl : x.d.length ≤ 1000000) : Calls Tryz.prog 84 #[v] w fun e w' => ∃ v', e = .returned v' ∧ UpO w' (fun k => w.heap.size ≤ k) v' x ∧ Kept NoB w w' := by
  obtain ⟨u, rfl, hd⟩ := h
  obtain ⟨y0, y1, y2, y3, y4, y5, y6⟩ := x
  simp only at hd hl ⊢
  have hk2 := ((Kept.refl NoB w).alloc (.cells #[.int .u64 y0, .int .i64 y1, .int .u64 y2, .int .i64 y3, .int .u32 y4, .int .u64 y5, u] 43)).alloc (.cells #[.int .u64 0, .int .i64 0, .int .u64 0, .int .i64 0, .int .u32 0, .int .u64 0, .slice none 0 0] 43)
  have h1 := heap_alloc_new w (.cells #[.int .u64 y0, .int .i64 y1, .int .u64 y2, .int .i64 y3, .int .u32 y4, .int .u64 y5, u] 43)
  have h2 := heap_alloc_new (w.alloc (.cells #[.int .u64 y0, .int .i64 y1, .int .u64 y2, .int .i64 y3, .int .u32 y4, .int .u64 y5, u] 43)) (.cells #[.int .u64 0, .int .i64 0, .int .u64 0, .int .i64 0, .int .u32 0, .int .u64 0, .slice none 0 0] 43)
  have HC := Lib.hid (Clone_own17 u y6 F _ (hd.kept hk2 (fun _ _ h => h)) hl)
  have h1' := blkU_alloc h1 (.cells #[.int .u64 0, .int .i64 0, .int .u64 0, .int .i64 0, .int .u32 0, .int .u64 0, .slice none 0 0] 43)
  rw [show (w.alloc (.cells #[.int .u64 y0, .int .i64 y1, .int .u64 y2, .int .i64 y3, .int .u32 y4, .int .u64 y5, u] 43)).heap.size = w.heap.size + 1 by simp] at h2
  obtain ⟨ua, uc, rfl, _⟩ := hd
  have HK := Lib.hid hk2
  have H1 := Lib.hid h1'
  have H2 := Lib.hid h2
  have HZ : Hid (((w.alloc (.cells #[.int .u64 y0, .int .i64 y1, .int .u64 y2, .int .i64 y3, .int .u32 y4, .int .u64 y5, .slice ua y6.length uc] 43)).alloc (.cells #[.int .u64 0, .int .i64 0, .int .u64 0, .int .i64 0, .int .u32 0, .int .u64 0, .slice none 0 0] 43)).heap.size = w.heap.size + 2) := Lib.hid (by simp)
  clear hk2 h1 h2 h1' hl
  go_enter Tryz.func84, Tryz.ntmps84
  go_wp2_with fail
  refine HC.out.mono ?_
  rintro e w1 ⟨v', rfl, hv, hk⟩
  obtain ⟨va, vc, rfl⟩ := own_form hv.2.1
  have HV := Lib.hid (hv.mono (G := fun k => w.heap.size + 2 ≤ k) (fun k _ h => by have := HZ.out; omega))
  have HK1 := Lib.hid (HK.out.trans hk (fun _ _ h => h))
  have h1 := hk.heap (fun h => h) H1.out
  have h2 := hk.heap (fun h => h) H2.out
  obtain ⟨c0, c1, c2, c3, c4, c5, c6⟩ := cells7 h1
  obtain ⟨r0, r1, r2, r3, r4, r5, r6⟩ := cells7 h2
  have z1 := blkU_frozen h1
  have z2 := blkU_frozen h2
  have H1' := Lib.hid h1
  have H2' := Lib.hid h2
  have hne : ¬ w.heap.size + 1 = w.heap.size := by omega
  have hne2 : ¬ w.heap.size = w.heap.size + 1 := by omega
  clear hk hv h1 h2
  go_wp2
  have hF := seven17_at (blkU_set_other H2'.out 6 (.slice va y6.length vc) hne2) (.int .u64 y0) (.int .i64 y1) (.int .u64 y2) (.int .i64 y3) (.int .u32 y4) (.int .u64 y5) (.slice va y6.length vc)
  have hK := (HK1.out.setCell (p := ⟨w.heap.size, 6, none⟩) (.inr (Nat.le_refl _)) (.slice va y6.length vc)).seven17 (b := w.heap.size + 1) (.inr (by omega)) 0 (.int .u64 y0) (.int .i64 y1) (.int .u64 y2) (.int .i64 y3) (.int .u32 y4) (.int .u64 y5) (.slice va y6.length vc)
  have hO := HV.out.kept (((Kept.refl (fun k => k < w.heap.size + 2) w1).setCell (p := ⟨w.heap.size, 6, none⟩) (.inl (by show w.heap.size < w.heap.size + 2; omega)) (.slice va y6.length vc)).seven17 (b := w.heap.size + 1) (.inl (by omega)) 0 (.int .u64 y0) (.int .i64 y1) (.int .u64 y2) (.int .i64 y3) (.int .u32 y4) (.int .u64 y5) (.slice va y6.length vc)) (fun k h h' => by omega)
  clear c0 c1 c2 c3 c4 c5 c6 r0 r1 r2 r3 r4 r5 r6 z1 z2
  obtain ⟨r0, r1, r2, r3, r4, r5, r6⟩ := cells7 hF
  clear hF
  unfold seven17 at r0 r1 r2 r3 r4 r5 r6 hK hO
  simp only [Nat.zero_add] at r0 r1 r2 r3 r4 r5 r6 hK hO
  generalize hW : World.setCell _ _ _ = W3 at r0 r1 r2 r3 r4 r5 r6 hK hO ⊢
  exact bodyPost_ret (v := .agg #[.int .u64 y0, .int .i64 y1, .int .u64 y2, .int .i64 y3, .int .u32 y4, .int .u64 y5, .slice va y6.length vc]) (by simp [results, Tryz.results84, go_sem, r0, r1, r2, r3, r4, r5, r6]) rfl ⟨_, rfl, ⟨_, rfl, hO.mono (fun k _ h => by omega)⟩, hK⟩
/-- Their data are rows of the call's own. -/
def DatO (w : World) (F : Nat → Prop) (ps : List (Up × Value)) : Prop := ∀ p ∈ ps, Own w F p.2 p.1.d
theorem DatO.u {w : World} {F : Nat → Prop} {ps : List (Up × Value)} (h : DatO w F ps) : DatU w F ps := fun p hp => (h p hp).bsl
theorem DatO.mono {F G : Nat → Prop} {w : World} {ps : List (Up × Value)} (h : DatO w F ps) (hG : ∀ k, k < w.heap.size → F k → G k) : DatO w G ps := fun p hp => (h p hp).mono hG
theorem Own.row17 {w : World} {F : Nat → Prop} {v : Value} {l : List Int} (h : Own w F v l) {k : Nat} (hk : v.ownBlock = some k) : ∃ cs fr, w.heap[k]? = some (.cells cs 5 fr) := by
  rcases h.2.1.2 with ⟨rfl, _⟩ | ⟨r, cap, cur, rfl, _, hr, _⟩
  · cases hk
  · injection hk with hk
    subst hk
    exact ⟨_, _, hr⟩
/-- Data are not a block of updates. -/
theorem Own.kept17 {S F : Nat → Prop} {w w' : World} {v : Value} {l : List Int} (h : Own w F v l) (hk : Kept S w w') (hs : ∀ k cs fr, w.heap[k]? = some (.cells cs 5 fr) → F k → ¬ S k) : Own w' F v l := by
  have h2 : Own w (fun k => F k ∧ v.ownBlock = some k) v l := ⟨h.1, h.2.1, fun k hk => ⟨h.2.2 k hk, hk⟩⟩
  have h3 := h2.kept hk (fun k ⟨h4, h5⟩ => by obtain ⟨cs, fr, h6⟩ := h.row17 h5; exact hs k cs fr h6 h4)
  exact ⟨h3.1, h3.2.1, fun k hk => (h3.2.2 k hk).1⟩
theorem DatO.kept17 {S F : Nat → Prop} {w w' : World} {ps : List (Up × Value)} (h : DatO w F ps) (hk : Kept S w w') (hs : ∀ k cs fr, w.heap[k]? = some (.cells cs 5 fr) → F k → ¬ S k) : DatO w' F ps := fun p hp => (h p hp).kept17 hk hs
theorem DatO.no {F : Nat → Prop} {w w' : World} {ps : List (Up × Value)} (h : DatO w F ps) (hk : Kept NoB w w') : DatO w' F ps := h.kept17 hk (fun _ _ _ _ _ h => h)
/-- A function literal that keeps a number, and tells by it. -/
structure TakesU (f : FuncId) (caps : Array Value) (T : Nat → Prop) (st : Int → Up → Bool × Int) (St : Int → World → Prop) (s0 : Int) (w : World) (F : Nat → Prop) (l : List Up) : Prop where
  ent : Enters17 f
  keep : ∀ s a b S, St s a → Kept S a b → (∀ k, k < w.heap.size → ¬ S k) → St s b
  lt : ∀ k, T k → k < w.heap.size
  far : ∀ k, F k → ¬ T k ∧ k < w.heap.size
  call : ∀ s x v w', (∃ k, k < l.length ∧ s = endU st s0 (l.take k)) → x ∈ l → UpV w' F v x → St s w' → Kept T w w' → Calls Tryz.prog f (#[v] ++ caps) w' fun e w'' => e = .returned (.bool (st s x).1) ∧ St (st s x).2 w'' ∧ Kept T w' w''
/-- What is chosen: a row of the call's own, with data of its own. -/
def SelEnd (w : World) (T : Nat → Prop) (St : Int → World → Prop) (s : Int) (out : List Up) (e : Ending) (w' : World) : Prop :=
  ∃ a c ps, e = .returned (.slice a out.length c) ∧ UOw 43 w.heap.size w' (.slice a out.length c) ps ∧ ps.map Prod.fst = out ∧ DatO w' (fun k => w.heap.size ≤ k) ps ∧ St s w' ∧ Kept T w w'
def SelRel (w : World) (l : List Up) (st : Int → Up → Bool × Int) (T : Nat → Prop) (St : Int → World → Prop) (s0 : Int) (ov iv : Value) (wr : World) : Prop :=
  ∃ (k : Nat) (ps : List (Up × Value)), k ≤ l.length ∧ iv = .int .i64 k ∧ UOw 43 w.heap.size wr ov ps ∧ ps.map Prod.fst = selU st s0 (l.take k) ∧ DatO wr (fun k => w.heap.size ≤ k) ps ∧ St (endU st s0 (l.take k)) wr ∧ Kept T w wr
end Go.Proofs.YtpdkmalfojeghaaGreatDoor
