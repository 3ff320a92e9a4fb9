/-
  An outgoing picture in memory; move.cut, New.
-/
import Derived.Test.YtnamipgdclbkeaaMovB
import Derived.RangeFuncNested
import Derived.RangeFuncBound
import Derived.RangeFuncLeaves
import Derived.Laws.AppendOwn
import Derived.Shelf.Abstract
namespace Go.Proofs.Ytnamipgdclbkeaa
open Go.RowKit Go.Shelf
set_option linter.unusedVariables false

/-- An outgoing picture at block g: its number, and the parts of the bytes l. -/
def OtAt (w : World) (F : Nat → Prop) (g n : Nat) (l : List Int) : Prop :=
  F g ∧ ∃ a c vs, w.heap[g]? = some (.cells #[.int .u64 n, .slice a (npr l.length) c] 55 (0, 0)) ∧ w.ownsRow 0 23 1 (.slice a (npr l.length) c) (npr l.length) vs ∧
    (∀ k, (Value.slice a (npr l.length) c).ownBlock = some k → F k) ∧ ∀ i, i < npr l.length → ∃ v, vs[i]? = some v ∧ BSl w F v (prt l i)
theorem OtAt.kept {S F : Nat → Prop} {w w' : World} {g n : Nat} {l : List Int} (h : OtAt w F g n l) (hk : Kept S w w') (hs : ∀ k, F k → ¬ S k) : OtAt w' F g n l := by
  obtain ⟨h1, a, c, vs, h2, h3, h4, h5⟩ := h
  refine ⟨h1, a, c, vs, hk.heap (hs g h1) h2, ⟨h3.1, ?_⟩, h4, fun i hi => ?_⟩
  · rcases h3.2 with hn | ⟨r, cap, cur, hv, hb, hr, rest⟩
    · exact .inl hn
    · exact .inr ⟨r, cap, cur, hv, hb, hk.heap (hs r (h4 r (by rw [hv]; rfl))) hr, rest⟩
  · obtain ⟨v, hv, hb⟩ := h5 i hi
    exact ⟨v, hv, hb.kept hk hs⟩
theorem OtAt.no {F : Nat → Prop} {w w' : World} {g n : Nat} {l : List Int} (h : OtAt w F g n l) (hk : Kept NoB w w') : OtAt w' F g n l := h.kept hk (fun _ _ h => h)
theorem OtAt.mono {F G : Nat → Prop} {w : World} {g n : Nat} {l : List Int} (h : OtAt w F g n l) (hG : ∀ k, k < w.heap.size → F k → G k) : OtAt w G g n l := by
  obtain ⟨h1, a, c, vs, h2, h3, h4, h5⟩ := h
  exact ⟨hG g (heap_lt h2) h1, a, c, vs, h2, h3, fun k hk => hG k (h3.lt k hk).2 (h4 k hk), fun i hi => by obtain ⟨v, hv, hb⟩ := h5 i hi; exact ⟨v, hv, hb.mono hG⟩⟩

theorem cut_any (a : Option Addr) (n c : Nat) (w : World) : Calls Try.prog 22 #[.slice a n c] w fun e w' => e = .returned (.func (.func 24) #[] #[.pointer (some ⟨w.heap.size, 0, none⟩)]) ∧ w' = w.alloc (.cells #[.slice a n c] 23) := by
  go_enter Try.func22, Try.ntmps22
  go_wp2
  go_ret
  exact ⟨rfl, rfl⟩

theorem infoBs21 : (Try.prog.info? 23).map (fun i => (i.zero, i.size, i.bytes)) = some (some (.slice none 0 0), 1, 24) := by kernel_rfl
/-- Between two rounds of New: o lies at block b, and points to block g; the parts pre have been put. -/
def NwM (w : World) (B g b n : Nat) (a : Option Addr) (c : Nat) (l : List Int) (pre : List Nat) (W : World) : Prop :=
  pre.length ≤ npr l.length ∧ W.heap[b]? = some (.cells #[.pointer (some ⟨g, 0, none⟩)] 25 (0, 0)) ∧
    (∃ a' c', W.heap[g]? = some (.cells #[.int .u64 n, .slice a' pre.length c'] 55 (0, 0)) ∧ W.ownsRow B 23 1 (.slice a' pre.length c') pre.length (pre.map (pvM a l.length))) ∧ Kept NoB w W ∧
    BSl W (fun k => b < k ∧ k < B) (.slice a l.length c) l ∧ B ≤ W.heap.size

theorem own_cells21 {w : World} {base n size : Nat} {e : TypeId} {v : Value} {xs : List Value} (h : w.ownsRow base e size v n xs) (k : Nat) (hk : v.ownBlock = some k) : ∃ cs t fr, w.heap[k]? = some (.cells cs t fr) := by
  rcases h.2 with ⟨rfl, _⟩ | ⟨r, cap, cur, rfl, _, hh, _⟩
  · simp [Value.ownBlock] at hk
  · have : r = k := by simpa [Value.ownBlock] using hk
    subst this
    exact ⟨_, _, _, hh⟩
/-- What a round of New leaves. -/
theorem nw_round {w W w1 : World} {B g n gg cap1 x : Nat} {va a' : Option Addr} {vc c' : Nat} {l : List Int} {pre : List Nat} {u : Value} (hu : pvM va l.length x = u) (hlen : pre.length ≤ npr l.length) (hN : pre.length < npr l.length)
    (hb : W.heap[g + 1]? = some (.cells #[.pointer (some ⟨g, 0, none⟩)] 25 (0, 0))) (hgb : W.heap[g]? = some (.cells #[.int .u64 n, .slice a' pre.length c'] 55 (0, 0))) (hkw : Kept NoB w W)
    (hbl : BSl W (fun k => g + 1 < k ∧ k < B) (.slice va l.length vc) l) (hWB : B ≤ W.heap.size)
    (hk2 : Kept (fun k => some k = (Value.slice a' pre.length c').ownBlock) W w1) (hneg : ¬ some g = (Value.slice a' pre.length c').ownBlock) (hneb : ¬ some (g + 1) = (Value.slice a' pre.length c').ownBlock)
    (hown2 : w1.ownsRow B 23 1 (.slice (some ⟨gg, 0, none⟩) (pre.length + 1) cap1) (pre.length + 1) (pre.map (pvM va l.length) ++ [u]))
    (hat : (Value.slice a' pre.length c').ownBlock = some gg ∨ W.heap.size ≤ gg) (hgw : w.heap.size ≤ g) (hwB : w.heap.size ≤ B) (hrow : ∀ k, (Value.slice a' pre.length c').ownBlock = some k → ∃ cs t fr, W.heap[k]? = some (.cells cs t fr)) (hbs : ∀ k, (Value.slice a' pre.length c').ownBlock = some k → B ≤ k) :
    NwM w B g (g + 1) n va vc l (pre ++ [x]) (w1.setCell ⟨g, 1, none⟩ (.slice (some ⟨gg, 0, none⟩) (pre.length + 1) cap1)) ∧ KeepsOthers W (w1.setCell ⟨g, 1, none⟩ (.slice (some ⟨gg, 0, none⟩) (pre.length + 1) cap1)) := by
  subst hu
  have hbg : g + 1 ≠ g := by omega
  have hgg : gg ≠ g := by
    rintro rfl
    rcases hat with hat | hat
    · exact hneg hat.symm
    · have := heap_lt hgb; omega
  have hs2 := hk2.size
  have hb3 := hk2.heap hneb hb
  have hg3 := hk2.heap hneg hgb
  refine ⟨⟨by simp; omega, (Below.heap_setCell w1 ⟨g, 1, none⟩ _ (g + 1) hbg).trans hb3, ⟨some ⟨gg, 0, none⟩, cap1, ?_, ?_⟩, ?_, ?_, by simp [World.setCell]; omega⟩, ?_⟩
  · have hlt := heap_lt hg3
    obtain ⟨_, he⟩ := Array.getElem?_eq_some_iff.1 hg3
    show (w1.heap.modify g _)[g]? = _
    rw [Array.getElem?_eq_getElem (by rw [Array.size_modify]; exact hlt), Array.getElem_modify_self, he]
    simp
  · have e : (pre ++ [x]).length = pre.length + 1 := by simp
    rw [e, List.map_append]
    refine ⟨hown2.1, ?_⟩
    rcases hown2.2 with ⟨hv, _⟩ | ⟨r, cap, cur, hv, hB, hh, rest⟩
    · cases hv
    · have hr : r = gg := by injection hv with h1; injection h1 with h1; injection h1 with h1; exact h1.symm
      subst hr
      exact .inr ⟨r, cap, cur, hv, hB, (Below.heap_setCell w1 ⟨g, 1, none⟩ _ r hgg).trans hh, rest⟩
  · exact (hkw.trans hk2 (fun i hi e => by have := hbs i e.symm; omega)).setCell (.inr hgw) _
  · refine (hbl.kept hk2 (fun k hk e => by have := hbs k e.symm; omega)).kept (S := fun k => k = g) ((Kept.refl (fun k => k = g) w1).setCell (p := ⟨g, 1, none⟩) (Or.inl (Eq.refl g)) _) (fun k hk e => by omega)
  · refine KeepsOthers.trans ⟨hk2.size, fun k o hk ho => hk2.heap (fun e => ?_) hk⟩ (KeepsOthers.setCell _ _ _)
    obtain ⟨cs, t, fr, hc⟩ := hrow k e.symm
    rw [hk] at hc
    injection hc with hc
    subst hc
    cases ho
attribute [local go_sem] Oper.semAt_some
set_option maxRecDepth 100000 in
set_option maxHeartbeats 2000000 in
theorem NewM_any (n : Nat) (v : Value) (l : List Int) (F : Nat → Prop) (w : World) (h : BSl w F v l) (hl : l.length ≤ 100000) :
    Calls Try.prog 8 #[.int .u64 n, v] w fun e w' => ∃ g, e = .returned (.pointer (some ⟨g, 0, none⟩)) ∧ OtAt w' (fun k => w.heap.size ≤ k ∧ k < w'.heap.size) g n l ∧ Kept NoB w w' := by
  refine (callsIn_wide (n := 9)).1 (callsIn_of_wp_marks Try.func8 rfl trivial (wpIn_wide.2 ?_) rfl)
  simp only [Try.ntmps8, List.size_toArray, List.length_cons, List.length_nil, Nat.reduceAdd, Nat.reduceSub, Array.replicate_succ, Array.replicate_zero, List.push_toArray, List.append_toArray, List.nil_append, List.cons_append]
  have HB := Lib.hid h
  clear h
  go_wp2_with (first
    | (go_at_call 23; refine (CloneM_any v l F _ (HB.out.kept (S := NoB) (((Kept.refl _ _).alloc _).alloc _) (fun _ _ h => h)) (by omega)).mono ?_; rintro e w2 ⟨v', rfl, hv', hk2⟩; have HV := Lib.hid hv'; have HK2 := Lib.hid hk2; clear hv' hk2; obtain ⟨va, vc, hve⟩ : ∃ va vc, v' = .slice va l.length vc := (by obtain ⟨va, vc, h1, _⟩ := HV.out; exact ⟨va, vc, h1⟩); subst hve)
    | (go_at_call 22; refine (cut_any va l.length vc w2).mono ?_; rintro e w3 ⟨rfl, rfl⟩))
  obtain ⟨g, hg⟩ : ∃ g, g = w.heap.size := ⟨_, rfl⟩
  obtain ⟨W1, hW1⟩ : ∃ W1, W1 = (w.alloc (.cells #[.int .u64 n, .slice none 0 0] 55)).alloc (.cells #[.pointer (some ⟨w.heap.size, 0, none⟩)] 25) := ⟨_, rfl⟩
  have hk1 : Kept NoB w W1 := by rw [hW1]; exact ((Kept.refl _ _).alloc _).alloc _
  have hg1 : W1.heap[g]? = some (.cells #[.int .u64 n, .slice none 0 0] 55 (0, 0)) := by
    rw [hW1, hg]; exact (heap_alloc_old _ _ (by simp)).trans (heap_alloc_new w _)
  have hb1 : W1.heap[g + 1]? = some (.cells #[.pointer (some ⟨g, 0, none⟩)] 25 (0, 0)) := by
    rw [hW1, hg]; have := heap_alloc_new (w.alloc (.cells #[.int .u64 n, .slice none 0 0] 55)) (.cells #[.pointer (some ⟨w.heap.size, 0, none⟩)] 25); rwa [World.size_alloc] at this
  rw [← hW1] at HK2 HV
  rw [← hg]
  have hk3 : Kept NoB W1 (w2.alloc (.cells #[.slice va l.length vc] 23)) := HK2.out.alloc _
  obtain ⟨W3, hW3⟩ : ∃ W3, W3 = w2.alloc (.cells #[.slice va l.length vc] 23) := ⟨_, rfl⟩
  have hcc : W3.cell? ⟨w2.heap.size, 0, none⟩ = some (.slice va l.length vc) := by rw [hW3]; exact cell_of_row _ _ 0 _ _ _ (heap_alloc_new w2 _)
  have hz1 : W1.heap.size = g + 2 := by rw [hW1, hg]; simp
  have hb3 : BSl W3 (fun k => g + 1 < k ∧ k < W3.heap.size) (.slice va l.length vc) l := by
    rw [hW3]; exact (HV.out.kept (S := NoB) ((Kept.refl _ _).alloc _) (fun _ _ h => h)).mono (fun k _ h => ⟨by omega, by simp; omega⟩)
  rw [← hW3] at hk3 ⊢
  have hI0 : NwM w W3.heap.size g (g + 1) n va vc l [] W3 := ⟨Nat.zero_le _, hk3.heap (fun h => h) hb1, ⟨none, 0, hk3.heap (fun h => h) hg1, World.ownsRow_nil _ _ _ _⟩, hk1.trans hk3 (fun _ _ h => h), hb3, Nat.le_refl _⟩
  have HK3 := Lib.hid (hk1.trans hk3 (fun _ _ h => h))
  have HB3 := Lib.hid hb3
  have hgw : w.heap.size ≤ g := by omega
  have hwD : g + 1 < W3.heap.size := heap_lt (hk3.heap (fun h => h) hb1)
  clear hg hW1 hW3 hk1 hg1 hb1 HV HK2 hk3 hb3 hz1
  refine (wpIn_wide (n := 9)).1 ?_
  refine wpIn_rangeFunc_ownF rfl (by omega) (gf := 24) (lb := #[.pointer (some ⟨w2.heap.size, 0, none⟩)]) rfl trivial (enters_of Try.func24 (by kernel_rfl) rfl)
    (stops_cut (n := 8) hcc HB3.out (by omega) (by omega)) (fun _ _ => trivial) (fun _ _ _ _ _ _ _ _ => trivial) (Below.refl _ _) (fun _ => rfl)
    (fun pre W => NwM w W3.heap.size g (g + 1) n va vc l pre W) (fun _ _ _ => False)
    (fun s A B row hs hg' hr => ?own) (fun c s A B row hs _ _ => hs) hI0 ?a1 ?assign ?body ?done ?stop
  case own =>
    obtain ⟨h2, h3, ⟨a', c', h4, h5⟩, h6, h7, h8⟩ := hs
    have hk : Kept (fun k => some k = row) A B := ⟨hg'.os, hg'.tape, hg'.output, hg'.size, fun k hk hn => hg'.block k hk hn⟩
    have hcl : ∀ k cs t fr, A.heap[k]? = some (.cells cs t fr) → ¬ some k = row := by
      intro k cs t fr hc e
      obtain ⟨_, o, ho, hoc⟩ := hr k e.symm
      rw [hc] at ho
      injection ho with ho
      subst ho
      cases hoc
    refine ⟨h2, hk.heap (hcl _ _ _ _ h3) h3, ⟨a', c', hk.heap (hcl _ _ _ _ h4) h4, ⟨h5.1, ?_⟩⟩, h6.trans hk (fun i hi e => by have := (hr i e.symm).1; have := HK3.out.size; omega), h7.kept hk (fun k hk e => by have := (hr k e.symm).1; omega), Nat.le_trans h8 hk.size⟩
    rcases h5.2 with hn | ⟨r, cap, cur, hv, hb, hh, rest⟩
    · exact .inl hn
    · exact .inr ⟨r, cap, cur, hv, hb, hk.heap (hcl _ _ _ _ hh) hh, rest⟩
  case assign =>
    intro l' x W K hK
    gi_wp2
    exact hK
  case body =>
    rintro y pre x W ⟨hlen, hb, ⟨a', c', hgb, hown⟩, hkw, hbl, hWB⟩ hN
    obtain ⟨i0, hi0, hz0, hz1, hz2⟩ := info_parts infoBs21
    have qb : W.cell? ⟨g + 1, 0, none⟩ = some (.pointer (some ⟨g, 0, none⟩)) := cell_of_row _ _ 0 _ _ _ hb
    have qg : W.cell? ⟨g, 1, none⟩ = some (.slice a' pre.length c') := cell_of_row _ _ 1 _ _ _ hgb
    have hneg : ¬ some g = (Value.slice a' pre.length c').ownBlock := own_ne hown hgb (by decide)
    have hneb : ¬ some (g + 1) = (Value.slice a' pre.length c').ownBlock := own_ne hown hb (by decide)
    have hks := hkw.size
    obtain ⟨pa, pn, hpv⟩ : ∃ pa pn, pvM va l.length x = .slice pa pn pn := ⟨_, _, rfl⟩
    rw [hpv]
    have hNp : npr l.length ≤ 100000 := by unfold npr; omega
    refine wpIn_block ?_
    refine wpIn_region_held_round (S := fun w' => w'.cell? ⟨g + 1, 0, none⟩ = some (.pointer (some ⟨g, 0, none⟩))) (by kernel_rfl) ?_ ?_ (fun hHeld => ?_)
    · (intro j o ho c hc; rcases j with _ | _ | _ | _ | _ | _ | _ | _ | _ | _ | _ | j <;> simp at ho <;> subst ho <;> cases hc)
    · exact qb
    refine wpAnyH_take (i := 5) (oi := { dst := some 19, op := Op.move (Operand.tmp 6), type := 23, pos := "move.go:21", after := #[], guard := none }) (v := ?_) rfl (by kernel_rfl) (by kernel_rfl) (by kernel_rfl) (fun _ _ _ h => h) (Or.inl ⟨by rfl, ?_⟩) (by assumption) ?_
    rotate_left
    · (intro w hSw; (try dsimp only at hSw); go_simp; try with_reducible rfl)
    try simp only [Act.put, List.setIfInBounds_toArray, List.set_cons_zero, List.set_cons_succ]
    refine wpAnyH_take (i := 0) (oi := { dst := some 14, op := Op.load 25 (Operand.tmp 5), type := 25, pos := "move.go:21", after := #[], guard := none }) (v := ?_) rfl (by kernel_rfl) (by kernel_rfl) (by kernel_rfl) (fun _ _ _ h => h) (Or.inl ⟨by rfl, ?_⟩) (by assumption) ?_
    rotate_left
    · (intro w hSw; (try dsimp only at hSw); go_simp; try with_reducible rfl)
    try simp only [Act.put, List.setIfInBounds_toArray, List.set_cons_zero, List.set_cons_succ]
    refine wpAnyH_take (i := 1) (oi := { dst := some 15, op := Op.load 25 (Operand.tmp 5), type := 25, pos := "move.go:21", after := #[], guard := none }) (v := ?_) rfl (by kernel_rfl) (by kernel_rfl) (by kernel_rfl) (fun _ _ _ h => h) (Or.inl ⟨by rfl, ?_⟩) (by assumption) ?_
    rotate_left
    · (intro w hSw; (try dsimp only at hSw); go_simp; try with_reducible rfl)
    try simp only [Act.put, List.setIfInBounds_toArray, List.set_cons_zero, List.set_cons_succ]
    refine wpAnyH_take (i := 2) (oi := { dst := some 16, op := Op.nilCheck (Operand.tmp 15), type := 0, pos := "move.go:21", after := #[{ on := 1, ground := Ground.data }], guard := none }) (v := ?_) rfl (by kernel_rfl) (by kernel_rfl) (by kernel_rfl) (fun _ _ _ h => h) (Or.inl ⟨by rfl, ?_⟩) (by assumption) ?_
    rotate_left
    · (intro w hSw; (try dsimp only at hSw); go_simp; try with_reducible rfl)
    try simp only [Act.put, List.setIfInBounds_toArray, List.set_cons_zero, List.set_cons_succ]
    refine wpAnyH_take (i := 3) (oi := { dst := some 17, op := Op.fieldAddr 55 (Operand.tmp 16) 1, type := 0, pos := "move.go:21", after := #[{ on := 2, ground := Ground.data }], guard := none }) (v := ?_) rfl (by kernel_rfl) (by kernel_rfl) (by kernel_rfl) (fun _ _ _ h => h) (Or.inl ⟨by rfl, ?_⟩) (by assumption) ?_
    rotate_left
    · (intro w hSw; (try dsimp only at hSw); go_simp; try with_reducible rfl)
    try simp only [Act.put, List.setIfInBounds_toArray, List.set_cons_zero, List.set_cons_succ]
    refine wpAnyH_ready (rs := [4, 6]) (by kernel_rfl) (by simp) ?_
    refine AllReadyH.cons (o := { dst := some 18, op := Op.load 38 (Operand.tmp 17), type := 38, pos := "move.go:21", after := #[{ on := 3, ground := Ground.data }], guard := none }) rfl (fun K hK => ?_) (AllReadyH.cons (o := { dst := some 20, op := Op.buildSlice 38 1 #[(0, Operand.tmp 19)], type := 38, pos := "move.go:21", after := #[{ on := 5, ground := Ground.data }], guard := none }) rfl (fun K hK => ?_) AllReadyH.nil)
    · have qg1 : W.drew.cell? ⟨g, 1, none⟩ = some (.slice a' pre.length c') := qg
      go_simp
      refine hK.out _ _ ?_ (fun hHeld => ?_)
      · (try dsimp only); exact qb
      clear hK K
      try simp only [Act.put, List.setIfInBounds_toArray, List.set_cons_zero, List.set_cons_succ]
      refine wpAnyH_ready (rs := [6]) (by kernel_rfl) (by simp) ?_
      refine AllReadyH.cons (o := { dst := some 20, op := Op.buildSlice 38 1 #[(0, Operand.tmp 19)], type := 38, pos := "move.go:21", after := #[{ on := 5, ground := Ground.data }], guard := none }) rfl (fun K hK => ?_) AllReadyH.nil
      go_simp
      refine hK.out _ _ ?_ (fun hHeld => ?_)
      · (try dsimp only); exact cell_alloc (cell_drew qb) _
      clear hK K
      try simp only [Act.put, List.setIfInBounds_toArray, List.set_cons_zero, List.set_cons_succ]
      refine wpAnyH_ready (rs := [7]) (by kernel_rfl) (by simp) ?_
      refine AllReadyH.cons (o := { dst := some 21, op := Op.call { callee := Callee.builtin Builtin.append, args := #[Operand.tmp 18, Operand.tmp 20], argTypes := #[38, 38] }, type := 38, pos := "move.go:21", after := #[{ on := 4, ground := Ground.data }, { on := 6, ground := Ground.data }], guard := none }) rfl (fun K hK => ?_) AllReadyH.nil
      refine step_append_lies _ (by rfl) _ _ _ (by rfl) W3.heap.size 23 i0 _ 1 24 Try.underlying38 hi0 hz0 hz1 hz2 rfl (by omega) (.slice a' pre.length c') pre.length (pre.map (pvM va l.length)) (by rfl) (by first | exact (hown.drew).alloc _ | exact (hown.alloc _).drew) ⟨W.heap.size, 0, none⟩ 1 1 [_] (by rfl) (by rfl) (World.news_of_block (cs := #[_]) (t := 23) (fr := (0, 0)) (heap_alloc_new W.drew _)) (by simp [Value.oneCell']) (by omega) (by unfold maxLen; omega) (by omega) (by simp; omega) (W.heap.size + 1) (by simp) ?_
      intro gg cap1 w1 hown2 hgrow hat hlt
      have hk2 : Kept (fun k => some k = (Value.slice a' pre.length c').ownBlock) W w1 := ((Kept.refl _ _).drew.alloc _).grown hgrow (fun k hk => .inl hk.symm)
      have qb2 : w1.cell? ⟨g + 1, 0, none⟩ = some (.pointer (some ⟨g, 0, none⟩)) := cell_of_row _ _ 0 _ _ _ (hk2.heap hneb hb)
      have hg2 : w1.heap[g]? = some (.cells #[.int .u64 n, .slice a' pre.length c'] 55 (0, 0)) := hk2.heap hneg hgb
      refine hK.out _ _ ?_ (fun hHeld => ?_)
      · (try dsimp only); exact qb2
      clear hK K
      try simp only [Act.put, List.setIfInBounds_toArray, List.set_cons_zero, List.set_cons_succ]
      refine wpAnyH_take (i := 8) (oi := { dst := some 22, op := Op.nilCheck (Operand.tmp 14), type := 0, pos := "move.go:21", after := #[{ on := 0, ground := Ground.data }, { on := 0, ground := Ground.phase }, { on := 1, ground := Ground.phase }, { on := 2, ground := Ground.phase }, { on := 3, ground := Ground.phase }, { on := 4, ground := Ground.phase }, { on := 5, ground := Ground.phase }, { on := 6, ground := Ground.phase }, { on := 7, ground := Ground.phase }], guard := none }) (v := ?_) rfl (by kernel_rfl) (by kernel_rfl) (by kernel_rfl) (fun _ _ _ h => h) (Or.inl ⟨by rfl, ?_⟩) (by assumption) ?_
      rotate_left
      · (intro w hSw; (try dsimp only at hSw); go_simp; try with_reducible rfl)
      try simp only [Act.put, List.setIfInBounds_toArray, List.set_cons_zero, List.set_cons_succ]
      refine wpAnyH_take (i := 9) (oi := { dst := some 23, op := Op.fieldAddr 55 (Operand.tmp 22) 1, type := 0, pos := "move.go:21", after := #[{ on := 8, ground := Ground.data }, { on := 0, ground := Ground.phase }, { on := 1, ground := Ground.phase }, { on := 2, ground := Ground.phase }, { on := 3, ground := Ground.phase }, { on := 4, ground := Ground.phase }, { on := 5, ground := Ground.phase }, { on := 6, ground := Ground.phase }, { on := 7, ground := Ground.phase }], guard := none }) (v := ?_) rfl (by kernel_rfl) (by kernel_rfl) (by kernel_rfl) (fun _ _ _ h => h) (Or.inl ⟨by rfl, ?_⟩) (by assumption) ?_
      rotate_left
      · (intro w hSw; (try dsimp only at hSw); go_simp; try with_reducible rfl)
      try simp only [Act.put, List.setIfInBounds_toArray, List.set_cons_zero, List.set_cons_succ]
      refine wpAnyH_ready (rs := [10]) (by kernel_rfl) (by simp) ?_
      refine AllReadyH.cons (o := { dst := none, op := Op.store 38 (Operand.tmp 23) (Operand.tmp 21), type := 0, pos := "move.go:21", after := #[{ on := 9, ground := Ground.data }, { on := 7, ground := Ground.data }, { on := 7, ground := Ground.chain }, { on := 0, ground := Ground.phase }, { on := 1, ground := Ground.phase }, { on := 2, ground := Ground.phase }, { on := 3, ground := Ground.phase }, { on := 4, ground := Ground.phase }, { on := 5, ground := Ground.phase }, { on := 6, ground := Ground.phase }, { on := 7, ground := Ground.phase }], guard := none }) rfl (fun K hK => ?_) AllReadyH.nil
      have qg2 : w1.cell? ⟨g, 1, none⟩ = some (.slice a' pre.length c') := cell_of_row _ _ 1 _ _ _ hg2
      have zg2 : w1.frozen? ⟨g, 1, none⟩ = false := by simp [World.frozen?, hg2]
      go_simp
      refine hK.out _ _ ?_ (fun hHeld => ?_)
      · (try dsimp only); exact (World.cell?_setCell_other _ _ _ _ (by simp)).trans qb2
      clear hK K
      try simp only [Act.put, List.setIfInBounds_toArray, List.set_cons_zero, List.set_cons_succ]
      refine wpAnyH_done (by kernel_rfl) ?_ _
      obtain ⟨e1, e2⟩ := nw_round hpv hlen hN hb hgb hkw hbl hWB hk2 hneg hneb hown2 (hat.imp id (fun h => by omega)) hgw HK3.out.size (own_cells21 hown) (fun k hk => (hown.lt k hk).1)
      exact ⟨e2, trivial, e1⟩
    · go_simp
      refine hK.out _ _ ?_ (fun hHeld => ?_)
      · (try dsimp only); exact cell_alloc (cell_drew qb) _
      clear hK K
      try simp only [Act.put, List.setIfInBounds_toArray, List.set_cons_zero, List.set_cons_succ]
      refine wpAnyH_ready (rs := [4]) (by kernel_rfl) (by simp) ?_
      refine AllReadyH.cons (o := { dst := some 18, op := Op.load 38 (Operand.tmp 17), type := 38, pos := "move.go:21", after := #[{ on := 3, ground := Ground.data }], guard := none }) rfl (fun K hK => ?_) AllReadyH.nil
      have qg1 : (W.alloc (.cells #[.slice pa pn pn] 23)).cell? ⟨g, 1, none⟩ = some (.slice a' pre.length c') := cell_alloc qg _
      go_simp
      refine hK.out _ _ ?_ (fun hHeld => ?_)
      · (try dsimp only); exact cell_alloc (cell_drew qb) _
      clear hK K
      try simp only [Act.put, List.setIfInBounds_toArray, List.set_cons_zero, List.set_cons_succ]
      refine wpAnyH_ready (rs := [7]) (by kernel_rfl) (by simp) ?_
      refine AllReadyH.cons (o := { dst := some 21, op := Op.call { callee := Callee.builtin Builtin.append, args := #[Operand.tmp 18, Operand.tmp 20], argTypes := #[38, 38] }, type := 38, pos := "move.go:21", after := #[{ on := 4, ground := Ground.data }, { on := 6, ground := Ground.data }], guard := none }) rfl (fun K hK => ?_) AllReadyH.nil
      refine step_append_lies _ (by rfl) _ _ _ (by rfl) W3.heap.size 23 i0 _ 1 24 Try.underlying38 hi0 hz0 hz1 hz2 rfl (by omega) (.slice a' pre.length c') pre.length (pre.map (pvM va l.length)) (by rfl) (by first | exact (hown.drew).alloc _ | exact (hown.alloc _).drew) ⟨W.heap.size, 0, none⟩ 1 1 [_] (by rfl) (by rfl) (World.news_of_block (cs := #[_]) (t := 23) (fr := (0, 0)) (heap_alloc_new W.drew _)) (by simp [Value.oneCell']) (by omega) (by unfold maxLen; omega) (by omega) (by simp; omega) (W.heap.size + 1) (by simp) ?_
      intro gg cap1 w1 hown2 hgrow hat hlt
      have hk2 : Kept (fun k => some k = (Value.slice a' pre.length c').ownBlock) W w1 := ((Kept.refl _ _).drew.alloc _).grown hgrow (fun k hk => .inl hk.symm)
      have qb2 : w1.cell? ⟨g + 1, 0, none⟩ = some (.pointer (some ⟨g, 0, none⟩)) := cell_of_row _ _ 0 _ _ _ (hk2.heap hneb hb)
      have hg2 : w1.heap[g]? = some (.cells #[.int .u64 n, .slice a' pre.length c'] 55 (0, 0)) := hk2.heap hneg hgb
      refine hK.out _ _ ?_ (fun hHeld => ?_)
      · (try dsimp only); exact qb2
      clear hK K
      try simp only [Act.put, List.setIfInBounds_toArray, List.set_cons_zero, List.set_cons_succ]
      refine wpAnyH_take (i := 8) (oi := { dst := some 22, op := Op.nilCheck (Operand.tmp 14), type := 0, pos := "move.go:21", after := #[{ on := 0, ground := Ground.data }, { on := 0, ground := Ground.phase }, { on := 1, ground := Ground.phase }, { on := 2, ground := Ground.phase }, { on := 3, ground := Ground.phase }, { on := 4, ground := Ground.phase }, { on := 5, ground := Ground.phase }, { on := 6, ground := Ground.phase }, { on := 7, ground := Ground.phase }], guard := none }) (v := ?_) rfl (by kernel_rfl) (by kernel_rfl) (by kernel_rfl) (fun _ _ _ h => h) (Or.inl ⟨by rfl, ?_⟩) (by assumption) ?_
      rotate_left
      · (intro w hSw; (try dsimp only at hSw); go_simp; try with_reducible rfl)
      try simp only [Act.put, List.setIfInBounds_toArray, List.set_cons_zero, List.set_cons_succ]
      refine wpAnyH_take (i := 9) (oi := { dst := some 23, op := Op.fieldAddr 55 (Operand.tmp 22) 1, type := 0, pos := "move.go:21", after := #[{ on := 8, ground := Ground.data }, { on := 0, ground := Ground.phase }, { on := 1, ground := Ground.phase }, { on := 2, ground := Ground.phase }, { on := 3, ground := Ground.phase }, { on := 4, ground := Ground.phase }, { on := 5, ground := Ground.phase }, { on := 6, ground := Ground.phase }, { on := 7, ground := Ground.phase }], guard := none }) (v := ?_) rfl (by kernel_rfl) (by kernel_rfl) (by kernel_rfl) (fun _ _ _ h => h) (Or.inl ⟨by rfl, ?_⟩) (by assumption) ?_
      rotate_left
      · (intro w hSw; (try dsimp only at hSw); go_simp; try with_reducible rfl)
      try simp only [Act.put, List.setIfInBounds_toArray, List.set_cons_zero, List.set_cons_succ]
      refine wpAnyH_ready (rs := [10]) (by kernel_rfl) (by simp) ?_
      refine AllReadyH.cons (o := { dst := none, op := Op.store 38 (Operand.tmp 23) (Operand.tmp 21), type := 0, pos := "move.go:21", after := #[{ on := 9, ground := Ground.data }, { on := 7, ground := Ground.data }, { on := 7, ground := Ground.chain }, { on := 0, ground := Ground.phase }, { on := 1, ground := Ground.phase }, { on := 2, ground := Ground.phase }, { on := 3, ground := Ground.phase }, { on := 4, ground := Ground.phase }, { on := 5, ground := Ground.phase }, { on := 6, ground := Ground.phase }, { on := 7, ground := Ground.phase }], guard := none }) rfl (fun K hK => ?_) AllReadyH.nil
      have qg2 : w1.cell? ⟨g, 1, none⟩ = some (.slice a' pre.length c') := cell_of_row _ _ 1 _ _ _ hg2
      have zg2 : w1.frozen? ⟨g, 1, none⟩ = false := by simp [World.frozen?, hg2]
      go_simp
      refine hK.out _ _ ?_ (fun hHeld => ?_)
      · (try dsimp only); exact (World.cell?_setCell_other _ _ _ _ (by simp)).trans qb2
      clear hK K
      try simp only [Act.put, List.setIfInBounds_toArray, List.set_cons_zero, List.set_cons_succ]
      refine wpAnyH_done (by kernel_rfl) ?_ _
      obtain ⟨e1, e2⟩ := nw_round hpv hlen hN hb hgb hkw hbl hWB hk2 hneg hneb hown2 (hat.imp id (fun h => by omega)) hgw HK3.out.size (own_cells21 hown) (fun k hk => (hown.lt k hk).1)
      exact ⟨e2, trivial, e1⟩
  case done =>
    rintro D ys W hDD rfl ⟨hlen, hb, ⟨a', c', hgb, hown⟩, hkw, hbl, hWB⟩ hK
    have q5 : W.cell? ⟨g + 1, 0, none⟩ = some (.pointer (some ⟨g, 0, none⟩)) := cell_of_row _ _ 0 _ _ _ hb
    have HG := Lib.hid hgb
    have HO := Lib.hid hown
    have HKW := Lib.hid hkw
    have HKD := Lib.hid hK
    have HBL := Lib.hid hbl
    clear hb hgb hown hkw hK hlen hbl
    go_wp2
    refine ⟨by simp, .inl ⟨_, _, rfl, run_takeDeferred HKD.out, ?_⟩⟩
    refine ⟨.pointer (some ⟨g, 0, none⟩), ?_, g, rfl, ?_, ?_⟩
    · simp [results, Try.f8, go_sem]
    · have hDw := HK3.out.size
      have hkd : Kept (fun k => k = D) W (W.putObj D (.deferred none)) := ⟨rfl, rfl, rfl, by simp, fun k _ hn => World.putObj_heap_other hn⟩
      have hgD : ¬ g = D := by omega
      have hr0 := HO.out
      rw [List.length_range] at hr0
      have hg0 := HG.out
      rw [List.length_range] at hg0
      refine ⟨⟨hgw, by simp; exact heap_lt hg0⟩, a', c', _, hkd.heap hgD hg0, ⟨hr0.1, ?_⟩, fun k hk => ⟨by have := (hr0.lt k hk).1; omega, by simp; exact (hr0.lt k hk).2⟩, fun i hi => ⟨pvM va l.length i, by simp [hi], ?_⟩⟩
      · rcases hr0.2 with hn | ⟨r, cap, cur, hv, hB, hh, rest⟩
        · exact .inl hn
        · exact .inr ⟨r, cap, cur, hv, by omega, hkd.heap (by rintro rfl; rw [HKD.out] at hh; cases hh) hh, rest⟩
      · exact (pvM_bsl ((HBL.out.kept hkd (fun k hk e => by omega)).mono (G := fun k => w.heap.size ≤ k ∧ k < (W.putObj D (.deferred none)).heap.size) (fun k h1 h2 => ⟨by omega, h1⟩)) i hi)
    · exact HKW.out.trans (T := fun k => k = D) ⟨rfl, rfl, rfl, by simp, fun k _ hn => World.putObj_heap_other hn⟩ (fun i hi e => by have := HK3.out.size; omega)
  case stop =>
    rintro D c2 pre W hDD hpx hf hK
    exact absurd hf (fun h => h)
end Go.Proofs.Ytnamipgdclbkeaa
