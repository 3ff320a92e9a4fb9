/-
  Package bag: Keep.
-/
import Derived.Test.YteinjmhogkneoaaBagG
import Derived.Test.YteinjmhogkneoaaBagW
import Derived.RangeFuncBox
namespace Go.Proofs.Yteinjmhogkneoaa
open Go.RowKit Go.Shelf
set_option linter.unusedVariables false
attribute [local go_sem] Oper.semAt_some

theorem Try.info3 : (Try.prog.info? 3).map (fun i => (i.zero, i.size, i.bytes)) = some (some (.int .i64 0), 1, 8) := by kernel_rfl
/-- What an odd bag keeps, and the numbers of the others. -/
def kept6 (l : List It) : List It := l.filter fun x => oddB x.2
def gone6 (l : List It) : List Int := (l.filter fun x => !oddB x.2).map (·.1)
theorem gone6_app (l : List It) (x : It) : gone6 (l ++ [x]) = gone6 l ++ (if oddB x.2 = true then [] else [x.1]) := by
  unfold gone6
  rw [List.filter_append, List.map_append]
  by_cases h : oddB x.2 = true
  · simp [h]
  · simp [h]
theorem gone6_len (l : List It) : (gone6 l).length ≤ l.length := by
  unfold gone6; rw [List.length_map]; exact List.length_filter_le _ _
theorem gone6_inc {la : Int} {l : List It} (h : Inc la l) : IncN (gone6 l) := by
  have hs := h.sub (List.filter_sublist (p := fun x : It => !oddB x.2) (l := l))
  intro i j hij hj
  have hj' : j < (l.filter fun x => !oddB x.2).length := by unfold gone6 at hj; rwa [List.length_map] at hj
  have := hs.1 i j hij hj'
  unfold nth at this
  unfold gone6
  rw [List.getD_eq_getElem?_getD, List.getD_eq_getElem?_getD, List.getElem?_eq_getElem (by omega), List.getElem?_eq_getElem hj'] at this
  rw [List.getD_eq_getElem?_getD, List.getD_eq_getElem?_getD, List.getElem?_map, List.getElem?_map, List.getElem?_eq_getElem (by omega), List.getElem?_eq_getElem hj']
  exact this
theorem stays_gone {la : Int} {l : List It} (h : Inc la l) : stays (gone6 l) l = kept6 l := by
  unfold stays kept6
  apply List.filter_congr
  intro x hx
  have key : x.1 ∈ gone6 l ↔ oddB x.2 = false := by
    unfold gone6
    rw [List.mem_map]
    constructor
    · rintro ⟨y, hy, he⟩
      rw [List.mem_filter] at hy
      obtain ⟨i, hi, hxi⟩ := List.getElem_of_mem hx
      obtain ⟨j, hj, hyj⟩ := List.getElem_of_mem hy.1
      have hxn : nth l i = x := by unfold nth; rw [List.getD_eq_getElem?_getD, List.getElem?_eq_getElem hi]; exact hxi
      have hyn : nth l j = y := by unfold nth; rw [List.getD_eq_getElem?_getD, List.getElem?_eq_getElem hj]; exact hyj
      have hij : i = j := by
        rcases Nat.lt_trichotomy i j with h1 | h1 | h1
        · have := h.1 i j h1 hj
          rw [hxn, hyn] at this
          omega
        · exact h1
        · have := h.1 j i h1 hi
          rw [hxn, hyn] at this
          omega
      have hxy : x = y := by rw [← hxn, ← hyn, hij]
      rw [hxy]
      simpa using hy.2
    · intro ho
      exact ⟨x, by rw [List.mem_filter]; exact ⟨hx, by simp [ho]⟩, rfl⟩
  by_cases ho : oddB x.2 = true
  · rw [ho, decide_eq_true_eq]
    intro hm
    rw [key.1 hm] at ho
    cases ho
  · have ho' : oddB x.2 = false := by simpa using ho
    rw [ho', decide_eq_false_iff_not]
    exact fun hm => hm (key.2 ho')

/-- Between two rounds of Keep. -/
def GkI (B : Nat) (w : World) (bf b5 g : Nat) (row : Option Nat) (most last : Int) (l pre : List It) (W : World) : Prop :=
  W.heap[bf]? = some (.cells #[.func (.func 16) #[] #[]] 42 (0, 0)) ∧ (∃ a c, W.heap[b5]? = some (.cells #[.slice a (gone6 pre).length c] 45 (0, 0)) ∧ W.ownsRow w.heap.size 3 1 (.slice a (gone6 pre).length c) (gone6 pre).length ((gone6 pre).map (Value.int .i64))) ∧ Bg B W g row most last l ∧ Kept NoB w W
theorem GkI.own {D B : Nat} {w W W' : World} {bf b5 g : Nat} {row rr : Option Nat} {most last : Int} {l pre : List It} (h : GkI B w bf b5 g row most last l pre W) (hk : W.grownBy W' rr) (hr : ∀ r, rr = some r → D ≤ r ∧ ∃ o : Obj, W.heap[r]? = some o ∧ o.isCells = false) (hD : w.heap.size ≤ D) : GkI B w bf b5 g row most last l pre W' := by
  obtain ⟨h1, ⟨a, c, h2, h3⟩, h4, h5⟩ := h
  have k := kept_of_grown hk
  refine ⟨k.heap (nc hr h1) h1, ⟨a, c, k.heap (nc hr h2) h2, row_kept h3 k (fun k' hk' => ?_)⟩, h4.own hk hr, h5.trans k (fun i hi he => by have := (hr i he.symm).1; omega)⟩
  rcases h3.2 with ⟨hv, _⟩ | ⟨r, cap, cur, hv, _, hh, _⟩
  · rw [hv] at hk'; cases hk'
  · rw [hv] at hk'
    injection hk' with hk'
    subst hk'
    exact nc hr hh
/-- A round that puts one more number to those that go. -/
theorem GkI.step {D B : Nat} {w W w1 : World} {bf b5 g : Nat} {row : Option Nat} {most last : Int} {l pre : List It} {x : It} {a a' : Option Addr} {c c' : Nat} (h : GkI B w bf b5 g row most last l pre W) (ho : oddB x.2 = false) (hb5 : w.heap.size ≤ b5)
    (h2 : W.heap[b5]? = some (.cells #[.slice a (gone6 pre).length c] 45 (0, 0))) (h3 : W.ownsRow w.heap.size 3 1 (.slice a (gone6 pre).length c) (gone6 pre).length ((gone6 pre).map (Value.int .i64)))
    (hown : w1.ownsRow w.heap.size 3 1 (.slice a' ((gone6 pre).length + 1) c') ((gone6 pre).length + 1) ((gone6 pre).map (Value.int .i64) ++ [.int .i64 x.1])) (hk1 : Kept (fun k => some k = (Value.slice a (gone6 pre).length c).ownBlock) W w1) :
    GkI B w bf b5 g row most last l (pre ++ [x]) (w1.setCell ⟨b5, 0, none⟩ (.slice a' ((gone6 pre).length + 1) c')) ∧ KeepsOthers W (w1.setCell ⟨b5, 0, none⟩ (.slice a' ((gone6 pre).length + 1) c')) ∧ KpB D g W (w1.setCell ⟨b5, 0, none⟩ (.slice a' ((gone6 pre).length + 1) c')) := by
  obtain ⟨h1, _, h4, h5⟩ := h
  have hS : ∀ {k : Nat} {cs : Array Value} {t : TypeId} {fr : Nat × Nat}, W.heap[k]? = some (.cells cs t fr) → t ≠ 3 → ¬ (some k = (Value.slice a (gone6 pre).length c).ownBlock) := fun hk ht he => own_ne h3 hk (Ne.symm ht) he
  have e5 := hk1.heap (hS h2 (by decide)) h2
  have hk2 : Kept (One b5) w1 (w1.setCell ⟨b5, 0, none⟩ (.slice a' ((gone6 pre).length + 1) c')) := Kept.one (Kept.refl _ _) 0 _
  have hg : gone6 (pre ++ [x]) = gone6 pre ++ [x.1] := by rw [gone6_app, ho]; rfl
  obtain ⟨_, _, _, _, _, _, hrow, hrw, hgl, hgh⟩ := h4.cells
  have hT : Kept (fun k => k = b5 ∨ some k = (Value.slice a (gone6 pre).length c).ownBlock) W (w1.setCell ⟨b5, 0, none⟩ (.slice a' ((gone6 pre).length + 1) c')) := (hk1.mono (fun _ _ h => .inr h)).trans hk2 (fun i _ h => .inl h)
  have hTT : ∀ {k : Nat} {cs : Array Value} {t : TypeId} {fr : Nat × Nat}, W.heap[k]? = some (.cells cs t fr) → t ≠ 3 → t ≠ 45 → ¬ (k = b5 ∨ some k = (Value.slice a (gone6 pre).length c).ownBlock) := by
    rintro k cs t fr hk ht1 ht2 (rfl | he)
    · exact blk_ne hk h2 ht2 rfl
    · exact hS hk ht1 he
  have hlow : ∀ k, some k = (Value.slice a (gone6 pre).length c).ownBlock → w.heap.size ≤ k := fun k hk => (h3.lt k hk.symm).1
  refine ⟨⟨hT.heap (hTT h1 (by decide) (by decide)) h1, ⟨a', c', ?_, ?_⟩, h4.kept hT (hTT hgh (by decide) (by decide)) (fun r hr => ?_), h5.trans hT (fun i hi h => by
      rcases h with h | h
      · omega
      · have := hlow i h; omega)⟩, ⟨hT.size, fun k o hk ho => hT.heap ?_ hk⟩, KpB.ofKept hT (hTT hgh (by decide) (by decide)) hgl (fun k cs fr hk => hTT hk (by decide) (by decide))⟩
  · rw [hg, List.length_append]
    exact blk_set e5 0 _
  · rw [hg, List.length_append, List.map_append]
    exact row_kept hown hk2 (fun k hk h => by
      have h : k = b5 := h
      subst h
      have hk : (Value.slice a' ((gone6 pre).length + 1) c').ownBlock = some k := hk
      rcases hown.2 with ⟨_, h0⟩ | ⟨r, cap, cur, hv, _, hh, _⟩
      · omega
      · rw [hv] at hk
        injection hk with hk
        subst hk
        exact blk_ne e5 hh (by decide) rfl)
  · rcases hrow.2 with ⟨hv, _⟩ | ⟨r2, cap, cur, hv, _, hh2, _⟩
    · rw [hv] at hrw; rw [← hrw] at hr; cases hr
    · rw [hv] at hrw
      rw [← hrw] at hr
      injection hr with hr
      subst hr
      exact hTT hh2 (by decide) (by decide)
  · rintro (rfl | he)
    · rw [h2] at hk
      injection hk with hk
      subst hk
      cases ho
    · rcases h3.2 with ⟨hv, _⟩ | ⟨r2, cap, cur, hv, _, hh2, _⟩
      · rw [hv] at he; cases he
      · rw [hv] at he
        injection he with he
        subst he
        rw [hh2] at hk
        injection hk with hk
        subst hk
        cases ho

theorem row_mono {w : World} {B B' : Nat} {e : TypeId} {size n : Nat} {v : Value} {xs : List Value} (h : w.ownsRow B e size v n xs) (hb : B' ≤ B) : w.ownsRow B' e size v n xs := by
  refine ⟨h.1, ?_⟩
  rcases h.2 with hn | ⟨r, cap, cur, hv, hB, rest⟩
  · exact .inl hn
  · exact .inr ⟨r, cap, cur, hv, Nat.le_trans hb hB, rest⟩
theorem Kept.putObj {S : Nat → Prop} {a W : World} (h : Kept S a W) {D : Nat} (hD : a.heap.size ≤ D) (o : Obj) : Kept S a (W.putObj D o) :=
  h.trans (kept_of_grown (grownBy_putObj' W D o)) (fun i hi he => by injection he with he; omega)
/-- What Keep of the odd ones leaves. -/
def KpP (B g : Nat) (row : Option Nat) (most last : Int) (l : List It) (w : World) (e : Ending) (w' : World) : Prop :=
  e = .returned (.int .i64 ((l.length : Int) - (kept6 l).length)) ∧ Bg B w' g row most last (kept6 l) ∧ Kept (Tw g row) w w'
set_option maxRecDepth 100000 in
set_option maxHeartbeats 2000000 in
theorem Keep_any (B g : Nat) (row : Option Nat) (most last la : Int) (l : List It) (w : World) (hb : Bg B w g row most last l) (hinc : Inc la l) (hl : l.length ≤ 100000) :
    Calls Try.prog 15 #[.pointer (some ⟨g, 0, none⟩), .func (.func 16) #[] #[]] w (KpP B g row most last l w) := by
  obtain ⟨i0, hi0, hz0, hz1, hz2⟩ := info_parts Try.info3
  have hmf : ∀ (fn : Fn) (first cap : Array Value) (w : World), (Instr.makeFunc fn first cap).run Try.prog w = .ok (.func fn first cap) w := fun _ _ _ _ => rfl
  have h30 := heap_alloc_new w (.cells #[.func (.func 16) #[] #[]] 42)
  have h31 := heap_alloc_new (w.alloc (.cells #[.func (.func 16) #[] #[]] 42)) (.cells #[.slice none 0 0] 45)
  have h32 := heap_alloc_new ((w.alloc (.cells #[.func (.func 16) #[] #[]] 42)).alloc (.cells #[.slice none 0 0] 45)) (.cells #[.pointer (some ⟨g, 0, none⟩)] 23)
  rw [show (w.alloc (.cells #[.func (.func 16) #[] #[]] 42)).heap.size = w.heap.size + 1 by simp] at h31
  rw [show ((w.alloc (.cells #[.func (.func 16) #[] #[]] 42)).alloc (.cells #[.slice none 0 0] 45)).heap.size = w.heap.size + 1 + 1 by simp] at h32
  have hK0 := (((Kept.refl NoB w).alloc (.cells #[.func (.func 16) #[] #[]] 42)).alloc (.cells #[.slice none 0 0] 45)).alloc (.cells #[.pointer (some ⟨g, 0, none⟩)] 23)
  have hgI : GkI B w w.heap.size (w.heap.size + 1) g row most last l [] (((w.alloc (.cells #[.func (.func 16) #[] #[]] 42)).alloc (.cells #[.slice none 0 0] 45)).alloc (.cells #[.pointer (some ⟨g, 0, none⟩)] 23)) :=
    ⟨blk_alloc (blk_alloc h30 _) _, ⟨none, 0, blk_alloc h31 _, World.ownsRow_nil _ _ _ _⟩, hb.keptNo hK0, hK0⟩
  have HGI := Lib.hid hgI
  have H32 := Lib.hid (cell_of_row _ _ 0 _ _ _ h32)
  have HINC := Lib.hid hinc
  have HB := Lib.hid hb
  have hgl : g < w.heap.size := by obtain ⟨_, _, _, _, _, _, _, _, h, _⟩ := hb.cells; exact h
  clear h30 h31 h32 hK0 hgI hinc hb
  refine (callsIn_wide (n := 9)).1 (callsIn_of_wp_marks Try.func15 rfl trivial (wpIn_wide.2 ?_) rfl)
  simp only [Try.ntmps15, List.size_toArray, List.length_cons, List.length_nil, Nat.reduceAdd, Nat.reduceSub, Array.replicate_succ, Array.replicate_zero, List.push_toArray, List.append_toArray, List.nil_append, List.cons_append]
  go_wp2_with fail
  refine (All_any (some ⟨g, 0, none⟩) _).mono ?_
  rintro e w' ⟨rfl, rfl⟩
  go_wp2
  obtain ⟨W6, hW6⟩ : ∃ W6, W6 = ((w.alloc (.cells #[.func (.func 16) #[] #[]] 42)).alloc (.cells #[.slice none 0 0] 45)).alloc (.cells #[.pointer (some ⟨g, 0, none⟩)] 23) := ⟨_, rfl⟩
  have hD6 : W6.heap.size = w.heap.size + 1 + 1 + 1 := by rw [hW6]; simp
  rw [← hW6] at HGI H32 ⊢
  have hD7 : w.heap.size + 1 + 1 < W6.heap.size := by omega
  have hwD : w.heap.size ≤ W6.heap.size := by omega
  clear hW6 hD6
  refine (wpIn_wide (n := 9)).1 ?_
  refine wpIn_rangeFunc_ownF rfl (by omega) (gf := 39) (lb := #[.pointer (some ⟨w.heap.size + 1 + 1, 0, none⟩)]) rfl trivial (enters_of Try.func39 (by kernel_rfl) rfl)
    (stops_bag H32.out (by omega) HGI.out.2.2.1 hl (by omega)) (fun h k => h.trans k) (fun W l o o' h1 h2 h3 _ => KpB.put (by omega) W l o o' h1 h2 h3) (Below.refl _ _) (fun _ => rfl)
    (fun pre W => GkI B w w.heap.size (w.heap.size + 1) g row most last l pre W)
    (fun _ _ _ => False)
    (fun s A' B' row' hs hg hr => hs.own hg hr hwD)
    (fun c s A' B' row' hs hg hr => hs)
    HGI.out ?a1 ?assign ?body ?done ?stop
  case assign =>
    intro l x W K hK
    unfold encI
    gi_wp2
    exact hK
  case stop =>
    rintro D c2 pre W hDD hpx h hK
    exact h.elim
  case body =>
    rintro y pre x W hgi hN
    obtain ⟨no, x⟩ := x
    obtain ⟨hf, ⟨a, c, h5, hrow⟩, hbg, hkk⟩ := hgi
    have qf : W.cell? ⟨w.heap.size, 0, none⟩ = some (.func (.func 16) #[] #[]) := cell_of_row _ _ 0 _ _ _ hf
    have q5 : W.cell? ⟨w.heap.size + 1, 0, none⟩ = some (.slice a (gone6 pre).length c) := cell_of_row _ _ 0 _ _ _ h5
    have z5 : W.frozen? ⟨w.heap.size + 1, 0, none⟩ = false := blk_frozen0 h5 0
    have HGK := Lib.hid (show GkI B w w.heap.size (w.heap.size + 1) g row most last l pre W from ⟨hf, ⟨a, c, h5, hrow⟩, hbg, hkk⟩)
    have H5 := Lib.hid h5
    have HROW := Lib.hid hrow
    have hgn := gone6_len pre
    clear hf h5 hrow hbg hkk
    gi_wp2_with fail
    refine ⟨trivial, ?_⟩
    refine (CallsIn.inRound y (callsIn_wide.2 (refused_any no x W))).mono ?_
    rintro e w2 ⟨rfl, rfl⟩
    by_cases ho : oddB x = true
    · rw [ho]
      have HO := Lib.hid ho
      clear ho
      gi_wp2
      refine ⟨KeepsOthers.refl _, ?_, ?_⟩
      · exact KpB.ofKept (S := NoB) (Kept.refl _ _) (fun h => h) (by have := HGK.out.2.2.2.size; omega) (fun _ _ _ _ h => h)
      · have hg : gone6 (pre ++ [(no, x)]) = gone6 pre := by rw [gone6_app, if_pos HO.out, List.append_nil]
        obtain ⟨k1, k2, k3⟩ := HGK.out
        exact ⟨k1, by rw [hg]; exact k2, k3⟩
    · have ho' : oddB x = false := by simpa using ho
      rw [ho']
      have HO := Lib.hid ho'
      have hgl2 : (gone6 pre).length ≤ 100000 := by omega
      have hne5 : ¬ (some (w.heap.size + 1) = (Value.slice a (gone6 pre).length c).ownBlock) := own_ne HROW.out H5.out (by decide)
      have hlt5 := heap_lt H5.out
      clear ho ho'
      gi_wp2_with (gi_at_builtin; refine wpListIn_append_own _ (by rfl) (.tmp 19) (.tmp 21) 45 (by rfl) w.heap.size 3 i0 _ 1 8 Try.underlying45 hi0 hz0 hz1 hz2 rfl (by decide) (.slice a (gone6 pre).length c) (gone6 pre).length _ (by rfl) (HROW.out.alloc _) ⟨w2.heap.size, 0, none⟩ 1 1 [.int .i64 no] (by rfl) (by rfl) (World.news_of_block (cs := #[_]) (t := 3) (fr := (0, 0)) (heap_alloc_new w2 _)) (by simp [Value.oneCell']) (by unfold maxLen; omega) (by omega) (by have := HGK.out.2.2.2.size; simp; omega) ?_; intro v' w1 hown hgrow _; obtain ⟨g', cap', rfl⟩ := ownsRow_succ hown; have HOWN := Lib.hid hown; have hk1 : Kept (fun k => some k = (Value.slice a (gone6 pre).length c).ownBlock) w2 w1 := ((Kept.refl _ _).alloc _).grown hgrow (fun k hk => .inl hk.symm); have y5 := hk1.cell (p := ⟨w.heap.size + 1, 0, none⟩) hne5 q5; have f5 : w1.frozen? ⟨w.heap.size + 1, 0, none⟩ = false := blk_frozen0 (hk1.heap hne5 H5.out) 0; have HK1 := Lib.hid hk1; clear hown hgrow hk1)
      have hstep := GkI.step (D := W6.heap.size) (x := (no, x)) HGK.out HO.out (by omega) H5.out HROW.out HOWN.out HK1.out
      exact ⟨hstep.2.1, hstep.2.2, hstep.1⟩
  case done =>
    rintro D ys W hDD rfl hgi hK
    obtain ⟨_, ⟨a5, c5, h5, hrow5⟩, hbg, hkk⟩ := hgi
    obtain ⟨a, c, c0, _, _, hfz, hown, hrow, hgl3, hgh⟩ := hbg.cells
    have hgn : GnAt W (w.heap.size + 1) (gone6 ys) := ⟨a5, c5, h5, row_mono hrow5 (Nat.zero_le _)⟩
    have hgl6 := gone6_len ys
    have hdf := DeleteFunc_any B c (w.heap.size + 1) a ys (gone6 ys) W hown hgn (gone6_inc HINC.out) hl (by omega)
    have hkl : (kept6 ys).length ≤ ys.length := List.length_filter_le _ _
    have f0 := hfz 0
    have hng : ¬ (some g = (Value.slice a ys.length c).ownBlock) := own_ne hown hgh (by decide)
    have hnD : g ≠ D := blk_nd hgh hK rfl
    have hrD : ∀ r, (Value.slice a ys.length c).ownBlock = some r → r ≠ D := by
      intro r hr
      rcases hown.2 with ⟨hv, _⟩ | ⟨r2, cap, cur, hv, _, hh2, _⟩
      · rw [hv] at hr; cases hr
      · rw [hv] at hr
        injection hr with hr
        subst hr
        exact blk_nd hh2 hK rfl
    have HDF := Lib.hid hdf
    have HK := Lib.hid hK
    have HKK := Lib.hid hkk
    have HGH := Lib.hid hgh
    have HROW := Lib.hid hrow
    have HBG := Lib.hid hbg.1
    have HST := Lib.hid (stays_gone HINC.out)
    clear hdf hK hkk hgh hrow hbg h5 hrow5 hown hfz hgn
    go_wp2_with fail
    refine HDF.out.mono ?_
    rintro e w2 ⟨rfl, hown2, hk2⟩
    rw [HST.out] at hown2 ⊢
    have hg2 := hk2.heap hng HGH.out
    have hD2 := hk2.heap (fun h => hrD D h.symm rfl) HK.out
    have q0 : w2.cell? ⟨g, 0, none⟩ = some (.slice a ys.length c) := cell_of_row _ _ 0 _ _ _ hg2
    have z0 : w2.frozen? ⟨g, 0, none⟩ = false := blk_frozen0 hg2 0
    have HG2 := Lib.hid hg2
    have HD2 := Lib.hid (blk_set_other hD2 0 (.slice a (kept6 ys).length c) hnD)
    have HO2 := Lib.hid hown2
    have HK2 := Lib.hid hk2
    have q1 : (w2.setCell ⟨g, 0, none⟩ (.slice a (kept6 ys).length c)).cell? ⟨g, 0, none⟩ = some (.slice a (kept6 ys).length c) := World.cell?_setCell_same' _ _ _ (by rw [q0]; rfl)
    clear hg2 hD2 hown2 hk2
    go_wp2
    refine ⟨by simp, .inl ⟨_, _, rfl, run_takeDeferred HD2.out, ?_⟩⟩
    refine ⟨_, results_tmp rfl _ _ _, ?_⟩
    have hrow' : (Value.slice a (kept6 ys).length c).ownBlock = row := by have := HROW.out; cases a <;> simpa [Value.ownBlock] using this
    have hb3 : Bg B (w2.setCell ⟨g, 0, none⟩ (.slice a (kept6 ys).length c)) g row most last (kept6 ys) := by
      refine ⟨HBG.out, a, c, hrow', blk_set HG2.out 0 _, row_kept HO2.out (Kept.one (Kept.refl (One g) w2) 0 _) (fun k hk h => ?_)⟩
      have h : k = g := h
      subst h
      rw [hrow'] at hk
      exact hng (by rw [HROW.out, hk])
    refine ⟨rfl, hb3.own (D := 0) (grownBy_putObj' _ D (.deferred none)) (fun r e => by cases e; exact ⟨Nat.zero_le _, _, HD2.out, rfl⟩), ?_⟩
    refine Kept.putObj ?_ (by omega) _
    exact ((HKK.out.mono (fun _ _ h => h.elim)).trans HK2.out (fun i _ h => .inr (by rw [← HROW.out]; exact h))).setCell (p := ⟨g, 0, none⟩) (.inl (.inl rfl)) _
end Go.Proofs.Yteinjmhogkneoaa
