/-
  The walk of CrcParts.
-/
import Derived.Test.YtnkkbajlmpccmaaCrcP
namespace Go.Proofs.Ytnkkbajlmpccmaa
open Go.RowKit

/-- What stands behind j parts: all of them behind one another, the parts, the table. -/
structure PtInv (w wr : World) (j : Nat) (al pt : Value) (xs : List Value) (L : Nat → List Int) : Prop where
  isb : IsB (catL L j)
  len : (catL L j).length ≤ 60 * j
  own : wr.ownsRow 0 5 1 al (catL L j).length ((catL L j).map (Value.int .u8))
  far : ∀ k, al.ownBlock = some k → w.heap.size < k
  pown : wr.ownsRow 0 25 1 pt j xs
  pfar : ∀ k, pt.ownBlock = some k → w.heap.size < k
  each : ∀ i y, xs[i]? = some y → BSl wr (fun k => k < w.heap.size) y (L i)
  tab : ∃ m, TabAt wr w.heap.size m
  kept : Kept (fun k => w.heap.size ≤ k) w wr

theorem PtInv.pat {w wr : World} {j : Nat} {al pt : Value} {xs : List Value} {L : Nat → List Int} (h : PtInv w wr j al pt xs L) (hj : j ≤ 1000000) : PAt wr (fun k => k ≠ w.heap.size) pt j L := by
  rcases h.pown.2 with ⟨h0, hn⟩ | ⟨r, cap, cur, rfl, hb, hr, h1, h2, h3, h4⟩
  · subst hn
    exact ⟨none, 0, h0, by omega, fun h => absurd h (by omega)⟩
  · refine ⟨_, cap, rfl, by omega, fun hp => ⟨r, 0, rfl, by have := h.pfar r rfl; omega, heap_lt hr, fun i hi => ?_⟩⟩
    have hl : xs.length = j := by have := h.pown.1; omega
    obtain ⟨y, hy⟩ : ∃ y, xs[i]? = some y := ⟨_, List.getElem?_eq_getElem (by omega)⟩
    exact ⟨y, row_cell h.pown hy, (h.each i y hy).mono (fun k _ hk => by omega)⟩

theorem PtInv.grow {w wr w3 : World} {j : Nat} {al pt : Value} {xs : List Value} {L : Nat → List Int} (h : PtInv w wr j al pt xs L) (hg : wr.grownBy w3 al.ownBlock) (o : Obj) :
    Kept (fun k => al.ownBlock = some k) wr w3 ∧ (w3.alloc o).ownsRow 0 25 1 pt j xs := by
  have K3 : Kept (fun k => al.ownBlock = some k) wr w3 := (Kept.refl _ _).grown hg (fun k hk => .inl hk)
  exact ⟨K3, row_kept (row_kept h.pown K3 (row_apart h.own h.pown (by decide))) ((Kept.refl NoB _).alloc o) (fun _ _ h => h)⟩
theorem PtInv.next {w wr w3 w5 : World} {o : Obj} {j : Nat} {al pt al' pt' bv : Value} {xs : List Value} {L : Nat → List Int} (h : PtInv w wr j al pt xs L) (hb : BSl wr (fun k => k < w.heap.size) bv (L j)) (hl : (L j).length ≤ 60)
    (hown3 : w3.ownsRow 0 5 1 al' ((catL L j).length + (L j).length) ((catL L j ++ L j).map (Value.int .u8))) (hg3 : wr.grownBy w3 al.ownBlock) (hat3 : al'.ownBlock = al.ownBlock ∨ al'.ownBlock = some wr.heap.size)
    (hown5 : w5.ownsRow 0 25 1 pt' (j + 1) (xs ++ [bv])) (hg5 : (w3.alloc o).grownBy w5 pt.ownBlock) (hat5 : pt'.ownBlock = pt.ownBlock ∨ pt'.ownBlock = some (w3.alloc o).heap.size) :
    PtInv w w5 (j + 1) al' pt' (xs ++ [bv]) L ∧ BSl w5 (fun k => k < w.heap.size) bv (L j) := by
  obtain ⟨K3, P4⟩ := h.grow hg3 o
  have K5 : Kept (fun k => pt.ownBlock = some k) (w3.alloc o) w5 := (Kept.refl _ _).grown hg5 (fun k hk => .inl hk)
  have A4 := row_kept hown3 ((Kept.refl NoB _).alloc o) (fun _ _ h => h)
  have KK : Kept (fun k => w.heap.size < k) wr w5 := ((K3.mono (fun k _ hk => h.far k hk)).alloc o).trans K5 (fun k _ hk => h.pfar k hk)
  have hs : w.heap.size < wr.heap.size := by obtain ⟨m, ht⟩ := h.tab; exact ht.lt
  have hs3 := K3.size
  have hs4 : (w3.alloc o).heap.size = w3.heap.size + 1 := by simp
  have hx : xs.length = j := by have := h.pown.1; omega
  have hB := hb.kept KK (fun k hk h2 => by omega)
  refine ⟨⟨h.isb.append hb.isB, by have := h.len; rw [catL, List.length_append]; omega, ?_, fun k hk => ?_, hown5, fun k hk => ?_, fun i y hy => ?_, ?_, h.kept.trans KK (fun i _ hk => Nat.le_of_lt hk)⟩, hB⟩
  · rw [catL, List.length_append]
    exact row_kept A4 K5 (row_apart P4 A4 (by decide))
  · rcases hat3 with e | e
    · rw [e] at hk; exact h.far k hk
    · rw [e] at hk; injection hk with hk; omega
  · rcases hat5 with e | e
    · rw [e] at hk; exact h.pfar k hk
    · rw [e] at hk; injection hk with hk; omega
  · rcases Nat.lt_or_ge i xs.length with hi | hi
    · rw [List.getElem?_append_left hi] at hy
      exact (h.each i y hy).kept KK (fun k hk h2 => by omega)
    · rw [List.getElem?_append_right hi] at hy
      have : i = xs.length := by
        rcases Nat.lt_or_ge (i - xs.length) 1 with h1 | h1
        · omega
        · rw [List.getElem?_eq_none (by simpa using h1)] at hy; cases hy
      subst this
      simp at hy
      subst hy
      rw [hx]
      exact hB
  · obtain ⟨m, ht⟩ := h.tab
    exact ⟨m, ht.kept KK (by omega)⟩
theorem PtInv.after {w wr w' : World} {j : Nat} {al pt : Value} {xs : List Value} {L : Nat → List Int} (h : PtInv w wr j al pt xs L) (hk : Kept (One w.heap.size) wr w') (ht : TabAt w' w.heap.size true) : PtInv w w' j al pt xs L :=
  ⟨h.isb, h.len, row_kept h.own hk (fun k h1 h2 => by have := h.far k h1; have e : k = w.heap.size := h2; omega), h.far, row_kept h.pown hk (fun k h1 h2 => by have := h.pfar k h1; have e : k = w.heap.size := h2; omega), h.pfar,
    fun i y hy => (h.each i y hy).kept hk (fun k h1 h2 => by have e : k = w.heap.size := h2; omega), ⟨true, ht⟩, h.kept.trans hk (fun i _ h2 => by have e : i = w.heap.size := h2; omega)⟩

set_option maxRecDepth 100000 in
theorem CrcParts_any (v : Value) (n : Nat) (L0 : Nat → List Int) (w : World) (h : PAt w (fun k => k < w.heap.size) v n L0) :
    Calls Try.prog 9 #[v] w fun e w' => e = .returned (.bool true) ∧ Kept NoB w w' := by
  obtain ⟨i0, hi0, hz0, hz1, hz2⟩ := info_parts Try.info5
  obtain ⟨i1, hi1, hy0, hy1, hy2⟩ := info_parts (show (Try.prog.info? 25).map (fun i => (i.zero, i.size, i.bytes)) = some (some (.slice none 0 0), 1, 24) from by kernel_rfl)
  have HP := Lib.hid h
  obtain ⟨a, cap, rfl, hn, _⟩ := h
  have hn2 : (n : Int) ≤ 9223372036854775807 := by omega
  obtain ⟨L, hL⟩ : ∃ L : Nat → List Int, L = fun j => (L0 j).take 60 := ⟨_, rfl⟩
  have HLL := Lib.hid hL
  clear hL
  go_enter Try.func9, Try.ntmps9
  go_wp2_with fail
  refine (CNew_any _).mono ?_
  rintro e w1 ⟨rfl, ht1, hk1⟩
  have HT1 := Lib.hid ht1
  have HK1 := Lib.hid hk1
  have hlt1 := ht1.lt
  clear ht1 hk1
  go_wp2_with fail
  go_loopw [4, 5, 6, 7] (fun al pt sm i wr => ∃ (j : Nat) (xs : List Value), j ≤ n ∧ j ≤ 10 ∧ i = .int .i64 j ∧ sm = .int .u32 (more 0 (catL L j)) ∧ PtInv w wr j al pt xs L) (fun _ _ _ i _ => 10 - (intOf i).toNat)
  case atStart =>
    exact ⟨0, [], Nat.zero_le _, Nat.zero_le _, rfl, by rw [catL, more_nil]; rfl, IsB.nil, Nat.le_refl _, World.ownsRow_nil _ _ _ _, fun k hk => by simp [Value.ownBlock] at hk, World.ownsRow_nil _ _ _ _, fun k hk => by simp [Value.ownBlock] at hk, fun i y hy => by simp at hy, ⟨_, HT1.out⟩, HK1.out.mono (fun _ _ h => h.elim)⟩
  case round =>
    obtain ⟨j, xs, hj, hj10, rfl, rfl, hI⟩ := hrel
    have HI := Lib.hid hI
    obtain ⟨s, hs⟩ : ∃ s, s = more 0 (catL L j) := ⟨_, rfl⟩
    rw [← hs]
    have HS := Lib.hid hs
    have hslt : s < 4294967296 := by rw [hs]; exact more_lt _ _ (by decide) hI.isb
    have HSL := Lib.hid hslt
    clear hs hslt hI
    have HO := Lib.hid HI.out.own
    have HPO := Lib.hid HI.out.pown
    obtain ⟨aa, ac, rfl⟩ := own_form HO.out
    obtain ⟨pa, pc, rfl⟩ := own_form HPO.out
    by_cases hlt : j < n ∧ j < 10
    · obtain ⟨hjn, hj9⟩ := hlt
      have hj0 : (0 : Int) ≤ (j : Int) := by omega
      have hj1 : (j : Int) < (n : Int) := by omega
      have hj2 : (j : Int) < 10 := by omega
      obtain ⟨a', cap', e1, _, hc⟩ := HP.out
      simp only [Value.slice.injEq] at e1
      obtain ⟨rfl, _, rfl⟩ := e1
      obtain ⟨b, o, rfl, hb, _, hcs⟩ := hc (by omega)
      obtain ⟨x, hx, hbx⟩ := hcs j hjn
      have hx1 := HI.out.kept.cell (p := ⟨b, o + j, none⟩) (fun h2 => by have : w.heap.size ≤ b := h2; omega) hx
      have HBX := Lib.hid (hbx.kept HI.out.kept (fun k h1 h2 => by omega))
      obtain ⟨xa, xc, rfl, _⟩ := hbx
      clear hcs hc hx
      go_wp2_with fail
      refine (Cut_any _ (L0 j) 60 _ _ HBX.out (by omega)).mono ?_
      rintro e w2 ⟨bv, rfl, hbv, rfl⟩
      rw [show (L0 j).take 60 = L j by rw [HLL.out]] at hbv
      have hl60 : (L j).length ≤ 60 := by rw [HLL.out]; simp only [List.length_take]; omega
      have HL60 := Lib.hid hl60
      have HBV := Lib.hid hbv
      obtain ⟨ba, bc, rfl, _⟩ := hbv
      clear HBX hl60
      go_wp2_with (at_builtin; first | (refine wpList_append_bsl _ rfl (.tmp 25) (.tmp 26) _ rfl 5 i0 _ Try.underlying25 hi0 hz0 hz1 hz2 rfl (.slice aa (catL L j).length ac) (catL L j).length (catL L j) rfl HO.out _ _ (L j) rfl HBV.out (by have := HI.out.len; have := HL60.out; omega) ?_; intro a3 c3 w3 hown3 hg3 hat3) | (refine wpList_append_one _ rfl (.tmp 28) (.tmp 30) _ rfl 25 i1 _ Try.underlying74 hi1 hy0 hy1 (by omega) rfl (.slice pa j pc) j xs rfl (HI.out.grow hg3 _).2 (.slice ba (L j).length bc) ⟨w3.heap.size, 0, none⟩ 1 rfl (cell_of_row _ _ 0 _ _ _ (heap_alloc_new w3 _)) rfl (by omega) ?_; intro a5 c5 w5 hown5 hg5 hat5))
      obtain ⟨hN, hB5⟩ := HI.out.next HBV.out HL60.out hown3 hg3 hat3 hown5 hg5 hat5
      have HN := Lib.hid hN
      have HB5 := Lib.hid hB5
      obtain ⟨m, htm⟩ := hN.tab
      have HTM := Lib.hid htm
      clear hN hB5 htm hown3 hg3 hat3 hown5 hg5 hat5
      refine (CMore_any w.heap.size m s _ (L j) (fun k => k < w.heap.size) _ HTM.out HSL.out HB5.out (by omega)).mono ?_
      rintro e w6 ⟨rfl, ht6, hk6⟩
      have hnew : more s (L j) = more 0 (catL L (j + 1)) := by rw [HS.out, catL, more_append]
      rw [hnew]
      have HN6 := Lib.hid (HN.out.after hk6 ht6)
      clear hnew ht6 hk6
      generalize hq : more 0 (catL L (j + 1)) = q at *
      go_wp2
      exact ⟨⟨j + 1, _, by omega, by omega, by go_num, by rw [hq], HN6.out⟩, by simp [intOf]; omega⟩
    · have hcase : (¬ j < n) ∨ (j < n ∧ 10 ≤ j) := by omega
      obtain ⟨m, htm⟩ := HI.out.tab
      have HTM := Lib.hid htm
      clear hlt htm
      rcases hcase with hj1 | ⟨hj1, hj2⟩
      all_goals
        go_wp2_with fail
        refine (COf_any w.heap.size m _ j L (fun k => k ≠ w.heap.size) _ HTM.out (HI.out.pat (by omega)) (fun h => h rfl)).mono ?_
        rintro e w2 ⟨rfl, ht2, hk2⟩
        rw [← HS.out]
        have HI2 := Lib.hid (HI.out.after hk2 ht2)
        have HA2 := Lib.hid (BSl.ofOwn (F := fun k => w.heap.size < k) HI2.out.own HI2.out.isb HI2.out.far)
        clear ht2 hk2
        go_wp2_with fail
        refine (ROf_any _ (catL L j) _ _ HA2.out).mono ?_
        rintro e w3 ⟨rfl, rfl⟩
        rw [← HS.out]
        go_wp2_with fail
        refine (ROf_any _ (catL L j) _ _ HA2.out).mono ?_
        rintro e w3 ⟨rfl, rfl⟩
        rw [← HS.out]
        go_wp2_with fail
        refine (awake2_any _).mono ?_
        rintro e w6 ⟨rfl, hk6⟩
        go_wp2
        go_ret
        exact ⟨rfl, (HI2.out.kept.trans hk6 (fun _ _ h => h.elim)).mono (fun i hi h => by have h2 : w.heap.size ≤ i := h; omega)⟩
end Go.Proofs.Ytnkkbajlmpccmaa
