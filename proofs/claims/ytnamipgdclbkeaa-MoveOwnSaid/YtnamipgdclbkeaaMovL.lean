/-
  spoil; a clone of the call's own; the walk of MoveOwn.
-/
import Derived.Test.YtnamipgdclbkeaaMovJ
namespace Go.Proofs.Ytnamipgdclbkeaa
open Go.RowKit Go.Shelf
set_option linter.unusedVariables false
set_option linter.unusedSimpArgs false

def Nums21 (w : World) (b n : Nat) : Prop := ∃ cs, w.heap[b]? = some (.cells cs 5 (0, 0)) ∧ ∀ j, j < n → ∃ x, cs[j]? = some (Value.int .u8 x)
theorem Nums21.set {w : World} {b n : Nat} (h : Nums21 w b n) (i : Nat) (y : Int) : Nums21 (w.setCell ⟨b, i, none⟩ (.int .u8 y)) b n := by
  obtain ⟨cs, h1, h2⟩ := h
  refine ⟨_, blkM_set h1 i _, fun j hj => ?_⟩
  obtain ⟨x, hx⟩ := h2 j hj
  by_cases e : i = j
  · subst e
    have hlt : i < cs.size := by
      rcases Nat.lt_or_ge i cs.size with h | h
      · exact h
      · rw [Array.getElem?_eq_none h] at hx; cases hx
    exact ⟨y, by simp [hlt]⟩
  · exact ⟨x, by rw [Array.getElem?_setIfInBounds_ne e]; exact hx⟩
theorem Own.nums21 {w : World} {F : Nat → Prop} {a : Option Addr} {c : Nat} {l : List Int} (h : Own w F (.slice a l.length c) l) (hp : 0 < l.length) : ∃ b, a = some ⟨b, 0, none⟩ ∧ F b ∧ Nums21 w b l.length := by
  rcases h.2.1.2 with ⟨hv, h0⟩ | ⟨r, cap, cur, hv, hb, hr, hc, hm, hs, ht⟩
  · omega
  · injection hv with hv _ _
    subst hv
    refine ⟨r, rfl, h.2.2 r rfl, cur, hr, fun j hj => ?_⟩
    have hj' := congrArg (fun z => z[j]?) ht
    simp only [List.getElem?_take, List.getElem?_map] at hj'
    rw [if_pos (by omega), Array.getElem?_toList, List.getElem?_eq_getElem hj] at hj'
    exact ⟨_, hj'⟩
def SpRel21 (w : World) (F : Nat → Prop) (b n : Nat) (iv : Value) (wr : World) : Prop := ∃ i : Nat, iv = .int .i64 i ∧ i ≤ n ∧ (0 < n → Nums21 wr b n) ∧ Kept F w wr
theorem spoil21 (w : World) (F : Nat → Prop) (v : Value) (l : List Int) (h : Own w F v l) (hl : l.length ≤ 1000000) : Calls Try.prog 21 #[v] w fun e w' => e = .returned (.tuple #[]) ∧ Kept F w w' := by
  obtain ⟨a, c, rfl⟩ := own_form h.2.1
  obtain ⟨b, hb⟩ : ∃ b, 0 < l.length → a = some ⟨b, 0, none⟩ ∧ F b ∧ Nums21 w b l.length := by
    by_cases hp : 0 < l.length
    · obtain ⟨b, hb⟩ := h.nums21 hp
      exact ⟨b, fun _ => hb⟩
    · exact ⟨0, fun h => absurd h hp⟩
  have HB := Lib.hid hb
  have H0 : Hid (SpRel21 w F b l.length (.int .i64 0) w) := Lib.hid ⟨0, rfl, Nat.zero_le _, fun hp => (hb hp).2.2, Kept.refl _ _⟩
  have hlm : (l.length : Int) ≤ 1000000 := by omega
  clear h hb
  go_enter Try.func21, Try.ntmps21
  go_wp2
  go_loopw [2] (SpRel21 w F b l.length) (fun i _ => l.length - (RowKit.intOf i).toNat)
  case atStart => exact H0.out
  case round =>
    obtain ⟨i, rfl, hi, hnum, hk⟩ := hrel
    have hi0 : (0 : Int) ≤ (i : Int) := by omega
    have HNU := Lib.hid hnum
    have HK := Lib.hid hk
    clear hnum hk
    by_cases hlt : i < l.length
    · have hi1 : (i : Int) < (l.length : Int) := by omega
      obtain ⟨rfl, hF, _⟩ := HB.out (by omega)
      have hN := HNU.out (by omega)
      have HN := Lib.hid hN
      obtain ⟨cs, hr, hx⟩ := hN
      obtain ⟨x, hx⟩ := hx i hlt
      have hcell : wr.cell? ⟨b, i, none⟩ = some (.int .u8 x) := by rw [cell_of_row _ _ i _ _ _ hr]; exact hx
      have hfz := blkM_frozen hr i
      have HF := Lib.hid hF
      clear hr hx hF
      go_wp2
      exact ⟨⟨i + 1, by go_num, by omega, fun _ => HN.out.set i _, HK.out.setCell (p := ⟨b, i, none⟩) (.inl HF.out) _⟩, by simp [RowKit.intOf]; omega⟩
    · go_wp2
      go_end0
      exact ⟨rfl, HK.out⟩
set_option maxRecDepth 100000 in
/-- bytes.Clone: what it gives is the call's own. -/
theorem CloneO_any (v : Value) (l : List Int) (F : Nat → Prop) (w : World) (h : BSl w F v l) (hl : l.length ≤ 1000000) :
    Calls Try.prog 23 #[v] w fun e w' => ∃ v', e = .returned v' ∧ Own w' (fun k => w.heap.size ≤ k) v' l ∧ Kept NoB w w' := by
  obtain ⟨i0, hi0, hz0, hz1, hz2⟩ := info_parts Try.info5
  have HB := Lib.hid h
  obtain ⟨a, cap, rfl, hc, hm, hn, hr⟩ := h
  have hq := fun (w : World) => Lib.run_eql_slice_nil (P := Try.prog) w 23 5 a l.length cap 0 0 Try.underlying23
  rcases a with _ | ad
  · have h0 := hn rfl
    subst h0
    have hl : l = [] := List.eq_nil_of_length_eq_zero (by omega)
    subst hl
    simp only [Option.isNone, List.length_nil] at hq
    go_enter Try.func23, Try.ntmps23
    go_wp2
    go_ret
    exact ⟨_, rfl, Own.nil _ _, Kept.refl _ _⟩
  · simp only [Option.isNone] at hq
    clear hr hn
    go_enter Try.func23, Try.ntmps23
    go_wp2_with (at_builtin; refine wpList_append_bsl _ rfl (.tmp 5) (.tmp 6) _ rfl 5 i0 _ Try.underlying23 hi0 hz0 hz1 hz2 rfl (.slice (some ⟨w.heap.size, 0, none⟩) 0 0) 0 [] rfl (World.ownsRow_made w #[] 0 (Nat.zero_le _) (by decide) rfl) F _ l rfl (HB.out.kept ((Kept.refl NoB _).alloc _) (fun _ _ h => h)) (by omega) ?_; intro a' c' w1 hown1 hg1 hat1)
    go_ret
    have hk1 : Kept NoB w w1 := ((Kept.refl _ _).alloc _).grown hg1 (fun k hk => .inr (by simp [Value.ownBlock] at hk; omega))
    simp only [Nat.zero_add, List.nil_append] at hown1 hat1
    refine ⟨.slice a' l.length c', rfl, ⟨HB.out.isB, hown1, fun k hk => ?_⟩, hk1⟩
    rcases hat1 with e | e <;> rw [e] at hk <;> simp [Value.ownBlock] at hk <;> omega
theorem prt_all (l : List Int) (h : l.length ≤ 1000) : prt l 0 = l := by unfold prt; rw [Nat.mul_zero, List.drop_zero, List.take_of_length_le (by omega)]
set_option maxRecDepth 100000 in
/-- The first part of a short picture: it is the call's own. -/
theorem PartO_any (g n : Nat) (l : List Int) (F : Nat → Prop) (w : World) (h : OtAt w F g n l) (hl : l.length ≤ 1000) : Calls Try.prog 9 #[.pointer (some ⟨g, 0, none⟩), .int .i64 0] w fun e w' =>
    ∃ v, e = .returned (.tuple #[v, .bool true]) ∧ Own w' (fun k => w.heap.size ≤ k) v l ∧ Kept NoB w w' := by
  have HP := Lib.hid (Parts_any g n l F w h)
  obtain ⟨N, hN⟩ : ∃ N, N = npr l.length := ⟨_, rfl⟩
  have hN1 : 0 < N := by rw [hN]; unfold npr; omega
  obtain ⟨hF, a, c, vs, h2, hown, _, hv⟩ := h
  rw [← hN] at HP h2 hown hv
  have hd2 : decide ((N : Int) ≤ 0) = false := decide_eq_false (by omega)
  obtain ⟨v, hvk, hb⟩ := hv 0 hN1
  rw [prt_all l hl] at hb
  have q1 : w.cell? ⟨g, 1, none⟩ = some (.slice a N c) := cell_of_row _ _ 1 _ _ _ h2
  obtain ⟨r, cap, he, _, _⟩ := hown.form (by omega)
  injection he with he1 he2 he3
  subst he1 he3
  have q2 := hown.cells (g := r) rfl 0 v hvk
  rw [addr_add21] at q2
  have HC := Lib.hid (CloneO_any v l F w hb (by omega))
  clear h2 hown hv hb hvk hN
  go_enter Try.func9, Try.ntmps9
  go_wp2_with (first
    | (go_at_call 11; refine HP.out.mono ?_; rintro e w2 ⟨rfl, rfl⟩)
    | (go_at_call 23; refine HC.out.mono ?_; rintro e w2 ⟨v', rfl, hv', hk'⟩; have HV := Lib.hid hv'; have HK := Lib.hid hk'; clear hv' hk'))
  go_ret2
  exact ⟨_, rfl, HV.out, HK.out⟩

theorem take_o1 (l : List Int) (h : l.length ≤ 1000) : takeM ⟨0, 0, []⟩ 3 0 2 l = (⟨3, 2, [l]⟩, [], false) := by simp [takeM, badM, aimM]; omega
theorem take_o2 (l : List Int) : takeM ⟨3, 2, [l]⟩ 3 1 2 [] = (⟨3, 0, []⟩, l, true) := by simp [takeM, badM, aimM]
theorem one_len (l : List Int) : (⟨3, 2, [l]⟩ : Rm).L.length ≤ 100000 := by show 1 ≤ _; omega
theorem one_flat {l : List Int} (h : l.length ≤ 1000) : (⟨3, 2, [l]⟩ : Rm).L.flatten.length ≤ 100000000 := by show ([l] : List (List Int)).flatten.length ≤ _; simp; omega
theorem inM_kept {S : Nat → Prop} {w w' : World} {g : Nat} {a : Option Addr} {c : Nat} {pp : Int} {r : Rm} (h : InM w g a c pp r) (hk : Kept S w w') (hs : ∀ k, FtI g a r.L.flatten.length c k → ¬ S k) : InM w' g a c pp r :=
  ⟨hk.heap (hs g (.inl rfl)) h.1, h.2.1, own_keptM h.2.2.1 hk (fun k hk' => hs k (.inr hk')), h.2.2.2⟩
set_option maxRecDepth 100000 in
set_option maxHeartbeats 1000000 in
theorem MoveOwn_any (v : Value) (l : List Int) (F : Nat → Prop) (w : World) (h : BSl w F v l) (hF : ∀ k, F k → k < w.heap.size) (hlm : l.length ≤ 9223372036854775807) : Calls Try.prog 5 #[v] w fun e w' => e = .returned (.bool true) ∧ Kept NoB w w' := by
  obtain ⟨i0, hi0, hz0, hz1, hz2⟩ := info_parts Try.info5
  obtain ⟨va, vc, rfl, _⟩ := id h
  have HB := Lib.hid h
  clear h
  by_cases hl : (1000 : Int) < l.length
  · have d1 : decide ((1000 : Int) < l.length) = true := decide_eq_true hl
    go_enter Try.func5, Try.ntmps5
    go_wp2_with (go_at_call 7; refine (awake21_any _).mono ?_; rintro e w4 ⟨rfl, hk4⟩; have HK4 := Lib.hid hk4; clear hk4)
    go_ret
    exact ⟨rfl, HK4.out⟩
  · have d1 : decide ((1000 : Int) < l.length) = false := decide_eq_false hl
    have hl1 : l.length ≤ 1000 := by omega
    go_enter Try.func5, Try.ntmps5
    go_upto_region 5 with (first
      | (at_builtin; refine wpList_append_bsl _ rfl (.const (.slice none 0 0)) (.tmp 25) _ rfl 5 i0 _ Try.underlying23 hi0 hz0 hz1 hz2 rfl (.slice none 0 0) 0 [] rfl (World.ownsRow_nil _ _ _ _) F _ l rfl HB.out (by omega) ?_; intro a1 c1 w1 hown1 hg1 hat1; simp only [Nat.zero_add, List.nil_append] at hown1 hat1 ⊢; have HO1 : Hid (Own w1 (fun k => w.heap.size ≤ k ∧ k < w1.heap.size) (.slice a1 l.length c1) l) := Lib.hid ⟨HB.out.isB, hown1, fun k hk => ⟨by rcases hat1 with e | e <;> rw [e] at hk <;> simp [Value.ownBlock] at hk <;> omega, (hown1.lt k hk).2⟩⟩; have HK1 : Hid (Kept NoB w w1) := Lib.hid ((Kept.refl _ _).grown hg1 (fun k hk => by simp [Value.ownBlock] at hk)); clear hown1 hg1 hat1)
      | (go_at_call 8; refine (NewM_any 3 _ l _ w1 HO1.out.bsl (by omega)).mono ?_; rintro e w2 ⟨g, rfl, hO2, hk2⟩; have HG2 := Lib.hid hO2; have HO2 := Lib.hid (HO1.out.kept hk2 (fun _ _ h => h)); have HK2 := Lib.hid (HK1.out.trans hk2 (fun _ _ h => h)); have hs2 := hk2.size; clear hO2 hk2 HO1))
    go_upto_region 6 with (go_at_call 21; refine (spoil21 w2 _ _ l HO2.out (by omega)).mono ?_; rintro e w3 ⟨rfl, hk3⟩; have HG3 := Lib.hid (HG2.out.kept hk3 (fun k h1 h2 => by omega)); have HK3 := Lib.hid (HK2.out.trans hk3 (fun i hi h => by omega)); have hs3 := hk3.size; clear hk3 HG2 HO2)
    go_upto_region 7 with (go_at_call 9; refine (PartO_any g 3 l _ w3 HG3.out hl1).mono ?_; rintro e w4 ⟨pv, rfl, hp4, hk4⟩; have HP4 := Lib.hid hp4; have HG4 := Lib.hid (HG3.out.no hk4); have HK4 := Lib.hid (HK3.out.trans hk4 (fun _ _ h => h)); have hs4 := hk4.size; clear hp4 hk4 HG3)
    have hs1 := HK1.out.size
    go_upto_region 8 with (go_at_call 21; refine (spoil21 w4 _ _ l HP4.out (by omega)).mono ?_; rintro e w5 ⟨rfl, hk5⟩; have HG5 := Lib.hid (HG4.out.kept hk5 (fun k h1 h2 => by have := h1.2; omega)); have HK5 := Lib.hid (HK4.out.trans hk5 (fun i hi h => by omega)); have hs5 := hk5.size; clear hk5 HG4 HP4)
    go_upto_region 9 with (go_at_call 9; refine (PartO_any g 3 l _ w5 HG5.out hl1).mono ?_; rintro e w6 ⟨qv, rfl, hp6, hk6⟩; have HQ6 := Lib.hid (hp6.bsl.mono (G := fun k => w5.heap.size ≤ k ∧ k < w6.heap.size) (fun k h1 h2 => ⟨h2, h1⟩)); have HK6 := Lib.hid (HK5.out.trans hk6 (fun _ _ h => h)); have hs6 := hk6.size; clear hp6 hk6 HG5)
    go_upto_region 10 with (go_at_call 15; refine (Begin_any w6).mono ?_; rintro e w7 ⟨rfl, hI7, hw7⟩; have hk7 : Kept NoB w6 w7 := (by rw [hw7]; exact (Kept.refl _ _).alloc _); have HI7 := Lib.hid hI7; have HQ7 := Lib.hid (HQ6.out.kept hk7 (fun _ _ h => h)); have HK7 := Lib.hid (HK6.out.trans hk7 (fun _ _ h => h)); have hs7 : w6.heap.size < w7.heap.size := (by rw [hw7]; simp); clear hI7 hw7 hk7 HQ6)
    obtain ⟨x, hx⟩ : ∃ x, x = w6.heap.size := ⟨_, rfl⟩
    rw [← hx] at HI7 hs7 ⊢
    have hxw : w.heap.size ≤ x := by omega
    have HQ7' := Lib.hid (HQ7.out.mono (G := fun k => k < x) (fun k _ h => by omega))
    have HX := Lib.hid hx
    clear HQ7 hx hs1 hs2 hs3 hs4 hs5 hs6 HK1 HK2 HK3 HK4 HK5 HK6
    go_upto_region 11 with (at_builtin; refine wpList_append_bsl _ rfl (.const (.slice none 0 0)) (.tmp 44) _ rfl 5 i0 _ Try.underlying23 hi0 hz0 hz1 hz2 rfl (.slice none 0 0) 0 [] rfl (World.ownsRow_nil _ _ _ _) F _ l rfl (HB.out.kept HK7.out (fun _ _ h => h)) (by omega) ?_; intro a8 c8 w8 hown1 hg1 hat1; simp only [Nat.zero_add, List.nil_append] at hown1 hat1 ⊢; have HO8 : Hid (Own w8 (fun k => w7.heap.size ≤ k ∧ k < w8.heap.size) (.slice a8 l.length c8) l) := Lib.hid ⟨HB.out.isB, hown1, fun k hk => ⟨by rcases hat1 with e | e <;> rw [e] at hk <;> simp [Value.ownBlock] at hk <;> omega, (hown1.lt k hk).2⟩⟩; have hk8 : Kept NoB w7 w8 := (Kept.refl _ _).grown hg1 (fun k hk => by simp [Value.ownBlock] at hk); have HI8 := Lib.hid (inM_kept HI7.out hk8 (fun _ _ h => h)); have HQ8 := Lib.hid (HQ7'.out.kept hk8 (fun _ _ h => h)); have HK8 := Lib.hid (HK7.out.trans hk8 (fun _ _ h => h)); have hs8 := hk8.size; clear hown1 hg1 hat1 hk8 HQ7' HI7)
    go_upto_region 12 with (go_at_call 16; refine (Take_fix w x none 0 0 ⟨0, 0, []⟩ 3 0 2 _ l _ w8 (take_o1 l hl1) HI8.out HO8.out.bsl (fun k h e => Or.elim e (fun e => by omega) (fun e => by simp [Value.ownBlock] at e)) (by decide) (by decide) (by decide) (by omega) HK8.out hxw (fun k e => by simp [Value.ownBlock] at e)).mono ?_; rintro e w9 ⟨a9, c9, u9, pp9, rfl, _, hI9, ho9, hk09, hr9, hk9⟩; have HI9 := Lib.hid hI9; have HK9 := Lib.hid hk09; have HR9 := Lib.hid hr9; have HQ9 := Lib.hid (HQ8.out.kept hk9 (fun k h e => Or.elim e (fun e => by omega) (fun e => by simp [Value.ownBlock] at e))); have HO9 := Lib.hid (HO8.out.kept hk9 (fun k h e => Or.elim e (fun e => by omega) (fun e => by simp [Value.ownBlock] at e))); have HW9 : Hid (∀ k, FtI x a9 ([l] : List (List Int)).flatten.length c9 k → ¬ (w7.heap.size ≤ k ∧ k < w8.heap.size)) := Lib.hid (fun k e h => Or.elim e (fun e => by omega) (fun e => Or.elim (ho9 k e) (fun e => by simp [Value.ownBlock] at e) (fun e => by omega))); have HX9 : Hid (RowGe x a9 ([l] : List (List Int)).flatten.length c9) := Lib.hid (fun k e => Or.elim (ho9 k e) (fun e => by simp [Value.ownBlock] at e) (fun e => by omega)); clear hI9 ho9 hk09 hr9 hk9 HQ8 HO8 HI8)
    go_upto_region 13 with (go_at_call 21; refine (spoil21 w9 _ _ l HO9.out (by omega)).mono ?_; rintro e w10 ⟨rfl, hk10⟩; have HI10 := Lib.hid (inM_kept HI9.out hk10 HW9.out); have HQ10 := Lib.hid (HQ9.out.kept hk10 (fun k h1 h2 => by omega)); have HK10 := Lib.hid (HK9.out.trans hk10 (fun i hi h => by omega)); clear hk10 HI9 HQ9 HO9)
    go_upto_region 14 with (go_at_call 16; go_loud (refine (Take_fix w x a9 c9 pp9 ⟨3, 2, [l]⟩ 3 1 2 _ [] (fun _ => False) w10 (take_o2 l) HI10.out (BSl.nil _ _) (fun k h => h.elim) (by decide) (one_len l) (one_flat hl1) (by decide) HK10.out hxw HR9.out).mono ?_; rintro e w11 ⟨a11, c11, u11, pp11, rfl, hu11, _, _, hk011, _, hk11⟩; have HU11 := Lib.hid hu11; have HK11 := Lib.hid hk011; have HQ11 := Lib.hid (HQ10.out.kept hk11 (fun k h e => Or.elim e (fun e => by omega) (fun e => by have := HX9.out k e; omega))); clear hu11 hk011 hk11 HQ10 HI10))
    obtain ⟨qa, qc, hqe⟩ : ∃ a c, qv = .slice a l.length c := by obtain ⟨a, c, h, _⟩ := HQ11.out; exact ⟨a, c, h⟩
    obtain ⟨ya, yc, hye⟩ : ∃ a c, u11 = .slice a l.length c := by obtain ⟨a, c, h, _⟩ := HU11.out; exact ⟨a, c, h⟩
    subst hqe hye
    have HKq := Lib.hid (Kept.refl NoB w11)
    have HS1 := Lib.hid (fun wq (hkq : Kept NoB w11 wq) => Same_yes _ _ l _ _ wq (HQ11.out.kept hkq (fun _ _ h => h)) (HB.out.kept (HK11.out.trans hkq (fun _ _ h => h)) (fun _ _ h => h)))
    have HS2 := Lib.hid (fun wq (hkq : Kept NoB w11 wq) => Same_yes _ _ l _ _ wq (HU11.out.kept hkq (fun _ _ h => h)) (HB.out.kept (HK11.out.trans hkq (fun _ _ h => h)) (fun _ _ h => h)))
    go_wp2_with (first
      | (go_at_call 9; refine (PartN_any 0 _).mono ?_; rintro e w12 ⟨rfl, rfl⟩)
      | (go_at_call 18; refine (WantsN_any _).mono ?_; rintro e w12 ⟨rfl, rfl⟩)
      | (go_at_call 16; refine (TakeN_any 1 0 1 _ _).mono ?_; rintro e w12 ⟨rfl, rfl⟩)
      | (go_at_call 12; refine (AtN_any _).mono ?_; rintro e w12 ⟨rfl, rfl⟩)
      | (go_at_call 11; refine (PartsN_any _).mono ?_; rintro e w12 ⟨rfl, rfl⟩)
      | (go_at_call 19; refine (HeldN_any _).mono ?_; rintro e w12 ⟨rfl, rfl⟩)
      | (go_at_call 14; (first | (with_reducible refine (HS1.out _ HKq.out).mono ?_) | (with_reducible refine (HS2.out _ HKq.out).mono ?_)); rintro e w9 ⟨rfl, hk9⟩; replace HKq := Lib.hid (HKq.out.trans hk9 (fun _ _ h => h)); clear hk9)
      | (go_at_call 7; refine (awake21_any _).mono ?_; rintro e w9 ⟨rfl, hk9⟩; replace HKq := Lib.hid (HKq.out.trans hk9 (fun _ _ h => h)); clear hk9))
    go_ret
    exact ⟨rfl, HK11.out.trans HKq.out (fun _ _ h => h)⟩
end Go.Proofs.Ytnamipgdclbkeaa
