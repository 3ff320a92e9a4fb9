/-
  awake; the walk of MoveBig.
-/
import Derived.Test.YtnamipgdclbkeaaMovG
import Derived.Deep.RegionLaw
import Derived.Laws.BytesArg
import Derived.Laws.BytesString
import Derived.Lib.SlBytesConst
namespace Go.Proofs.Ytnamipgdclbkeaa
open Go.RowKit Go.Shelf
set_option linter.unusedVariables false
set_option linter.unusedSimpArgs false

def zer (n : Nat) : List Int := List.replicate n 0
theorem zer_len (n : Nat) : (zer n).length = n := by simp [zer]
theorem zer_isB (n : Nat) : IsB (zer n) := fun x hx => by have := List.eq_of_mem_replicate hx; omega
theorem made_u8 (n : Nat) : (madeCells (Value.int .u8 0).cells (n * 1)).toList = (zer n).map (Value.int .u8) := by
  apply List.ext_getElem
  · simp [zer, madeCells]
  · intro i h1 h2
    simp [zer, madeCells, Value.cells, Nat.mod_one]
theorem zer_own {w : World} {B n : Nat} {v : Value} (h : w.ownsRow B 5 1 v n (madeCells (Value.int .u8 0).cells (n * 1)).toList) : BSl w (fun k => B ≤ k) v (zer n) := by
  rw [made_u8] at h
  refine BSl.ofOwn (n := n) (base := B) (e := 5) ?_ (zer_isB n) (fun k hk => (h.lt k hk).1)
  exact h
theorem BSl.conv21 {P : Program} {w : World} {F : Nat → Prop} {v : Value} {l : List Int} (h : BSl w F v l) (src e dst : TypeId) (hs : P.underlying src = some (.slice e)) (he : P.underlying e = some (.int .u8)) (hd : P.underlying dst = some .string) :
    (convert src dst v).run P w = .ok (.string (strOfNums l)) w := by
  obtain ⟨a, cap, rfl, hc, hm, hn, hr⟩ := h
  by_cases hl : l.length = 0
  · obtain rfl : l = [] := List.eq_nil_of_length_eq_zero hl
    show (convert src dst (.slice a 0 cap)).run P w = .ok (.string ByteArray.empty) w
    rw [run_convert_bytes_string w src dst e _ 0 cap hs he hd]
    cases a <;> simp [Conv.bytesToString, loadCells]
    all_goals rfl
  · obtain ⟨b, o, rfl, _⟩ := hr.at_ (j := 0) (by omega)
    exact run_convert_bytes_arg (P := P) w src e hs he b o l.length cap l rfl (fun i hi => by obtain ⟨b', o', e1, _, _, hc⟩ := hr.at_ hi; cases e1; exact hc) dst hd
theorem cat_one21 (w : World) (x : Int) (h0 : 0 ≤ x) (h1 : x < 256) (t : TypeId) (fr : Nat × Nat) : BSl (w.alloc (.cells #[.int .u8 x] t fr)) (fun k => k = w.heap.size) (.slice (some ⟨w.heap.size, 0, none⟩) 1 1) [x] :=
  ⟨_, 1, rfl, Nat.le_refl _, by decide, (fun h => by cases h), (fun y hy => by simp only [List.mem_singleton] at hy; subst hy; exact ⟨h0, h1⟩), fun _ => ⟨w.heap.size, 0, rfl, rfl, by simp, fun j hj => by
    have : j = 0 := by simp at hj; omega
    subst this
    exact cell_of_row _ _ 0 _ _ _ (heap_alloc_new w (.cells #[.int .u8 x] t fr))⟩⟩

def RowGe (B : Nat) (a : Option Addr) (n c : Nat) : Prop := ∀ k, some k = (Value.slice a n c).ownBlock → B ≤ k
/-- Take, whatever comes. -/
theorem Take_any (g : Nat) (a : Option Addr) (c : Nat) (pp : Int) (r : Rm) (q : Nat) (part parts : Int) (v : Value) (b : List Int) (F : Nat → Prop) (w : World) (h : InM w g a c pp r) (hb : BSl w F v b) (hF : ∀ k, F k → ¬ FtI g a r.L.flatten.length c k) (hq : q < 18446744073709551616) (hL : r.L.length ≤ 100000) (hz : r.L.flatten.length ≤ 100000000) (hbl : b.length ≤ 9223372036854775807) :
    Calls Try.prog 16 #[.pointer (some ⟨g, 0, none⟩), .int .u64 q, .int .i64 part, .int .i64 parts, v] w (TakeP w g a c r q part parts b) := by
  by_cases hbad : badM r q part parts b
  · refine (Take_bad g a c pp r q part parts v b F w h hb hbad hbl).mono ?_
    rintro e w' ⟨rfl, rfl⟩
    unfold TakeP
    rw [takeM_bad hbad]
    exact ⟨a, c, _, rfl, BSl.nil _ _, ⟨pp, h⟩, fun k hk => .inl hk, Kept.refl _ _⟩
  · exact Take_good g a c pp r q part parts v b F w h hb hF hbad hq hL hz
/-- Take of a picture that the call itself has begun: nothing that was there ahead of it is turned. -/
theorem Take_fix {R : Rm} {o : List Int} {ok : Bool} (w0 : World) (g : Nat) (a : Option Addr) (c : Nat) (pp : Int) (r : Rm) (q : Nat) (part parts : Int) (v : Value) (b : List Int) (F : Nat → Prop) (w : World) (hT : takeM r q part parts b = (R, o, ok)) (h : InM w g a c pp r) (hb : BSl w F v b) (hF : ∀ k, F k → ¬ FtI g a r.L.flatten.length c k) (hq : q < 18446744073709551616) (hL : r.L.length ≤ 100000) (hz : r.L.flatten.length ≤ 100000000) (hbl : b.length ≤ 9223372036854775807)
    (hk : Kept NoB w0 w) (hg : w0.heap.size ≤ g) (hr : RowGe w0.heap.size a r.L.flatten.length c) :
    Calls Try.prog 16 #[.pointer (some ⟨g, 0, none⟩), .int .u64 q, .int .i64 part, .int .i64 parts, v] w fun e w' =>
      ∃ a' c' u pp', e = .returned (.tuple #[u, .bool ok]) ∧ BSl w' (fun k => w0.heap.size ≤ k) u o ∧ InM w' g a' c' pp' R ∧ (∀ k, some k = (Value.slice a' R.L.flatten.length c').ownBlock → some k = (Value.slice a r.L.flatten.length c).ownBlock ∨ w.heap.size ≤ k) ∧ Kept NoB w0 w' ∧ RowGe w0.heap.size a' R.L.flatten.length c' ∧ Kept (FtI g a r.L.flatten.length c) w w' := by
  refine (Take_any g a c pp r q part parts v b F w h hb hF hq hL hz hbl).mono ?_
  intro e w' he
  unfold TakeP at he
  rw [hT] at he
  obtain ⟨a', c', u, rfl, hu, ⟨pp', hI⟩, ho, hk'⟩ := he
  have hs := hk.size
  exact ⟨a', c', u, pp', rfl, hu.mono (fun k _ h => Or.elim h (hr k) (fun h => Nat.le_trans hs h)), hI, ho, hk.trans hk' (fun i hi e => Or.elim e (fun e => by omega) (fun e => by have := hr i e; omega)), fun k h => Or.elim (ho k h) (hr k) (fun h => Nat.le_trans hs h), hk'⟩
/-- The chapter's Take, whatever comes. -/
theorem RTake_any (lv : Value) (r : Rm) (q : Nat) (part parts : Int) (v : Value) (b : List Int) (F : Nat → Prop) (w : World) (h : LsO w F lv r.L) (hb : BSl w F v b) (hq : q < 18446744073709551616) (hL : r.L.length ≤ 1000) (hz : r.L.flatten.length ≤ 10000000) :
    Calls Try.prog 17 #[.agg #[.int .u64 r.q, .int .i64 r.n, lv], .int .u64 q, .int .i64 part, .int .i64 parts, v] w (RTakeP w F r q part parts b) := by
  by_cases hbad : badM r q part parts b
  · exact RTake_bad lv r q part parts v b F w h hb hbad
  · exact RTake_good lv r q part parts v b F w h hb hbad hq hL hz
theorem ftI_new {g n c B : Nat} {a : Option Addr} {F : Nat → Prop} (hF : ∀ k, F k → k ≠ g ∧ ¬ some k = (Value.slice a n c).ownBlock) : ∀ k, F k → ¬ FtI g a n c k := fun k h e => by
  rcases e with e | e
  · exact (hF k h).1 e
  · exact (hF k h).2 e

set_option maxRecDepth 100000 in
set_option maxHeartbeats 1000000 in
theorem awake21_any (w : World) : Calls Try.prog 7 #[] w fun e w' => e = .returned (.bool true) ∧ Kept NoB w w' := by
  obtain ⟨i0, hi0, hz0, hz1, hz2⟩ := info_parts Try.info5
  have kc := fun (w : World) (C : Array Value) (n c : Nat) => Lib.run_convert_bytes_const (P := Try.prog) w 23 5 C n c Try.underlying23 Try.underlying5
  go_enter Try.func7, Try.ntmps7
  go_wp2_with (at_make; refine wpList_make_full _ rfl (.const (.int .i64 2050)) (.const (.int .i64 2050)) 23 rfl w.heap.size 5 i0 _ 1 Try.underlying23 hi0 hz0 hz1 .i64 .i64 _ _ 2050 rfl rfl rfl rfl (by rw [hz2]; omega) (by unfold maxLen; omega) (Nat.le_refl _) ?_; intro w1 hown hgrow; have HZ := Lib.hid (zer_own hown); have HK1 : Hid (Kept NoB w w1) := Lib.hid ((Kept.refl _ _).grown hgrow (fun k hk => by cases hk)); clear hown hgrow)
  refine (NewM_any 7 _ (zer 2050) _ _ HZ.out (by rw [zer_len]; omega)).mono ?_
  rintro e w2 ⟨g, rfl, hO2, hk2⟩
  have HO2 := Lib.hid hO2
  have HK2 := Lib.hid (HK1.out.trans hk2 (fun _ _ h => h))
  clear hO2 hk2
  go_wp2_with fail
  refine (Part_any g 7 (zer 2050) 2 _ w2 HO2.out (by rw [zer_len]; omega)).mono ?_
  rintro e w3 ⟨v3, b3, rfl, hb3, hv3, hk3⟩
  have hnp : npr (zer 2050).length = 3 := by rw [zer_len]; rfl
  obtain rfl : b3 = true := by rw [hb3, hnp]; rfl
  have hl3 : (prt (zer 2050) 2).length = 2 := by rw [prt_len, zer_len]; decide
  obtain ⟨a3, c3, rfl⟩ : ∃ a3 c3, v3 = .slice a3 2 c3 := by obtain ⟨a, c, h, _⟩ := hv3; rw [if_pos rfl] at h; exact ⟨a, c, by rw [h, show (2 : Int).toNat = 2 from rfl, hl3]⟩
  have hs3 := hk3.size
  have HO3 := Lib.hid (HO2.out.no hk3)
  have HK3 := Lib.hid (HK2.out.trans hk3 (fun _ _ h => h))
  clear hv3 hk3 hb3 HO2 HZ
  go_wp2_with fail
  refine (Begin_any w3).mono ?_
  rintro e w4 ⟨rfl, hI4, hw4⟩
  have hk4 : Kept NoB w3 w4 := by rw [hw4]; exact (Kept.refl _ _).alloc _
  have HI4 := Lib.hid hI4
  have HO4 := Lib.hid (HO3.out.no hk4)
  have HK4 := Lib.hid (HK3.out.trans hk4 (fun _ _ h => h))
  have hs4 : w3.heap.size < w4.heap.size := by rw [hw4]; simp
  obtain ⟨x, hx⟩ : ∃ x, x = w3.heap.size := ⟨_, rfl⟩
  have hxw : w.heap.size ≤ x := by rw [hx]; exact HK3.out.size
  rw [← hx] at HI4 hs4 ⊢
  have HO5 := Lib.hid (HO4.out.mono (G := fun k => k < x) (fun k _ h => by have := h.2; omega))
  clear hI4 hw4 hk4 hx HO3 HO4
  go_wp2_with fail
  have hk5 : Kept NoB w4 (w4.alloc (.cells #[.int .u8 97] 5 (1, 2))) := (Kept.refl _ _).alloc _
  have hT6 : takeM ⟨0, 0, []⟩ 7 0 2 [97] = (⟨7, 2, [[97]]⟩, [], false) := by simp [takeM, badM, aimM]
  refine (Take_fix w x none 0 0 ⟨0, 0, []⟩ 7 0 2 _ [97] (fun k => k = w4.heap.size) _ hT6 ⟨hk5.heap (fun h => h) HI4.out.1, HI4.out.2.1, own_keptM HI4.out.2.2.1 hk5 (fun _ _ h => h), HI4.out.2.2.2⟩ (cat_one21 w4 97 (by omega) (by omega) _ _) (fun k h e => Or.elim e (fun e => by omega) (fun e => by simp [Value.ownBlock] at e)) (by decide) (by decide) (by decide) (by decide) (HK4.out.trans hk5 (fun _ _ h => h)) hxw (fun k e => by simp [Value.ownBlock] at e)).mono ?_
  rintro e w6 ⟨a6, c6, u6, pp6, rfl, hu6, hI6, ho6, hk06, hr6, hk6⟩
  obtain ⟨ua6, uc6, rfl⟩ : ∃ a c, u6 = .slice a 0 c := by obtain ⟨a, c, h, _⟩ := hu6; exact ⟨a, c, h⟩
  have HI6 := Lib.hid hI6
  have HK6 := Lib.hid hk06
  have HR6 := Lib.hid hr6
  have HR7 : Hid (RowGe x a6 ([[97]] : List (List Int)).flatten.length c6) := Lib.hid (fun k h => Or.elim (ho6 k h) (fun h => by simp [Value.ownBlock] at h) (fun h => by simp only [World.size_alloc] at h; omega))
  have hs6 := hk6.size
  simp only [World.size_alloc] at hs6
  have HO6 := Lib.hid ((HO5.out.no hk5).kept hk6 (fun k h e => Or.elim e (fun e => by omega) (fun e => by simp [Value.ownBlock] at e)))
  clear hI6 hu6 ho6 hk06 hr6 hk6 hk5 HO5 HI4 HK4
  go_wp2_with fail
  have hk7 : Kept NoB w6 (w6.alloc (.cells #[.int .u8 98] 5 (1, 2))) := (Kept.refl _ _).alloc _
  have hT8 : takeM ⟨7, 2, [[97]]⟩ 7 1 2 [98] = (⟨7, 0, []⟩, [97, 98], true) := by simp [takeM, badM, aimM]
  refine (Take_fix w x a6 c6 pp6 ⟨7, 2, [[97]]⟩ 7 1 2 _ [98] (fun k => k = w6.heap.size) _ hT8 ⟨hk7.heap (fun h => h) HI6.out.1, HI6.out.2.1, own_keptM HI6.out.2.2.1 hk7 (fun _ _ h => h), HI6.out.2.2.2⟩ (cat_one21 w6 98 (by omega) (by omega) _ _) (fun k h e => Or.elim e (fun e => by omega) (fun e => by have := (HI6.out.2.2.1.lt k e.symm).2; omega)) (by decide) (by decide) (by decide) (by decide) (HK6.out.trans hk7 (fun _ _ h => h)) hxw HR6.out).mono ?_
  rintro e w8 ⟨a8, c8, u8, pp8, rfl, hu8, hI8, ho8, hk08, hr8, hk8⟩
  obtain ⟨ua8, uc8, rfl⟩ : ∃ a c, u8 = .slice a 2 c := by obtain ⟨a, c, h, _⟩ := hu8; exact ⟨a, c, h⟩
  have HO8 := Lib.hid ((HO6.out.no hk7).kept hk8 (fun k h e => Or.elim e (fun e => by omega) (fun e => by have := HR7.out k e; omega)))
  have hconv := hu8.conv21 (P := Try.prog) 23 5 9 Try.underlying23 Try.underlying5 Try.underlying9
  have hstr : ((strOfNums [97, 98]).toList == [97, 98]) = true := by decide +kernel
  have HK8 := Lib.hid hk08
  clear hu8 hI8 ho8 hk08 hr8 hk8 hk7
  go_wp2_with (first
    | (go_at_call 11; refine (Parts_any g 7 (zer 2050) _ w8 HO8.out).mono ?_; rintro e w9 ⟨rfl, rfl⟩; rw [hnp])
    | (go_at_call 12; refine (At_any g 7 (zer 2050) _ w8 HO8.out).mono ?_; rintro e w9 ⟨rfl, rfl⟩))
  go_ret
  exact ⟨rfl, HK8.out⟩
end Go.Proofs.Ytnamipgdclbkeaa
