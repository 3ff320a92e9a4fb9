/-
  The walk of CmdsDecodes.
-/
import Derived.Test.YtdohnobfaignpaaDoorCmdS
import Derived.Test.YtdohnobfaignpaaDoorCmdH
import Derived.Test.YtdohnobfaignpaaDoorRef
namespace Go.Proofs.YtdohnobfaignpaaDoor
open Go.RowKit Go.Sort Go.Lib
set_option linter.unusedVariables false

theorem DecIs.cm {l : List Int} {k ch ep nd e : Nat} (h : DecIs l k ch ep nd e) : Cm k ch ep nd := by
  by_cases he : e = 0
  · exact (h.zero he).1
  · obtain ⟨k', ch', ep', nd', e', hg, h⟩ := h
    rcases h with ⟨_, _, _, _, _, _, h⟩ | ⟨_, _, rfl, rfl, rfl, rfl, _⟩ | ⟨_, rfl, rfl, rfl, rfl, _⟩
    · omega
    · exact ⟨by unfold Vld; omega, by omega⟩
    · exact ⟨by unfold Vld; omega, by omega⟩
/-- What both decode, in definite numbers. -/
theorem dec_def {l : List Int} {k ch ep nd x : Nat} (h : DecIs l k ch ep nd x) {e : Ending} {w w' : World} (hd : DecEnd l w e w') :
    e = .returned (.tuple #[.agg #[.int .i64 k, .int .i64 ch, .int .u64 ep, .int .i64 nd], .int .i64 x]) ∧ Kept NoB w w' := by
  obtain ⟨k', ch', ep', nd', x', h', _, he, hk⟩ := hd
  obtain ⟨rfl, rfl, rfl, rfl, rfl⟩ := h.one h'
  exact ⟨he, hk⟩
theorem get_some (l : List Int) (hB : IsB l) : ∃ k ch ep nd e : Nat, GetIs ⟨l, 0⟩ k ch ep nd e := by
  by_cases h : (ISt.raw ⟨l, 0⟩ 11).1.err = 0
  · obtain ⟨k, ch, ep, nd, _, _, _, _, _, _, hy, hn⟩ := get_is2 ⟨l, 0⟩ hB h
    by_cases hV : Vld k ch ep nd
    · exact ⟨_, _, _, _, _, hy hV⟩
    · exact ⟨_, _, _, _, _, hn hV⟩
  · exact ⟨_, _, _, _, _, (raw_l ⟨l, 0⟩ ⟨fun h => absurd rfl h, Int.le_refl _, by show (0 : Int) < 100; omega⟩ h).1⟩
theorem dec_some (l : List Int) (hB : IsB l) : ∃ k ch ep nd e : Nat, DecIs l k ch ep nd e := by
  obtain ⟨k, ch, ep, nd, e, hg⟩ := get_some l hB
  by_cases he : e = 0
  · have := (hg.len he).1
    by_cases h11 : l.length = 11
    · exact ⟨k, ch, ep, nd, 0, k, ch, ep, nd, e, hg, .inl ⟨he, h11, rfl, rfl, rfl, rfl, rfl⟩⟩
    · exact ⟨0, 0, 0, 0, 4, k, ch, ep, nd, e, hg, .inr (.inl ⟨he, by omega, rfl, rfl, rfl, rfl, rfl⟩)⟩
  · exact ⟨0, 0, 0, 0, e, k, ch, ep, nd, e, hg, .inr (.inr ⟨he, rfl, rfl, rfl, rfl, rfl⟩)⟩
set_option maxRecDepth 100000 in
set_option maxHeartbeats 2000000 in
theorem CmdsDecodes_any (v : Value) (l : List Int) (w : World) (h : BSl w (fun k => k < w.heap.size) v l) (hv : Vars w) :
    Calls Tryd.prog 4 #[v] w (BoolEnd true w) := by
  have HB := Lib.hid h
  have HV := Lib.hid hv
  obtain ⟨m, hm⟩ : ∃ m, m = l.take 60 := ⟨_, rfl⟩
  obtain ⟨k, ch, ep, nd, x, hd⟩ := dec_some m (by rw [hm]; exact h.isB.take 60)
  have HL : Hid (m.length ≤ 60) := Lib.hid (by rw [hm, List.length_take]; omega)
  have HD := Lib.hid hd
  have HCM := Lib.hid hd.cm
  obtain ⟨hk4, hc3, hep, hnd⟩ := hd.le
  have HC : Hid (Calls Tryd.prog 19 #[v, .int .i64 60] w fun e w' => ∃ v', e = .returned v' ∧ BSl w (fun k => k < w.heap.size) v' m ∧ w = w') := Lib.hid (by rw [hm]; exact Cut_any v l 60 _ w h (by decide))
  obtain ⟨a, c, rfl, _⟩ := h
  clear hd hv hm
  go_enter Tryd.func4, Tryd.ntmps4
  go_wp2_with fail
  refine HC.out.mono ?_
  rintro e w' ⟨v1, rfl, hb1, rfl⟩
  have HB1 := Lib.hid hb1
  obtain ⟨a1, c1, rfl, _⟩ := hb1
  obtain ⟨n1, hn1⟩ : ∃ n1, n1 = m.length := ⟨_, rfl⟩
  rw [← hn1] at HB1 ⊢
  clear HC HB
  have HQ1 : Hid (∀ w2, Kept NoB w w2 → Calls Tryd.prog 14 #[.slice a1 n1 c1] w2 fun e w' => e = .returned (.tuple #[.agg #[.int .i64 k, .int .i64 ch, .int .u64 ep, .int .i64 nd], .int .i64 x]) ∧ Kept NoB w2 w') :=
    Lib.hid (fun w2 hk => (Decode_any _ m _ w2 (HB1.out.kept hk (fun _ _ h => h)) (by have := HL.out; omega)).mono fun e w' h => dec_def HD.out h)
  have HQ2 : Hid (∀ w2, Kept NoB w w2 → Calls Tryd.prog 20 #[.slice a1 n1 c1] w2 fun e w' => e = .returned (.tuple #[.agg #[.int .i64 k, .int .i64 ch, .int .u64 ep, .int .i64 nd], .int .i64 x]) ∧ Kept NoB w2 w') :=
    Lib.hid (fun w2 hk => (CRDecode_any _ m _ w2 (HB1.out.kept hk (fun _ _ h => h)) (fun k h => Nat.lt_of_lt_of_le h hk.size)).mono fun e w' h => dec_def HD.out h)
  clear hn1
  go_wp2_with fail
  refine (HQ1.out w (Kept.refl _ _)).mono ?_
  rintro e w1 ⟨rfl, hk⟩
  have HC1 := Lib.hid (heap_alloc_new w1 (.cells #[.int .i64 (k : Int), .int .i64 (ch : Int), .int .u64 (ep : Int), .int .i64 (nd : Int)] 24))
  have HK1 := Lib.hid (hk.alloc (.cells #[.int .i64 (k : Int), .int .i64 (ch : Int), .int .u64 (ep : Int), .int .i64 (nd : Int)] 24))
  clear hk
  go_wp2_with fail
  refine (HQ2.out _ HK1.out).mono ?_
  rintro e w2 ⟨rfl, hk⟩
  have HC2 := Lib.hid (balloc (hk.heap (fun h => h) HC1.out) (.cells #[.int .i64 (k : Int), .int .i64 (ch : Int), .int .u64 (ep : Int), .int .i64 (nd : Int)] 24))
  have HD2 := Lib.hid (heap_alloc_new w2 (.cells #[.int .i64 (k : Int), .int .i64 (ch : Int), .int .u64 (ep : Int), .int .i64 (nd : Int)] 24))
  have HK2 := Lib.hid ((HK1.out.trans hk (fun _ _ h => h)).alloc (.cells #[.int .i64 (k : Int), .int .i64 (ch : Int), .int .u64 (ep : Int), .int .i64 (nd : Int)] 24))
  obtain ⟨p0, p1, p2, p3, _⟩ := cells4 (hk.heap (fun h => h) HC1.out)
  have hp := heap_lt (hk.heap (fun h => h) HC1.out)
  clear hk
  go_wp2_with fail
  refine (Encode_ok k ch ep nd _ HCM.out).mono ?_
  rintro e w3 ⟨xv, rfl, hx, hk⟩
  have HX := Lib.hid hx
  have HK3 := Lib.hid (HK2.out.trans hk (fun _ _ h => h))
  obtain ⟨xa, xc, rfl, _⟩ := hx
  rw [cbs_len] at HX ⊢
  have HA := Lib.hid (fun (w' : World) (hk : Kept NoB w3 w') => awake8 w' (HV.out.kept (HK3.out.trans hk (fun _ _ h => h))))
  clear hk p0 p1 p2 p3 hp
  by_cases hx0 : x = 0
  · obtain ⟨_, hmc⟩ := HD.out.zero hx0
    subst hx0
    have HS : Hid (Calls Tryd.prog 16 #[.slice xa 11 xc, .slice a1 n1 c1] w3 fun e w' => e = .returned (.bool true) ∧ Kept NoB w3 w') :=
      Lib.hid ((Same_any _ _ _ m _ _ w3 HX.out (HB1.out.kept HK3.out (fun _ _ h => h))).mono fun e w' ⟨h1, h2⟩ => ⟨by rw [h1, decide_eq_true hmc.symm], h2⟩)
    clear hmc
    go_wp2_with fail
    refine HS.out.mono ?_
    rintro e w4 ⟨rfl, hk⟩
    have HK4 := Lib.hid (HK3.out.trans hk (fun _ _ h => h))
    have HA4 := Lib.hid (HA.out w4 hk)
    clear hk
    go_wp2_with fail
    refine HA4.out.mono ?_
    rintro e w5 ⟨rfl, hk⟩
    have HK5 := Lib.hid (HK4.out.trans hk (fun _ _ h => h))
    clear hk
    go_wp2
    go_ret
    exact ⟨rfl, HK5.out⟩
  · have hxb : ((x : Int) != 0) = true := by simpa using hx0
    have HA4 := Lib.hid (HA.out w3 (Kept.refl _ _))
    clear hx0
    go_wp2_with fail
    refine HA4.out.mono ?_
    rintro e w5 ⟨rfl, hk⟩
    have HK5 := Lib.hid (HK3.out.trans hk (fun _ _ h => h))
    clear hk
    go_wp2
    go_ret
    exact ⟨rfl, HK5.out⟩
end Go.Proofs.YtdohnobfaignpaaDoor
