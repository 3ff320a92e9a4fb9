/-
  Two numbers that came in; the walk of VersTrims.
-/
import Derived.Test.YtnmclhgljpcjcaaVerV
import Derived.Test.YtnmclhgljpcjcaaVerW
import Derived.IntWalk
namespace Go.Proofs.Ytnmclhgljpcjcaa
open Go.RowKit Go.ChangeShapes Go.WideShapes Go.ChangeAt Go.Deep
set_option linter.unusedVariables false
set_option linter.unusedSimpArgs false

section
variable {H : Type} {enc : TypeId × Value → H} {W : World} {base b0 : Nat}
theorem okWide_array15 {P : Program} {t : TypeId} {w : World} {r : Reach} {base n : Nat} {v : Value} {e : TypeId} (ht : P.underlying t = some (.array n e)) (h : Value.okWide P w r base t v) : ∃ cs, v = .agg cs ∧ cs.size = P.cellsOf t := by
  simp only [Value.okWide, ht] at h
  obtain ⟨cs, h1, h2, _⟩ := h
  exact ⟨cs, h1, h2⟩
theorem list2v {α : Type} {cs : List α} (h : cs.length = 2) : ∃ c0 c1, cs = [c0, c1] := by
  match cs, h with
  | [c0, c1], _ => exact ⟨c0, c1, rfl⟩
set_option maxRecDepth 100000 in
/-- Two numbers by value. -/
theorem more_open {r : Reach} {v : Value} {d : DataW H} {p : List MemPlace} (hv : Value.okWide Try.prog W r b0 62 v)
    (h : DataW.Trod enc Try.prog W base (fun _ => true) true 62 v d p) : ∃ o : Int × Int, v = .agg #[.int .u64 o.1, .int .u64 o.2] ∧ 0 ≤ o.1 ∧ o.1 ≤ 18446744073709551615 ∧ 0 ≤ o.2 ∧ o.2 ≤ 18446744073709551615 := by
  obtain ⟨cs, rfl, hsz⟩ := okWide_array15 Try.underlying62 hv
  have hC : Try.prog.cellsOf 62 = 2 := by kernel_rfl
  obtain ⟨l⟩ := cs
  obtain ⟨c0, c1, rfl⟩ := list2v (cs := l) (hsz.trans hC)
  obtain ⟨fuel, hf⟩ := h
  obtain ⟨xs, n', _, _, _, hxl, hg⟩ := DataW.trod_array Try.underlying62 (by simpa [Value.cells] using hf)
  have hCe : Try.prog.cellsOf 33 = 1 := by kernel_rfl
  rw [hCe] at hg
  match xs, hxl with
  | [y0, y1], _ =>
    have g0 : DataW.trod enc Try.prog W base (fun _ => true) true n' 33 [c0] = some y0 := hg 0 (by decide)
    have g1 : DataW.trod enc Try.prog W base (fun _ => true) true n' 33 [c1] = some y1 := hg 1 (by decide)
    obtain ⟨k0, e0, _, w0⟩ := DataW.trod_int Try.underlying33 g0
    obtain ⟨k1, e1, _, w1⟩ := DataW.trod_int Try.underlying33 g1
    simp only [List.cons.injEq, and_true] at e0 e1
    subst e0 e1
    exact ⟨(k0, k1), rfl, (bounds_u64 w0).1, (bounds_u64 w0).2, (bounds_u64 w1).1, (bounds_u64 w1).2⟩
end
theorem bsl_open15 {H : Type} {enc : TypeId × Value → H} {W : World} {base : Nat} {d : DataW H} {p : List MemPlace} {a : Option Addr} {len cap : Nat}
    (h : DataW.Trod enc Try.prog W base (fun _ => true) true 34 (.slice a len cap) d p) : ∃ l : List Int, BSl W (fun k => k < W.heap.size) (.slice a len cap) l := by
  obtain ⟨fuel, hf⟩ := h
  exact bsl_cell15 (by simpa [Value.cells] using hf)
/-- Two blocks that share nothing. -/
structure TwSt (w : World) (g1 g2 : Nat) (G1 G2 : Nat → Prop) (L1 L2 : List Vn) (wr : World) : Prop where
  b1 : BkAt wr g1 G1 L1
  b2 : BkAt wr g2 G2 L2
  gb1 : ∀ i, G1 i → w.heap.size ≤ i ∧ i < wr.heap.size
  gb2 : ∀ i, G2 i → w.heap.size ≤ i ∧ i < wr.heap.size
  ap : ∀ i, G1 i → ¬ G2 i
  kp : Kept NoB w wr
theorem TwSt.no {w wr w' : World} {g1 g2 : Nat} {G1 G2 : Nat → Prop} {L1 L2 : List Vn} (h : TwSt w g1 g2 G1 G2 L1 L2 wr) (hk : Kept NoB wr w') : TwSt w g1 g2 G1 G2 L1 L2 w' :=
  ⟨h.b1.no hk, h.b2.no hk, fun i hi => ⟨(h.gb1 i hi).1, Nat.lt_of_lt_of_le (h.gb1 i hi).2 hk.size⟩, fun i hi => ⟨(h.gb2 i hi).1, Nat.lt_of_lt_of_le (h.gb2 i hi).2 hk.size⟩, h.ap, h.kp.trans hk (fun _ _ h => h)⟩
theorem TwSt.swap {w wr : World} {g1 g2 : Nat} {G1 G2 : Nat → Prop} {L1 L2 : List Vn} (h : TwSt w g1 g2 G1 G2 L1 L2 wr) : TwSt w g2 g1 G2 G1 L2 L1 wr :=
  ⟨h.b2, h.b1, h.gb2, h.gb1, fun i h2 h1 => h.ap i h1 h2, h.kp⟩
theorem TwSt.turn {w wr w2 : World} {g1 g2 : Nat} {G1 G2 : Nat → Prop} {L1 L2 L1' : List Vn} (h : TwSt w g1 g2 G1 G2 L1 L2 wr) (hb : BkAt w2 g1 (fun k => G1 k ∨ wr.heap.size ≤ k) L1') (hk : Kept G1 wr w2) :
    TwSt w g1 g2 (fun k => (G1 k ∨ wr.heap.size ≤ k) ∧ k < w2.heap.size) G2 L1' L2 w2 := by
  have hs := hk.size
  have hsw := h.kp.size
  refine ⟨hb.mono (fun k hk h => ⟨h, hk⟩), h.b2.kept hk (fun k h2 h1 => h.ap k h1 h2), fun i hi => ⟨?_, hi.2⟩, fun i hi => ⟨(h.gb2 i hi).1, Nat.lt_of_lt_of_le (h.gb2 i hi).2 hs⟩, fun i h1 h2 => ?_, h.kp.trans hk (fun i hi h1 => by have := (h.gb1 i h1).1; omega)⟩
  · rcases hi.1 with h1 | h1
    · exact (h.gb1 i h1).1
    · omega
  · rcases h1.1 with h1 | h1
    · exact h.ap i h1 h2
    · have := (h.gb2 i h2).2; omega
theorem same_two15 (w : World) (x0 x1 : Int) (x2 : List Int) (u u' : Option Addr) (n c n' c' : Nat) (h : VnV w AnyV (.agg #[.int .u64 x0, .int .u64 x1, .slice u n c]) ⟨x0, x1, x2⟩) (h' : VnV w AnyV (.agg #[.int .u64 x0, .int .u64 x1, .slice u' n' c']) ⟨x0, x1, x2⟩) : Calls Try.prog 35 #[.agg #[.int .u64 x0, .int .u64 x1, .slice u n c], .agg #[.int .u64 x0, .int .u64 x1, .slice u' n' c']] w fun e w' => e = .returned (.bool true) ∧ Kept NoB w w' :=
  (VSame_any w _ _ _ _ AnyV AnyV h h').mono fun e w' ⟨h1, h2⟩ => ⟨by rw [h1, sameVB_same], h2⟩
theorem isB_one15 {x : Int} (h0 : 0 ≤ x) (h1 : x < 256) : IsB [x] := fun z hz => by
  rw [List.mem_singleton] at hz
  rw [hz]
  exact ⟨h0, h1⟩
def VtRel (W : World) (g2 : Nat) (first : Int) (gs : List Int) (sv iv : Value) (wr : World) : Prop :=
  ∃ (k : Nat) (G1 G2 : Nat → Prop), k ≤ gs.length ∧ iv = .int .i64 k ∧ sv = .int .u64 (seqG gs k) ∧ TwSt W W.heap.size g2 G1 G2 (versG first gs k) (versG first gs k) wr
set_option maxRecDepth 100000 in
set_option maxHeartbeats 4000000 in
theorem VersTrims_any (w : World) (first m0 m1 : Int) (v : Value) (gs : List Int) (hg : BSl w (fun k => k < w.heap.size) v gs) (hf0 : 0 ≤ first) (hf1 : first ≤ 18446744073709551615) (hm0 : 0 ≤ m0) (hm0' : m0 ≤ 18446744073709551615) (hm1 : 0 ≤ m1) : Calls Try.prog 5 #[.int .u64 first, v, .agg #[.int .u64 m0, .int .u64 m1]] w fun e w' => e = .returned (.bool true) ∧ Kept NoB w w' := by
  have HG := Lib.hid hg
  have hgB := hg.isB
  obtain ⟨ga, gc, rfl, _, _, _, hrd⟩ := hg
  have HGB := Lib.hid hgB
  have HRD := Lib.hid hrd
  clear hgB hrd
  have hHX := heap_alloc_new w (.cells #[.int .u64 m0, .int .u64 m1] 62)
  obtain ⟨W, hW⟩ : ∃ W, W = w.alloc (.cells #[.int .u64 m0, .int .u64 m1] 62) := ⟨_, rfl⟩
  rw [← hW] at hHX
  have HW := Lib.hid hW
  have HHX := Lib.hid hHX
  have HKW : Hid (Kept NoB w W) := Lib.hid (by rw [hW]; exact (Kept.refl _ _).alloc _)
  have HSW : Hid (W.heap.size = w.heap.size + 1) := Lib.hid (by rw [hW]; simp)
  have HAW := Lib.hid (fun w' => awake15 w')
  clear hHX hW
  by_cases hbad : first = 0 ∨ 4611686018427387904 < first ∨ 40 < gs.length
  · have hg : (first == 0) = true ∨ ((first == 0) = false ∧ (decide (4611686018427387904 < first) = true ∨ (decide (4611686018427387904 < first) = false ∧ decide ((40 : Int) < (gs.length : Int)) = true))) := by
      by_cases h1 : first = 0
      · exact .inl (by simpa using h1)
      · refine .inr ⟨by simpa using h1, ?_⟩
        by_cases h2 : 4611686018427387904 < first
        · exact .inl (decide_eq_true h2)
        · exact .inr ⟨decide_eq_false h2, decide_eq_true (by omega)⟩
    clear hbad
    go_enter Try.func5, Try.ntmps5
    rcases hg with g1 | ⟨g1, g2 | ⟨g2, g3⟩⟩
    all_goals
      go_wp2_with fail
      rw [← HW.out]
      refine (HAW.out _).mono ?_
      rintro e w1 ⟨rfl, hk1⟩
      have HK1 := Lib.hid (HKW.out.trans hk1 (fun _ _ h => h))
      clear hk1
      go_wp2
      go_ret
      exact ⟨rfl, HK1.out⟩
  · have g1 : (first == 0) = false := by simp; omega
    have g2 : decide (4611686018427387904 < first) = false := decide_eq_false (by omega)
    have g3 : decide ((40 : Int) < (gs.length : Int)) = false := decide_eq_false (by omega)
    have hfp : 0 < first := by omega
    have hfl : first ≤ 4611686018427387904 := by omega
    have hgl : gs.length ≤ 40 := by omega
    clear hbad
    go_enter Try.func5, Try.ntmps5
    go_wp2_with fail
    rw [← HW.out]
    refine (VNew_any W).mono ?_
    rintro e w1 ⟨rfl, hb1, hk1⟩
    have HB1 := Lib.hid hb1
    have HK1 := Lib.hid hk1
    clear hb1 hk1
    go_wp2_with fail
    refine (VNew_any w1).mono ?_
    rintro e w2 ⟨rfl, hb2, hk2⟩
    have hs12 : W.heap.size < w1.heap.size := HB1.out.lt.1
    have hs23 : w1.heap.size < w2.heap.size := hb2.lt.1
    have H0 : Hid (VtRel W w1.heap.size first gs (.int .u64 0) (.int .i64 0) w2) := Lib.hid ⟨0, fun k => k = W.heap.size, fun k => k = w1.heap.size, Nat.zero_le _, rfl, rfl,
      HB1.out.no hk2, hb2, fun i hi => by omega, fun i hi => by omega, fun i h1 h2 => by omega, HK1.out.trans hk2 (fun _ _ h => h)⟩
    obtain ⟨g2b, hg2b⟩ : ∃ x, x = w1.heap.size := ⟨_, rfl⟩
    rw [← hg2b] at H0 ⊢
    clear hs12 hs23 hb2 hk2 hg2b
    go_wp2_with fail
    go_loopw [9, 10] (VtRel W g2b first gs) (fun _ i _ => gs.length - (RowKit.intOf i).toNat)
    case atStart => exact H0.out
    case round =>
      obtain ⟨k, G1, G2, hk, rfl, rfl, hst⟩ := hrel
      have HST := Lib.hid hst
      have hk0 : (0 : Int) ≤ (k : Int) := by omega
      clear hst
      by_cases hlt : k < gs.length
      · have hk1 : (k : Int) < (gs.length : Int) := by omega
        obtain ⟨b, o, rfl, _, _, hcell⟩ := HRD.out.at_ hlt
        have hcw := HST.out.kp.cell (p := ⟨b, o + k, none⟩) (fun h => h) (HKW.out.cell (p := ⟨b, o + k, none⟩) (fun h => h) hcell)
        have hbd := seqG_bd HGB.out k hk
        have hsu := seqG_succ hlt
        have hgx := HGB.out.getD k
        obtain ⟨x, hx⟩ : ∃ x, x = gs.getD k 0 := ⟨_, rfl⟩
        obtain ⟨s, hs⟩ : ∃ s, s = seqG gs k := ⟨_, rfl⟩
        obtain ⟨s', hs'⟩ : ∃ s, s = seqG gs (k + 1) := ⟨_, rfl⟩
        rw [← hx] at hcw hsu hgx
        rw [← hs] at hbd hsu ⊢
        rw [← hs'] at hsu
        have hx0 := hgx.1
        have hx1 := hgx.2
        have hs0 : 0 ≤ s := by omega
        have hsl : s ≤ 10240 := by omega
        have hw1 : IntKind.u64.wrap (s + 1) = s + 1 := IntWalk.u64_in _ (by omega)
        have hw2 : IntKind.u64.wrap x = x := IntWalk.u64_in _ (by omega)
        have hw3 : IntKind.u64.wrap (s + 1 + x) = s' := by rw [← hsu]; exact IntWalk.u64_in _ (by omega)
        have hw4 : IntKind.u64.wrap (k : Int) = (k : Int) := IntWalk.u64_in _ (by omega)
        have hw5 : IntKind.u64.wrap (first + (k : Int)) = first + (k : Int) := IntWalk.u64_in _ (by omega)
        have HVG : Hid (verG first gs k = ⟨first + k, s', [x]⟩) := Lib.hid (by unfold verG; rw [hs', hx])
        have HPX := Lib.hid (versG_put HGB.out hfp hlt)
        have HPL := Lib.hid (versG_add HGB.out hfp hlt)
        have HLN := Lib.hid (versG_len first gs k)
        rw [HVG.out] at HPX HPL
        have HSS := Lib.hid hs'
        have HFV : Hid (FitV ⟨first + k, s', [x]⟩) := Lib.hid ⟨by show 0 ≤ first + (k : Int); omega, by show first + (k : Int) ≤ _; omega, by show 0 ≤ s'; omega, by show s' ≤ _; omega⟩
        have HIB : Hid (IsB [x]) := Lib.hid (isB_one15 hx0 hx1)
        clear hbd hsu hgx hx hs hs' hcell
        go_wp2_with fail
        have hk8 := ((Kept.refl NoB wr).alloc (.cells #[.int .u8 x] 5)).alloc (.cells #[.int .u64 (first + k), .int .u64 s', .slice (some ⟨wr.heap.size, 0, none⟩) 1 1] 43)
        have hd8 := blkV_alloc (heap_alloc_new wr (.cells #[.int .u8 x] 5)) (.cells #[.int .u64 (first + k), .int .u64 s', .slice (some ⟨wr.heap.size, 0, none⟩) 1 1] 43)
        have hv8 := heap_alloc_new (wr.alloc (.cells #[.int .u8 x] 5)) (.cells #[.int .u64 (first + k), .int .u64 s', .slice (some ⟨wr.heap.size, 0, none⟩) 1 1] 43)
        rw [show (wr.alloc (.cells #[.int .u8 x] 5)).heap.size = wr.heap.size + 1 by simp] at hv8
        obtain ⟨W8, hW8⟩ : ∃ w', w' = (wr.alloc (.cells #[.int .u8 x] 5)).alloc (.cells #[.int .u64 (first + k), .int .u64 s', .slice (some ⟨wr.heap.size, 0, none⟩) 1 1] 43) := ⟨_, rfl⟩
        rw [← hW8] at hk8 hd8 hv8 ⊢
        have HST8 := Lib.hid (HST.out.no hk8)
        have HD8 : Hid (BSl W8 (fun k => k = wr.heap.size) (.slice (some ⟨wr.heap.size, 0, none⟩) 1 1) [x]) := Lib.hid
          ⟨_, 1, rfl, Nat.le_refl _, by decide, (fun h => by cases h), HIB.out, fun _ => ⟨_, 0, rfl, rfl, heap_lt hd8, fun j hj => by
            obtain rfl : j = 0 := by simpa using hj
            exact cell_of_row _ _ 0 _ _ _ hd8⟩⟩
        have HV8 := Lib.hid hv8
        clear hW8 hk8 hd8 hv8 hw1 hw2 hw3 hw4 hw5 hcw
        refine (VPut_any W8 W.heap.size G1 _ _ _ ⟨first + k, s', [x]⟩ HST8.out.b1 ⟨_, rfl, HD8.out⟩ HFV.out (by rw [HLN.out]; omega) (by simp)).mono ?_
        rintro e w9 ⟨rfl, hb9, hk9⟩
        rw [HPX.out]
        rw [HPL.out] at hb9
        have HST9 := Lib.hid (HST8.out.turn hb9 hk9)
        have hng : ∀ i, wr.heap.size ≤ i → ¬ G1 i := fun i hi hg => by have := (HST.out.gb1 i hg).2; omega
        have HD9 := Lib.hid (HD8.out.kept hk9 (fun i hi => hng i (by omega)))
        have hv9 := hk9.heap (hng _ (by omega)) HV8.out
        obtain ⟨d0, d1, d2⟩ := cells3v hv9
        clear hb9 hk9 hng hv9
        go_wp2_with fail
        refine (VPut_any w9 g2b G2 _ _ _ ⟨first + k, s', [x]⟩ HST9.out.b2 ⟨_, rfl, HD9.out⟩ HFV.out (by rw [HLN.out]; omega) (by simp)).mono ?_
        rintro e w10 ⟨rfl, hb10, hk10⟩
        rw [HPX.out]
        rw [HPL.out] at hb10
        have HST10 := Lib.hid (HST9.out.swap.turn hb10 hk10).swap
        clear hb10 hk10 d0 d1 d2
        go_wp2
        exact ⟨⟨k + 1, _, _, by omega, by go_num, by rw [HSS.out], HST10.out⟩, by simp [RowKit.intOf]; omega⟩
      · obtain rfl : k = gs.length := by omega
        have hbd := seqG_bd HGB.out gs.length (Nat.le_refl _)
        obtain ⟨s, hs⟩ : ∃ s, s = seqG gs gs.length := ⟨_, rfl⟩
        rw [← hs] at hbd ⊢
        have hs0 : 0 ≤ s := by omega
        have hsl : s ≤ 10240 := by omega
        have hw1 : IntKind.u64.wrap (s + 2) = s + 2 := IntWalk.u64_in _ (by omega)
        have hmx := HST.out.kp.heap (fun h => h) HHX.out
        have e0 := cell_of_row _ _ 0 _ _ _ hmx
        have e1 := cell_of_row _ _ 1 _ _ _ hmx
        clear hbd hs hmx
        go_wp2_with fail
        obtain ⟨done, hdone⟩ : ∃ d, d = m0 % (s + 2) := ⟨_, rfl⟩
        rw [← hdone]
        have hd0 : 0 ≤ done := by rw [hdone]; exact Int.emod_nonneg _ (by omega)
        have hd1 : done < s + 2 := by rw [hdone]; exact Int.emod_lt_of_pos _ (by omega)
        have hm1' : 0 ≤ m1 % 1000 := Int.emod_nonneg _ (by decide)
        have hm2' : m1 % 1000 < 1000 := Int.emod_lt_of_pos _ (by decide)
        have hw2 : IntKind.u64.wrap (done + m1 % 1000) = done + m1 % 1000 := IntWalk.u64_in _ (by omega)
        obtain ⟨L, hL⟩ : ∃ L, L = versG first gs gs.length := ⟨_, rfl⟩
        have hll : L.length ≤ 1000 := by rw [hL, versG_len]; omega
        rw [← hL] at HST
        have HW2 := Lib.hid hw2
        clear hdone hw1 e0 e1 hL hw2
        refine (VTrim_any wr W.heap.size G1 L done HST.out.b1 (by omega)).mono ?_
        rintro e w9 ⟨rfl, hb9, hk9⟩
        have HST9 := Lib.hid (HST.out.turn (hb9.mono (fun _ _ h => .inl h)) hk9)
        have HA := Lib.hid HST.out.b1.asc
        have e1 := cell_of_row _ _ 1 _ _ _ (HST9.out.kp.heap (fun h => h) HHX.out)
        have hw2 := HW2.out
        clear hb9 hk9
        go_upto_region 16 with fail
        obtain ⟨later, hlater⟩ : ∃ l, l = done + m1 % 1000 := ⟨_, rfl⟩
        rw [← hlater]
        have hl0 : done ≤ later := by omega
        obtain ⟨a1, c1, hc1, hv1⟩ := HST9.out.b1.vs
        obtain ⟨a2, c2, hc2, hv2⟩ := HST9.out.b2.vs
        have HT1 := Lib.hid (TellsV.of hc1)
        have HT2 := Lib.hid (TellsV.of hc2)
        have HV1 := Lib.hid hv1
        have HV2 := Lib.hid hv2
        have HA1 := Lib.hid HST9.out.b1.asc
        have hl1 : (trimV L done).length ≤ 100000 := by have := trimV_len L done; omega
        obtain ⟨⟨p0, p1, p2⟩, hp⟩ : ∃ x, x = lastV L := ⟨_, rfl⟩
        obtain ⟨⟨q0, q1, q2⟩, hq⟩ : ∃ x, x = cleanV L done := ⟨_, rfl⟩
        obtain ⟨⟨r0, r1, r2⟩, hr⟩ : ∃ x, x = cleanV L later := ⟨_, rfl⟩
        obtain ⟨bd, hbd⟩ : ∃ x, x = dirtyB L done := ⟨_, rfl⟩
        obtain ⟨be, hbe⟩ : ∃ x, x = dirtyB L later := ⟨_, rfl⟩
        have hlast : ∀ l : List Vn, Asc l → (lastV l).d.length ≤ 1000000 := fun l hl => by have := hl.fit (l.length - 1); unfold lastV; omega
        have HL1 := Lib.hid (fun w' (hk : Kept NoB w9 w') => (VLast_any w' _ _ (trimV L done) _ (HT1.out.no hk) (HV1.out.no hk) (hlast _ HA1.out)).mono fun e w'' h => TellV.ofO (x0 := p0) (x1 := p1) (x2 := p2) (by rw [hp, ← trimV_last HA.out done]; exact h))
        have HL2 := Lib.hid (fun w' (hk : Kept NoB w9 w') => (VLast_any w' _ _ L _ (HT2.out.no hk) (HV2.out.no hk) (hlast _ HA.out)).mono fun e w'' h => TellV.ofO (x0 := p0) (x1 := p1) (x2 := p2) (by rw [hp]; exact h))
        have HC1 := Lib.hid (fun w' (hk : Kept NoB w9 w') => (VClean_any w' _ _ (trimV L done) done _ (HT1.out.no hk) (HV1.out.no hk) HA1.out hl1).mono fun e w'' h => TellV.ofO (x0 := q0) (x1 := q1) (x2 := q2) (by rw [hq, ← trimV_clean HA.out (Int.le_refl done)]; exact h))
        have HC2 := Lib.hid (fun w' (hk : Kept NoB w9 w') => (VClean_any w' _ _ L done _ (HT2.out.no hk) (HV2.out.no hk) HA.out (by omega)).mono fun e w'' h => TellV.ofO (x0 := q0) (x1 := q1) (x2 := q2) (by rw [hq]; exact h))
        have HE1 := Lib.hid (fun w' (hk : Kept NoB w9 w') => (VClean_any w' _ _ (trimV L done) later _ (HT1.out.no hk) (HV1.out.no hk) HA1.out hl1).mono fun e w'' h => TellV.ofO (x0 := r0) (x1 := r1) (x2 := r2) (by rw [hr, ← trimV_clean HA.out hl0]; exact h))
        have HE2 := Lib.hid (fun w' (hk : Kept NoB w9 w') => (VClean_any w' _ _ L later _ (HT2.out.no hk) (HV2.out.no hk) HA.out (by omega)).mono fun e w'' h => TellV.ofO (x0 := r0) (x1 := r1) (x2 := r2) (by rw [hr]; exact h))
        have HD1 := Lib.hid (fun w' (hk : Kept NoB w9 w') => (VDirty_any w' _ _ (trimV L done) done _ (HT1.out.no hk) (HV1.out.no hk)).mono fun e w'' h => show e = .returned (.bool bd) ∧ Kept NoB w' w'' from ⟨by rw [hbd, ← trimV_dirty HA.out done]; exact h.1, h.2⟩)
        have HD2 := Lib.hid (fun w' (hk : Kept NoB w9 w') => (VDirty_any w' _ _ L done _ (HT2.out.no hk) (HV2.out.no hk)).mono fun e w'' h => show e = .returned (.bool bd) ∧ Kept NoB w' w'' from ⟨by rw [hbd]; exact h.1, h.2⟩)
        have HF1 := Lib.hid (fun w' (hk : Kept NoB w9 w') => (VDirty_any w' _ _ (trimV L done) later _ (HT1.out.no hk) (HV1.out.no hk)).mono fun e w'' h => show e = .returned (.bool be) ∧ Kept NoB w' w'' from ⟨by rw [hbe, ← trimV_dirty HA.out done]; exact h.1, h.2⟩)
        have HF2 := Lib.hid (fun w' (hk : Kept NoB w9 w') => (VDirty_any w' _ _ L later _ (HT2.out.no hk) (HV2.out.no hk)).mono fun e w'' h => show e = .returned (.bool be) ∧ Kept NoB w' w'' from ⟨by rw [hbe]; exact h.1, h.2⟩)
        have HTA := Lib.hid (trimV_again HA.out done)
        have hbb : (bd != bd) = false := by simp
        have hee : (be == be) = true := by simp
        have HKe := Lib.hid (Kept.refl NoB w9)
        clear hw2 e1 hlater hc1 hc2 hv1 hv2 hp hq hr hbd hbe hlast
        go_wp2_with fail
        refine (HL1.out _ HKe.out).mono ?_
        rintro e p1 ⟨u1, n1, c1, rfl, hv1, hk1⟩
        have HVA1 := Lib.hid hv1
        replace HKe := Lib.hid (HKe.out.trans hk1 (fun _ _ h => h))
        clear hv1 hk1
        go_wp2_with fail
        refine (HL2.out _ HKe.out).mono ?_
        rintro e q1 ⟨u'1, n'1, c'1, rfl, hv1, hk1⟩
        have HWA1 := Lib.hid hv1
        replace HVA1 := Lib.hid (HVA1.out.no hk1)
        replace HKe := Lib.hid (HKe.out.trans hk1 (fun _ _ h => h))
        clear hv1 hk1
        go_wp2_with fail
        refine (same_two15 _ _ _ _ _ _ _ _ _ _ HVA1.out HWA1.out).mono ?_
        rintro e s1 ⟨rfl, hk1⟩
        replace HKe := Lib.hid (HKe.out.trans hk1 (fun _ _ h => h))
        clear hk1
        go_wp2_with fail
        refine (HC1.out _ HKe.out).mono ?_
        rintro e p2 ⟨u2, n2, c2, rfl, hv2, hk2⟩
        have HVA2 := Lib.hid hv2
        replace HKe := Lib.hid (HKe.out.trans hk2 (fun _ _ h => h))
        clear hv2 hk2
        go_wp2_with fail
        refine (HC2.out _ HKe.out).mono ?_
        rintro e q2 ⟨u'2, n'2, c'2, rfl, hv2, hk2⟩
        have HWA2 := Lib.hid hv2
        replace HVA2 := Lib.hid (HVA2.out.no hk2)
        replace HKe := Lib.hid (HKe.out.trans hk2 (fun _ _ h => h))
        clear hv2 hk2
        go_wp2_with fail
        refine (same_two15 _ _ _ _ _ _ _ _ _ _ HVA2.out HWA2.out).mono ?_
        rintro e s2 ⟨rfl, hk2⟩
        replace HKe := Lib.hid (HKe.out.trans hk2 (fun _ _ h => h))
        clear hk2
        go_wp2_with fail
        refine (HD1.out _ HKe.out).mono ?_
        rintro e x1 ⟨rfl, hk1⟩
        replace HKe := Lib.hid (HKe.out.trans hk1 (fun _ _ h => h))
        clear hk1
        go_wp2_with fail
        refine (HD2.out _ HKe.out).mono ?_
        rintro e x2 ⟨rfl, hk1⟩
        replace HKe := Lib.hid (HKe.out.trans hk1 (fun _ _ h => h))
        clear hk1
        go_wp2_with fail
        refine (HE1.out _ HKe.out).mono ?_
        rintro e p3 ⟨u3, n3, c3, rfl, hv3, hk3⟩
        have HVA3 := Lib.hid hv3
        replace HKe := Lib.hid (HKe.out.trans hk3 (fun _ _ h => h))
        clear hv3 hk3
        go_wp2_with fail
        refine (HE2.out _ HKe.out).mono ?_
        rintro e q3 ⟨u'3, n'3, c'3, rfl, hv3, hk3⟩
        have HWA3 := Lib.hid hv3
        replace HVA3 := Lib.hid (HVA3.out.no hk3)
        replace HKe := Lib.hid (HKe.out.trans hk3 (fun _ _ h => h))
        clear hv3 hk3
        go_wp2_with fail
        refine (same_two15 _ _ _ _ _ _ _ _ _ _ HVA3.out HWA3.out).mono ?_
        rintro e s3 ⟨rfl, hk3⟩
        replace HKe := Lib.hid (HKe.out.trans hk3 (fun _ _ h => h))
        clear hk3
        go_wp2_with fail
        refine (HF1.out _ HKe.out).mono ?_
        rintro e x3 ⟨rfl, hk1⟩
        replace HKe := Lib.hid (HKe.out.trans hk1 (fun _ _ h => h))
        clear hk1
        go_wp2_with fail
        refine (HF2.out _ HKe.out).mono ?_
        rintro e x4 ⟨rfl, hk1⟩
        replace HKe := Lib.hid (HKe.out.trans hk1 (fun _ _ h => h))
        clear hk1
        have HSTE := Lib.hid (HST9.out.no HKe.out)
        go_wp2_with fail
        refine (VTrim_any x4 W.heap.size _ (trimV L done) done HSTE.out.b1 hl1).mono ?_
        rintro e x5 ⟨rfl, hb5, hk5⟩
        rw [HTA.out]
        have HK5 := Lib.hid (HSTE.out.turn (hb5.mono (fun _ _ h => .inl h)) hk5).kp
        clear hb5 hk5
        go_wp2_with fail
        refine (HAW.out _).mono ?_
        rintro e x6 ⟨rfl, hk6⟩
        have HK6 := Lib.hid ((HKW.out.trans HK5.out (fun _ _ h => h)).trans hk6 (fun _ _ h => h))
        clear hk6
        go_wp2
        go_ret
        exact ⟨rfl, HK6.out⟩
end Go.Proofs.Ytnmclhgljpcjcaa
