/-
  The chapter's inodes: Blocks, Same.
-/
import Derived.Test.YtbacnkndllifaaaInoD
namespace Go.Proofs.Ytbacnkndllifaaa
open Go.RowKit
set_option linter.unusedVariables false

/-- How many blocks an extent has. -/
def cnt28 (n : Int) : Nat := if 1 ≤ n ∧ n ≤ 8 then n.toNat else 0
theorem cnt28_lt {n : Int} {k : Nat} (h : k < cnt28 n) : (k : Int) < n ∧ n ≤ 8 := by
  unfold cnt28 at h; split at h <;> omega
theorem cnt28_end {n : Int} : ¬ ((cnt28 n : Nat) : Int) < n ∨ 8 < n := by
  unfold cnt28; split <;> omega
theorem eblk_cnt (e : Xt) : eblk e = run28 e.1 (cnt28 e.2) := by
  unfold eblk cnt28
  split <;> rfl
theorem cnt28_le (n : Int) : cnt28 n ≤ 8 := by unfold cnt28; split <;> omega
set_option maxRecDepth 100000 in
theorem rBlocks_any (m s : Int) (u : Value) (l : List Xt) (F : Nat → Prop) (w : World) (h : XSl w F u l) (hl : l.length ≤ 1000) :
    Calls Try.prog 38 #[iv28 m s u] w (ListE (blk l) w) := by
  obtain ⟨a, cap, rfl, hca, hcm, _⟩ := id h
  have hk0 := (Kept.refl NoB w).alloc (.cells #[.int .i64 m, .int .i64 s, .slice a l.length cap] 43)
  have HX := Lib.hid (h.no hk0)
  have HK0 := Lib.hid hk0
  have HC2 : Hid (∀ W, Kept NoB (w.alloc (.cells #[.int .i64 m, .int .i64 s, .slice a l.length cap] 43)) W → W.cell? ⟨w.heap.size, 2, none⟩ = some (.slice a l.length cap)) := Lib.hid (fun W hk => hk.cell (p := ⟨w.heap.size, 2, none⟩) (fun h => h) (box3 (w := w) (x := .int .i64 m) (y := .int .i64 s) (z := .slice a l.length cap) (t := 43)).2.2)
  have hlm : l.length ≤ 9223372036854775807 := by omega
  clear h hk0
  go_enter Try.func38, Try.ntmps38
  go_wp2
  have hw0 : w.heap.size ≤ (w.alloc (.cells #[.int .i64 m, .int .i64 s, .slice a l.length cap] 43)).heap.size := by simp
  obtain ⟨w0, hw⟩ : ∃ w0, w0 = w.alloc (.cells #[.int .i64 m, .int .i64 s, .slice a l.length cap] 43) := ⟨_, rfl⟩
  rw [← hw] at HX HK0 HC2 hw0 ⊢
  clear hw
  go_loopw [3, 4] (fun u i wr => ∃ j : Nat, j ≤ l.length ∧ i = .int .i64 j ∧ IOwn w0.heap.size wr u (blk (l.take j)) ∧ Kept NoB w0 wr) (fun _ i _ => l.length - (intOf i).toNat)
  case atStart => exact ⟨0, by omega, rfl, IOwn.nil _ _, Kept.refl _ _⟩
  case round =>
    obtain ⟨j, hj, rfl, hown, hkk⟩ := hrel
    have HK := Lib.hid hkk
    have HO := Lib.hid hown
    have hbl := blk_take_len l j
    have hsz := hkk.size
    obtain ⟨M, hM⟩ : ∃ M, M = blk (l.take j) := ⟨_, rfl⟩
    rw [← hM] at HO hbl
    have HM := Lib.hid hM
    have c2 := HC2.out wr hkk
    obtain ⟨wa, hwa⟩ : ∃ wa, wa = wr := ⟨_, rfl⟩
    rw [← hwa] at HK HO hsz c2 ⊢
    clear hown hkk hM hwa wr
    by_cases hlt : j < l.length
    · obtain ⟨b, o, rfl, _, hb, e0, e1⟩ := HX.out.at_ hlt
      obtain ⟨x, hx⟩ : ∃ x, x = xth l j := ⟨_, rfl⟩
      rw [← hx] at e0 e1
      have HS : Hid (blk (l.take (j + 1)) = M ++ run28 x.1 (cnt28 x.2)) := Lib.hid (by rw [xtake_snoc hlt, blk_snoc, ← HM.out, hx, eblk_cnt])
      obtain ⟨xs, xn⟩ := x
      simp only at e0 e1 HS
      have E0 := Lib.hid (fun W (hk : Kept NoB w0 W) => hk.cell (p := ⟨b, o + j * 2, none⟩) (fun h => h) e0)
      have E1 := Lib.hid (fun W (hk : Kept NoB w0 W) => hk.cell (p := ⟨b, o + j * 2 + 1, none⟩) (fun h => h) e1)
      have hj0 : (0 : Int) ≤ (j : Int) := by omega
      have hj1 : (j : Int) < (l.length : Int) := by omega
      have hcn := cnt28_le xn
      have HCE := Lib.hid (cnt28_end (n := xn))
      have HCL := Lib.hid (fun k => cnt28_lt (n := xn) (k := k))
      obtain ⟨q, hq⟩ : ∃ q, q = cnt28 xn := ⟨_, rfl⟩
      rw [← hq] at HS hcn HCE
      simp only [← hq] at HCL
      clear hx e0 e1 hq
      have e0 := E0.out wa HK.out
      have e1 := E1.out wa HK.out
      go_wp2
      clear c2 e0 e1
      go_loopw [3, 5] (fun u i wr => ∃ k : Nat, k ≤ q ∧ i = .int .i64 k ∧ IOwn w0.heap.size wr u (M ++ run28 xs k) ∧ Kept NoB w0 wr) (fun _ i _ => q - (intOf i).toNat)
      case atStart => exact ⟨0, by omega, rfl, by rw [show run28 xs 0 = [] from rfl, List.append_nil]; exact HO.out, HK.out⟩
      case round =>
        obtain ⟨k, hk, rfl, hown, hkk⟩ := hrel
        have HKI := Lib.hid hkk
        have HOI := Lib.hid hown
        have c2 := HC2.out wr hkk
        have e0 := E0.out wr hkk
        have e1 := E1.out wr hkk
        have hszi := hkk.size
        have hml : (M ++ run28 xs k).length ≤ 8 * l.length + 8 := by rw [List.length_append, run28_len]; omega
        obtain ⟨N, hN⟩ : ∃ N, N = M ++ run28 xs k := ⟨_, rfl⟩
        rw [← hN] at HOI hml
        have HN := Lib.hid hN
        clear hown hkk hN
        by_cases hkq : k < q
        · obtain ⟨h1, h2⟩ := HCL.out k hkq
          obtain ⟨y, hy⟩ : ∃ y, y = IntKind.i64.wrap (xs + (k : Int)) := ⟨_, rfl⟩
          have HM2 : Hid (M ++ run28 xs (k + 1) = N ++ [y]) := Lib.hid (by rw [run28_succ, ← List.append_assoc, ← HN.out, hy])
          have hy' := hy.symm
          have HO1 := Lib.hid (row_keptI HOI.out ((Kept.refl NoB wr).alloc (.cells #[.int .i64 y] 3)) (fun _ _ h => h))
          have HON := Lib.hid (nsl_one (heap_alloc_new wr (.cells #[.int .i64 y] 3)))
          have HSZ : Hid (w0.heap.size ≤ (wr.alloc (.cells #[.int .i64 y] 3)).heap.size) := Lib.hid (by simp; omega)
          have d1 : decide ((k : Int) < xn) = true := decide_eq_true h1
          have d2 : decide (xn ≤ 8) = true := decide_eq_true h2
          clear hy
          go_wp2_with (at_builtin; refine wpList_append_nsl _ rfl (.tmp 32) (.tmp 41) rfl w0.heap.size u3 N rfl HO1.out (fun _ => True) (.slice (some ⟨wr.heap.size, 0, none⟩) 1 1) [y] rfl HON.out (by simp; omega) HSZ.out ?_; intro a1 d1' w3 hown1 hg1 _; have HP := Lib.hid hown1; have HK3 := Lib.hid ((HKI.out.alloc (.cells #[.int .i64 y] 3)).grown hg1 (fun b hb => .inr (World.ownsRow.lt HO1.out b hb).1)); clear hown1 hg1)
          go_roundw
          case rel => exact ⟨k + 1, by omega, by go_num, by rw [HM2.out]; exact HP.out, HK3.out⟩
          case measure => simp [intOf]; omega
        · obtain rfl : k = q := by omega
          have HX2 : Hid (IOwn w0.heap.size wr u3 (blk (l.take (j + 1)))) := Lib.hid (by rw [HS.out, ← HN.out]; exact HOI.out)
          have HKA := HKI
          by_cases h1 : (k : Int) < xn
          · have d1 : decide ((k : Int) < xn) = true := decide_eq_true h1
            have d2 : decide (xn ≤ 8) = false := decide_eq_false (by have := HCE.out; omega)
            go_wp2
            go_roundw
            case rel => exact ⟨j + 1, by omega, by go_num, HX2.out, HKA.out⟩
            case measure => simp [intOf]; omega
          · have d1 : decide ((k : Int) < xn) = false := decide_eq_false h1
            clear h1
            go_wp2
            go_roundw
            case rel => exact ⟨j + 1, by omega, by go_num, HX2.out, HKA.out⟩
            case measure => simp [intOf]; omega
    · obtain rfl : j = l.length := by omega
      have HE : Hid (ListE (blk l) w (.returned u3) wa) := Lib.hid (by
        have := ListE.mk (HO.out.low hw0) (HK0.out.trans HK.out (fun _ _ h => h))
        rwa [HM.out, List.take_length] at this)
      go_wp2
      go_ret
      exact HE.out

set_option maxRecDepth 100000 in
theorem rSame28_any (m1 s1 m2 s2 : Int) (u1 u2 : Value) (l1 l2 : List Xt) (F G : Nat → Prop) (w : World) (h1 : XSl w F u1 l1) (h2 : XSl w G u2 l2) :
    Calls Try.prog 36 #[iv28 m1 s1 u1, iv28 m2 s2 u2] w (BoolE (decide (m1 = m2 ∧ s1 = s2 ∧ l1 = l2)) w) := by
  obtain ⟨a, ca, rfl, hca, hcm, _⟩ := id h1
  obtain ⟨b, cb, rfl, hcb, hbm, _⟩ := id h2
  have hK := two28 w m1 s1 m2 s2 (.slice a l1.length ca) (.slice b l2.length cb) 43 43
  have HV := Lib.hid (h1.no hK)
  have HU := Lib.hid (h2.no hK)
  have HK := Lib.hid hK
  have hc := box3 (w := w) (x := .int .i64 m1) (y := .int .i64 s1) (z := .slice a l1.length ca) (t := 43)
  have hd := box3' (w := w) (o := .cells #[.int .i64 m1, .int .i64 s1, .slice a l1.length ca] 43) (x := .int .i64 m2) (y := .int .i64 s2) (z := .slice b l2.length cb) (t := 43)
  have c0 := cell_alloc hc.1 (.cells #[.int .i64 m2, .int .i64 s2, .slice b l2.length cb] 43)
  have c1 := cell_alloc hc.2.1 (.cells #[.int .i64 m2, .int .i64 s2, .slice b l2.length cb] 43)
  have c2 := cell_alloc hc.2.2 (.cells #[.int .i64 m2, .int .i64 s2, .slice b l2.length cb] 43)
  obtain ⟨d0, d1, d2⟩ := hd
  unfold maxLen at hcm hbm
  clear hK h1 h2 hc
  by_cases hm : m1 = m2
  · by_cases hs : s1 = s2
    · by_cases hl : l1.length = l2.length
      · have HE : Hid (decide (m1 = m2 ∧ s1 = s2 ∧ l1 = l2) = decide (l1 = l2)) := Lib.hid (by simp [hm, hs])
        have e1 : (m1 != m2) = false := by simpa using hm
        have e2 : (s1 != s2) = false := by simpa using hs
        have HL := Lib.hid hl
        obtain ⟨n, hn⟩ : ∃ n, n = l2.length := ⟨_, rfl⟩
        have hln : l1.length = n := by omega
        have HN := Lib.hid hn
        have HLN := Lib.hid hln
        rw [HE.out]
        rw [← hn] at hcb HU d2 c0 c1 c2 HK d0 d1 HV ⊢
        rw [hln] at hca HV c2 HK d2 HU d0 d1 c0 c1 ⊢
        clear hm hs hl hn hln HE
        go_enter Try.func36, Try.ntmps36
        go_wp2
        obtain ⟨w0, hw⟩ : ∃ w0, w0 = (w.alloc (.cells #[.int .i64 m1, .int .i64 s1, .slice a n ca] 43)).alloc (.cells #[.int .i64 m2, .int .i64 s2, .slice b n cb] 43) := ⟨_, rfl⟩
        rw [← hw] at HV HU HK c2 d2 ⊢
        clear hw c0 c1 d0 d1
        go_loopw [5] (fun i wr => ∃ k d : Nat, i = .int .i64 k ∧ k ≤ n ∧ (∀ j, j < k → xth l1 j = xth l2 j) ∧ wr = w0.drewN d) (fun i _ => n - (intOf i).toNat)
        case atStart => exact ⟨0, 0, rfl, Nat.zero_le _, fun j h => absurd h (by omega), rfl⟩
        case round =>
          obtain ⟨k, d, rfl, hk, hno, rfl⟩ := hrel
          have HNO := Lib.hid hno
          clear hno
          by_cases hlt : k < n
          · obtain ⟨b1, o1, rfl, _, _, hc1, hc1'⟩ := HV.out.at_ (j := k) (by have := HLN.out; omega)
            obtain ⟨b2, o2, rfl, _, _, hc2, hc2'⟩ := HU.out.at_ (j := k) (by have := HN.out; omega)
            obtain ⟨x, hx⟩ : ∃ x, x = xth l1 k := ⟨_, rfl⟩
            obtain ⟨y, hy⟩ : ∃ y, y = xth l2 k := ⟨_, rfl⟩
            rw [← hx] at hc1 hc1'
            rw [← hy] at hc2 hc2'
            have HX := Lib.hid hx
            have HY := Lib.hid hy
            have hk0 : (0 : Int) ≤ (k : Int) := by omega
            have hk1 : (k : Int) < (n : Int) := by omega
            obtain ⟨x1, x2⟩ := x
            obtain ⟨y1, y2⟩ := y
            clear hx hy
            by_cases he : x1 = y1 ∧ x2 = y2
            · have HE := Lib.hid he
              have e1 : (x1 != y1) = false := by rw [he.1]; simp
              have e2 : (x2 != y2) = false := by rw [he.2]; simp
              have e3 : (x1 == y1) = true := by rw [he.1]; simp
              have e4 : (x2 == y2) = true := by rw [he.2]; simp
              clear he
              go_wp2
              go_quiet (fail)
              go_wp2
              refine ⟨⟨k + 1, _, by go_num, by omega, fun j hj => ?_, rfl⟩, by simp [intOf]; omega⟩
              by_cases hjk : j = k
              · subst hjk; rw [← HX.out, ← HY.out, HE.out.1, HE.out.2]
              · exact HNO.out j (by omega)
            · have HE : Hid (decide (l1 = l2) = false) := Lib.hid (decide_eq_false (fun h => he (by
                have : xth l1 k = xth l2 k := by rw [h]
                rw [← HX.out, ← HY.out] at this
                injection this with h1 h2
                exact ⟨h1, h2⟩)))
              by_cases e : x1 = y1
              · have e5 : ¬ x2 = y2 := fun h => he ⟨e, h⟩
                have e1 : (x1 != y1) = false := by rw [e]; simp
                have e2 : (x2 != y2) = true := by simp [e5]
                have e3 : (x1 == y1) = true := by rw [e]; simp
                have e4 : (x2 == y2) = false := by simp [e5]
                clear he e e5
                go_wp2
                go_quiet (fail)
                go_wp2
                go_ret
                exact ⟨(by rw [HE.out] <;> rfl), (HK.out.drewN _).drewN _⟩
              · have e1 : (x1 != y1) = true := by simp [e]
                have e3 : (x1 == y1) = false := by simp [e]
                clear he e
                go_wp2
                go_quiet (fail)
                go_wp2
                go_ret
                exact ⟨(by rw [HE.out] <;> rfl), (HK.out.drewN _).drewN _⟩
          · obtain rfl : k = n := by omega
            have HE : Hid (decide (l1 = l2) = true) := Lib.hid (decide_eq_true (xeq_of HL.out (fun j hj => HNO.out j (by have := HLN.out; omega))))
            go_wp2
            go_ret
            exact ⟨(by rw [HE.out] <;> rfl), HK.out.drewN _⟩
      · have HE : Hid (decide (m1 = m2 ∧ s1 = s2 ∧ l1 = l2) = false) := Lib.hid (decide_eq_false (fun h => hl (by rw [h.2.2])))
        have e1 : (m1 != m2) = false := by simpa using hm
        have e2 : (s1 != s2) = false := by simpa using hs
        have e3 : ((l1.length : Int) != (l2.length : Int)) = true := by rw [bne_iff_ne]; omega
        rw [HE.out]
        clear hm hs hl HE
        go_enter Try.func36, Try.ntmps36
        go_wp2
        go_ret
        exact ⟨rfl, HK.out⟩
    · have HE : Hid (decide (m1 = m2 ∧ s1 = s2 ∧ l1 = l2) = false) := Lib.hid (by simp [hs])
      have e1 : (m1 != m2) = false := by simpa using hm
      have e2 : (s1 != s2) = true := by simpa using hs
      rw [HE.out]
      clear hm hs HE
      go_enter Try.func36, Try.ntmps36
      go_wp2
      go_ret
      exact ⟨rfl, HK.out⟩
  · have HE : Hid (decide (m1 = m2 ∧ s1 = s2 ∧ l1 = l2) = false) := Lib.hid (by simp [hm])
    have e1 : (m1 != m2) = true := by simpa using hm
    rw [HE.out]
    clear hm HE
    go_enter Try.func36, Try.ntmps36
    go_wp2
    go_ret
    exact ⟨rfl, HK.out⟩
end Go.Proofs.Ytbacnkndllifaaa
