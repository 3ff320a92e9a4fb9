/-
  Package role and the chapter: Reports.
-/
import Derived.Test.YtajneoaljpljpaaRolK
import Derived.Test.YtajneoaljpljpaaRolG
import Derived.Deep.Cut
namespace Go.Proofs.Ytajneoaljpljpaa
open Go.RowKit
set_option linter.unusedVariables false
set_option linter.unusedSimpArgs false

def rep1 (c : Cf) (l : List Int) (x : Int) : List Rc := if x ≠ 0 ∧ x ∈ l then [⟨1, c.ch, c.ep, x⟩] else []
/-- What a node reports. -/
def repC (c : Cf) (n : Int) (l : List Int) : List Rc := rep1 c l (rlOf c n).pred ++ rep1 c l (rlOf c n).succ
def repK (A B : List Rc) (k : Nat) : List Rc := if k = 0 then [] else if k = 1 then A else A ++ B
theorem rep1_len (c : Cf) (l : List Int) (x : Int) : (rep1 c l x).length ≤ 1 := by unfold rep1; split <;> simp
def RepE (L : List Rc) (w : World) (e : Ending) (w' : World) : Prop := ∃ v', e = .returned v' ∧ RcOwn w.heap.size w' v' L ∧ Kept NoB w w'
set_option maxRecDepth 100000 in
set_option maxHeartbeats 2000000 in
theorem Reports19 (v u : Value) (c : Cf) (n : Int) (l : List Int) (w : World) (h : CfR w AnyC v c) (hl : NSl w AnyC u l) : Calls Try.prog 15 #[v, .int .i64 n, u] w (RepE (repC c n l) w) := by
  have HO := Lib.hid (fun w' (hk : Kept NoB w w') => Of19 _ c n AnyC w' (h.no hk))
  have HH := Lib.hid (fun x w' (hk : Kept NoB w w') => Contains_any u l x AnyC w' (hl.kept hk (fun _ _ _ h => h)))
  have HNR := Lib.hid (near_range c n)
  obtain ⟨u1, rfl, hn, h0, htop⟩ := h
  obtain ⟨a, cap, rfl, _⟩ := hn
  obtain ⟨b, cab, rfl, _⟩ := hl
  have HR : Hid (repC c n l = rep1 c l (rlOf c n).pred ++ rep1 c l (rlOf c n).succ) := Lib.hid rfl
  obtain ⟨L, hL⟩ : ∃ L, L = repC c n l := ⟨_, rfl⟩
  rw [← hL] at HR ⊢
  obtain ⟨⟨y0, y1, y2, y3, y4, y5, P, S⟩, hR⟩ : ∃ R, R = rlOf c n := ⟨_, rfl⟩
  rw [← hR] at HO HR HNR
  unfold RlE rlV at HO
  simp only at HO HR HNR
  have HP1 := Lib.hid (rep1_len c l P)
  have HS1 := Lib.hid (rep1_len c l S)
  have HRP : Hid (rep1 c l P = if P ≠ 0 ∧ P ∈ l then [⟨1, c.ch, c.ep, P⟩] else []) := Lib.hid rfl
  have HRS : Hid (rep1 c l S = if S ≠ 0 ∧ S ∈ l then [⟨1, c.ch, c.ep, S⟩] else []) := Lib.hid rfl
  obtain ⟨RP, hRP⟩ : ∃ x, x = rep1 c l P := ⟨_, rfl⟩
  obtain ⟨RS, hRS⟩ : ∃ x, x = rep1 c l S := ⟨_, rfl⟩
  rw [← hRP] at HRP HP1 HR
  rw [← hRS] at HRS HS1 HR
  obtain ⟨ch, ep, ns, fr, jn⟩ := c
  simp only at HO HRP HRS h0 htop ⊢
  obtain ⟨m, hm⟩ : ∃ m, m = ns.length := ⟨_, rfl⟩
  obtain ⟨N, hN⟩ : ∃ N, N = l.length := ⟨_, rfl⟩
  rw [← hm] at HO ⊢
  rw [← hN] at HH ⊢
  clear hL hR hRP hRS hm hN
  obtain ⟨V, hV⟩ : ∃ V, V = w.alloc (.cells #[.int .i64 ch, .int .u64 ep, .slice a m cap, .bool fr, .int .i64 jn] 25) := ⟨_, rfl⟩
  have HB : Hid (V.heap[w.heap.size]? = some (.cells #[.int .i64 ch, .int .u64 ep, .slice a m cap, .bool fr, .int .i64 jn] 25 (0, 0))) := Lib.hid (by rw [hV]; exact heap_alloc_new w _)
  have HKV : Hid (Kept NoB w V) := Lib.hid (by rw [hV]; exact (Kept.refl _ _).alloc _)
  have HV := Lib.hid hV
  clear hV
  go_enter Try.func15, Try.ntmps15
  go_wp2_with fail
  rw [← HV.out]
  refine (HO.out _ HKV.out).mono ?_
  rintro e w1 ⟨rfl, hk⟩
  have HKA := Lib.hid (hk.alloc (.cells #[.bool y0, .bool y1, .bool y2, .bool y3, .bool y4, .int .i64 y5, .int .i64 P, .int .i64 S] 29 (0, 0)))
  have HOA := Lib.hid (heap_alloc_new w1 (.cells #[.bool y0, .bool y1, .bool y2, .bool y3, .bool y4, .int .i64 y5, .int .i64 P, .int .i64 S] 29 (0, 0)))
  clear hk
  obtain ⟨W, hW⟩ : ∃ W, W = w1.alloc (.cells #[.bool y0, .bool y1, .bool y2, .bool y3, .bool y4, .int .i64 y5, .int .i64 P, .int .i64 S] 29 (0, 0)) := ⟨_, rfl⟩
  rw [← hW] at HKA HOA
  have HW := Lib.hid hW
  clear hW
  go_upto_region 4 with fail
  rw [← HW.out]
  have HKW := Lib.hid (HKV.out.trans HKA.out (fun _ _ h => h))
  go_loopw [8, 19] (fun ov iv wr => ∃ k : Nat, k ≤ 2 ∧ iv = .int .i64 k ∧ RcOwn W.heap.size wr ov (repK RP RS k) ∧ Kept NoB W wr) (fun _ i _ => 2 - (intOf i).toNat)
  case atStart => exact ⟨0, by omega, rfl, RcOwn.nil _ _, Kept.refl _ _⟩
  case round =>
    obtain ⟨k, hk, rfl, hown, hK⟩ := hrel
    have HOW := Lib.hid hown
    have HKR := Lib.hid hK
    obtain ⟨c0, c1, c2, c3, c4⟩ := cells5 ((HKA.out.trans hK (fun _ _ h => h)).heap (fun h => h) HB.out)
    have hk3 : k = 0 ∨ k = 1 ∨ k = 2 := by omega
    clear hown hK hk
    have hix0 : ∀ w : World, Sem.run Try.prog (Instr.index 44 (.agg #[.int .i64 P, .int .i64 S]) (.int .i64 0)) w = .ok (.int .i64 P) w := fun w => by kernel_rfl
    have hix1 : ∀ w : World, Sem.run Try.prog (Instr.index 44 (.agg #[.int .i64 P, .int .i64 S]) (.int .i64 1)) w = .ok (.int .i64 S) w := fun w => by kernel_rfl
    have hcz : ((0 : Nat) : Int) = 0 := rfl
    have hco : ((1 : Nat) : Int) = 1 := rfl
    have hct : ((2 : Nat) : Int) = 2 := rfl
    rcases hk3 with rfl | rfl | rfl
    · rw [show repK RP RS 0 = [] from rfl] at HOW
      by_cases hx : P = 0
      · have HN : Hid (repK RP RS 1 = []) := Lib.hid (by rw [show repK RP RS 1 = RP from rfl, HRP.out, if_neg (fun h => h.1 hx)])
        have hxb : ((P : Int) != 0) = false := by simp [hx]
        have hxc : ((P : Int) == 0) = true := by simp [hx]
        clear hx
        go_wp2
        exact ⟨⟨1, by omega, rfl, by rw [HN.out]; exact HOW.out, HKR.out⟩, by simp [intOf]⟩
      · have hxb : ((P : Int) != 0) = true := by simpa using hx
        have hxc : ((P : Int) == 0) = false := beq_eq_false_iff_ne.2 hx
        have HC := Lib.hid (HH.out P wr (HKW.out.trans HKR.out (fun _ _ h => h)))
        by_cases hm : P ∈ l
        · rw [decide_eq_true hm] at HC
          have HN : Hid (repK RP RS 1 = [] ++ [⟨1, ch, ep, P⟩]) := Lib.hid (by rw [show repK RP RS 1 = RP from rfl, HRP.out, if_pos ⟨hx, hm⟩] <;> rfl)
          have hlen : ([] : List Rc).length ≤ 1 := by first | exact HP1.out | decide
          clear hx hm
          go_wp2_with fail
          refine HC.out.mono ?_
          rintro e w2 ⟨rfl, rfl⟩
          have hka := (Kept.refl NoB wr).alloc (.cells #[.int .i64 1, .int .i64 ch, .int .u64 ep, .int .i64 P] 38 (0, 0))
          have HOB := Lib.hid (HOW.out.no hka)
          have HKB := Lib.hid (HKR.out.trans hka (fun _ _ h => h))
          have HNB := Lib.hid (heap_alloc_new wr (.cells #[.int .i64 1, .int .i64 ch, .int .u64 ep, .int .i64 P] 38 (0, 0)))
          have hsz : W.heap.size ≤ (wr.alloc (.cells #[.int .i64 1, .int .i64 ch, .int .u64 ep, .int .i64 P] 38 (0, 0))).heap.size := HKB.out.size
          clear hka
          go_wp2_with (at_builtin; refine wpList_append_rc _ rfl _ _ rfl W.heap.size _ [] rfl HOB.out wr.heap.size ⟨1, ch, ep, P⟩ rfl HNB.out (by omega) hsz _ rfl ?_; intro a' c' w' hown' hgrow' hat')
          have hk4 : Kept NoB W w' := HKB.out.grown hgrow' (fun i hi => .inr (HOB.out.base i hi).1)
          exact ⟨⟨1, by omega, rfl, by rw [HN.out]; exact hown', hk4⟩, by simp [intOf]⟩
        · rw [decide_eq_false hm] at HC
          have HN : Hid (repK RP RS 1 = []) := Lib.hid (by rw [show repK RP RS 1 = RP from rfl, HRP.out, if_neg (fun h => hm h.2)])
          clear hx hm
          go_wp2_with fail
          refine HC.out.mono ?_
          rintro e w2 ⟨rfl, rfl⟩
          go_wp2
          exact ⟨⟨1, by omega, rfl, by rw [HN.out]; exact HOW.out, HKR.out⟩, by simp [intOf]⟩
    · rw [show repK RP RS 1 = RP from rfl] at HOW
      by_cases hx : S = 0
      · have HN : Hid (repK RP RS 2 = RP) := Lib.hid (by rw [show repK RP RS 2 = (RP ++ RS) from rfl, HRS.out, if_neg (fun h => h.1 hx)]; try simp)
        have hxb : ((S : Int) != 0) = false := by simp [hx]
        have hxc : ((S : Int) == 0) = true := by simp [hx]
        clear hx
        go_wp2
        exact ⟨⟨2, by omega, rfl, by rw [HN.out]; exact HOW.out, HKR.out⟩, by simp [intOf]⟩
      · have hxb : ((S : Int) != 0) = true := by simpa using hx
        have hxc : ((S : Int) == 0) = false := beq_eq_false_iff_ne.2 hx
        have HC := Lib.hid (HH.out S wr (HKW.out.trans HKR.out (fun _ _ h => h)))
        by_cases hm : S ∈ l
        · rw [decide_eq_true hm] at HC
          have HN : Hid (repK RP RS 2 = RP ++ [⟨1, ch, ep, S⟩]) := Lib.hid (by rw [show repK RP RS 2 = (RP ++ RS) from rfl, HRS.out, if_pos ⟨hx, hm⟩] <;> rfl)
          have hlen : (RP : List Rc).length ≤ 1 := by first | exact HP1.out | decide
          clear hx hm
          go_wp2_with fail
          refine HC.out.mono ?_
          rintro e w2 ⟨rfl, rfl⟩
          have hka := (Kept.refl NoB wr).alloc (.cells #[.int .i64 1, .int .i64 ch, .int .u64 ep, .int .i64 S] 38 (0, 0))
          have HOB := Lib.hid (HOW.out.no hka)
          have HKB := Lib.hid (HKR.out.trans hka (fun _ _ h => h))
          have HNB := Lib.hid (heap_alloc_new wr (.cells #[.int .i64 1, .int .i64 ch, .int .u64 ep, .int .i64 S] 38 (0, 0)))
          have hsz : W.heap.size ≤ (wr.alloc (.cells #[.int .i64 1, .int .i64 ch, .int .u64 ep, .int .i64 S] 38 (0, 0))).heap.size := HKB.out.size
          clear hka
          go_wp2_with (at_builtin; refine wpList_append_rc _ rfl _ _ rfl W.heap.size _ RP rfl HOB.out wr.heap.size ⟨1, ch, ep, S⟩ rfl HNB.out (by omega) hsz _ rfl ?_; intro a' c' w' hown' hgrow' hat')
          have hk4 : Kept NoB W w' := HKB.out.grown hgrow' (fun i hi => .inr (HOB.out.base i hi).1)
          exact ⟨⟨2, by omega, rfl, by rw [HN.out]; exact hown', hk4⟩, by simp [intOf]⟩
        · rw [decide_eq_false hm] at HC
          have HN : Hid (repK RP RS 2 = RP) := Lib.hid (by rw [show repK RP RS 2 = (RP ++ RS) from rfl, HRS.out, if_neg (fun h => hm h.2)]; try simp)
          clear hx hm
          go_wp2_with fail
          refine HC.out.mono ?_
          rintro e w2 ⟨rfl, rfl⟩
          go_wp2
          exact ⟨⟨2, by omega, rfl, by rw [HN.out]; exact HOW.out, HKR.out⟩, by simp [intOf]⟩
    · go_wp2
      go_ret
      exact ⟨_, rfl, by rw [HR.out]; exact HOW.out.mono HKW.out.size, HKW.out.trans HKR.out (fun _ _ h => h)⟩
set_option maxRecDepth 100000 in
set_option maxHeartbeats 2000000 in
theorem RReports19 (v u : Value) (c : Cf) (n : Int) (l : List Int) (w : World) (h : CfR w AnyC v c) (hl : NSl w AnyC u l) : Calls Try.prog 16 #[v, .int .i64 n, u] w (RepE (repC c n l) w) := by
  have HO := Lib.hid (fun w' (hk : Kept NoB w w') => ROf19 _ c n AnyC w' (h.no hk))
  have HH := Lib.hid (fun x w' (hk : Kept NoB w w') => Has4_any u l x AnyC w' (hl.kept hk (fun _ _ _ h => h)))
  have HNR := Lib.hid (near_range c n)
  obtain ⟨u1, rfl, hn, h0, htop⟩ := h
  obtain ⟨a, cap, rfl, _⟩ := hn
  obtain ⟨b, cab, rfl, _⟩ := hl
  have HR : Hid (repC c n l = rep1 c l (rlOf c n).pred ++ rep1 c l (rlOf c n).succ) := Lib.hid rfl
  obtain ⟨L, hL⟩ : ∃ L, L = repC c n l := ⟨_, rfl⟩
  rw [← hL] at HR ⊢
  obtain ⟨⟨y0, y1, y2, y3, y4, y5, P, S⟩, hR⟩ : ∃ R, R = rlOf c n := ⟨_, rfl⟩
  rw [← hR] at HO HR HNR
  unfold RlE rlV at HO
  simp only at HO HR HNR
  have HP1 := Lib.hid (rep1_len c l P)
  have HS1 := Lib.hid (rep1_len c l S)
  have HRP : Hid (rep1 c l P = if P ≠ 0 ∧ P ∈ l then [⟨1, c.ch, c.ep, P⟩] else []) := Lib.hid rfl
  have HRS : Hid (rep1 c l S = if S ≠ 0 ∧ S ∈ l then [⟨1, c.ch, c.ep, S⟩] else []) := Lib.hid rfl
  obtain ⟨RP, hRP⟩ : ∃ x, x = rep1 c l P := ⟨_, rfl⟩
  obtain ⟨RS, hRS⟩ : ∃ x, x = rep1 c l S := ⟨_, rfl⟩
  rw [← hRP] at HRP HP1 HR
  rw [← hRS] at HRS HS1 HR
  obtain ⟨ch, ep, ns, fr, jn⟩ := c
  simp only at HO HRP HRS h0 htop ⊢
  obtain ⟨m, hm⟩ : ∃ m, m = ns.length := ⟨_, rfl⟩
  obtain ⟨N, hN⟩ : ∃ N, N = l.length := ⟨_, rfl⟩
  rw [← hm] at HO ⊢
  rw [← hN] at HH ⊢
  clear hL hR hRP hRS hm hN
  obtain ⟨V, hV⟩ : ∃ V, V = w.alloc (.cells #[.int .i64 ch, .int .u64 ep, .slice a m cap, .bool fr, .int .i64 jn] 25) := ⟨_, rfl⟩
  have HB : Hid (V.heap[w.heap.size]? = some (.cells #[.int .i64 ch, .int .u64 ep, .slice a m cap, .bool fr, .int .i64 jn] 25 (0, 0))) := Lib.hid (by rw [hV]; exact heap_alloc_new w _)
  have HKV : Hid (Kept NoB w V) := Lib.hid (by rw [hV]; exact (Kept.refl _ _).alloc _)
  have HV := Lib.hid hV
  clear hV
  go_enter Try.func16, Try.ntmps16
  go_wp2_with fail
  rw [← HV.out]
  refine (HO.out _ HKV.out).mono ?_
  rintro e w1 ⟨rfl, hk⟩
  have HKA := Lib.hid (hk.alloc (.cells #[.bool y0, .bool y1, .bool y2, .bool y3, .bool y4, .int .i64 y5, .int .i64 P, .int .i64 S] 28 (0, 0)))
  have HOA := Lib.hid (heap_alloc_new w1 (.cells #[.bool y0, .bool y1, .bool y2, .bool y3, .bool y4, .int .i64 y5, .int .i64 P, .int .i64 S] 28 (0, 0)))
  clear hk
  obtain ⟨W, hW⟩ : ∃ W, W = w1.alloc (.cells #[.bool y0, .bool y1, .bool y2, .bool y3, .bool y4, .int .i64 y5, .int .i64 P, .int .i64 S] 28 (0, 0)) := ⟨_, rfl⟩
  rw [← hW] at HKA HOA
  have HW := Lib.hid hW
  clear hW
  go_upto_region 3 with fail
  rw [← HW.out]
  have HKW := Lib.hid (HKV.out.trans HKA.out (fun _ _ h => h))
  have HCL : Hid (∀ w', Kept NoB W w' → w'.cell? ⟨w.heap.size, 0, none⟩ = some (.int .i64 ch) ∧ w'.cell? ⟨w.heap.size, 1, none⟩ = some (.int .u64 ep) ∧ w'.cell? ⟨w1.heap.size, 6, none⟩ = some (.int .i64 P) ∧ w'.cell? ⟨w1.heap.size, 7, none⟩ = some (.int .i64 S)) := Lib.hid (fun w' hk => by
    obtain ⟨c0, c1, _⟩ := cells5 ((HKA.out.trans hk (fun _ _ h => h)).heap (fun h => h) HB.out)
    obtain ⟨_, _, _, _, _, _, s6, s7⟩ := cells8 (hk.heap (fun h => h) HOA.out)
    exact ⟨c0, c1, s6, s7⟩)
  obtain ⟨c0, c1, s6, s7⟩ := HCL.out W (Kept.refl _ _)
  have hp0 : (0 : Int) ≤ P := HNR.out.1.1
  have hs0 : (0 : Int) ≤ S := HNR.out.2.1
  clear HB HOA
  by_cases hxp : P = 0
  · have HNp : Hid (RP = []) := Lib.hid (by rw [HRP.out, if_neg (fun h => h.1 hxp)])
    have hxgp : decide ((0 : Int) < P) = false := decide_eq_false (by omega)
    have hxnp : ¬ (0 : Int) < P := by omega
    clear hxp
    by_cases hxs : S = 0
    · have HNs : Hid (RS = []) := Lib.hid (by rw [HRS.out, if_neg (fun h => h.1 hxs)])
      have hxgs : decide ((0 : Int) < S) = false := decide_eq_false (by omega)
      have hxns : ¬ (0 : Int) < S := by omega
      clear hxs
      go_wp2
      go_ret
      exact ⟨_, rfl, by rw [HR.out, HNp.out, HNs.out]; exact ((RcOwn.nil W.heap.size W)).mono HKW.out.size, HKW.out.trans (Kept.refl NoB W) (fun _ _ h => h)⟩
    · have hxgs : decide ((0 : Int) < S) = true := decide_eq_true (by omega)
      have hxns : (0 : Int) < S := by omega
      have HCs := Lib.hid (HH.out S W (HKW.out.trans (Kept.refl NoB W) (fun _ _ h => h)))
      by_cases hms : S ∈ l
      · rw [decide_eq_true hms] at HCs
        have HNs : Hid (RS = [⟨1, ch, ep, S⟩]) := Lib.hid (by rw [HRS.out, if_pos ⟨hxs, hms⟩])
        clear hxs hms
        go_wp2_with fail
        refine HCs.out.mono ?_
        rintro e w2 ⟨rfl, rfl⟩
        have hkas := (Kept.refl NoB W).alloc (.cells #[.int .i64 1, .int .i64 ch, .int .u64 ep, .int .i64 S] 38 (0, 0))
        have HOBs := Lib.hid ((RcOwn.nil W.heap.size W).no hkas)
        have HKBs := Lib.hid ((Kept.refl NoB W).trans hkas (fun _ _ h => h))
        have HNBs := Lib.hid (heap_alloc_new W (.cells #[.int .i64 1, .int .i64 ch, .int .u64 ep, .int .i64 S] 38 (0, 0)))
        have hszs : W.heap.size ≤ (W.alloc (.cells #[.int .i64 1, .int .i64 ch, .int .u64 ep, .int .i64 S] 38 (0, 0))).heap.size := HKBs.out.size
        clear hkas
        go_wp2_with (at_builtin; refine wpList_append_rc _ rfl _ _ rfl W.heap.size _ [] rfl HOBs.out W.heap.size ⟨1, ch, ep, S⟩ rfl HNBs.out (by simp) hszs _ rfl ?_; intro ads cps wns howns hgrows hats; have hks : Kept NoB W wns := HKBs.out.grown hgrows (fun i hi => .inr (HOBs.out.base i hi).1); obtain ⟨c0, c1, s6, s7⟩ := HCL.out _ hks)
        go_ret
        exact ⟨_, rfl, by rw [HR.out, HNp.out, HNs.out]; exact (howns).mono HKW.out.size, HKW.out.trans hks (fun _ _ h => h)⟩
      · rw [decide_eq_false hms] at HCs
        have HNs : Hid (RS = []) := Lib.hid (by rw [HRS.out, if_neg (fun h => hms h.2)])
        clear hxs hms
        go_wp2_with fail
        refine HCs.out.mono ?_
        rintro e w2 ⟨rfl, rfl⟩
        go_wp2
        go_ret
        exact ⟨_, rfl, by rw [HR.out, HNp.out, HNs.out]; exact ((RcOwn.nil W.heap.size W)).mono HKW.out.size, HKW.out.trans (Kept.refl NoB W) (fun _ _ h => h)⟩
  · have hxgp : decide ((0 : Int) < P) = true := decide_eq_true (by omega)
    have hxnp : (0 : Int) < P := by omega
    have HCp := Lib.hid (HH.out P W (HKW.out.trans (Kept.refl NoB W) (fun _ _ h => h)))
    by_cases hmp : P ∈ l
    · rw [decide_eq_true hmp] at HCp
      have HNp : Hid (RP = [⟨1, ch, ep, P⟩]) := Lib.hid (by rw [HRP.out, if_pos ⟨hxp, hmp⟩])
      clear hxp hmp
      go_wp2_with fail
      refine HCp.out.mono ?_
      rintro e w2 ⟨rfl, rfl⟩
      have hkap := (Kept.refl NoB W).alloc (.cells #[.int .i64 1, .int .i64 ch, .int .u64 ep, .int .i64 P] 38 (0, 0))
      have HOBp := Lib.hid ((RcOwn.nil W.heap.size W).no hkap)
      have HKBp := Lib.hid ((Kept.refl NoB W).trans hkap (fun _ _ h => h))
      have HNBp := Lib.hid (heap_alloc_new W (.cells #[.int .i64 1, .int .i64 ch, .int .u64 ep, .int .i64 P] 38 (0, 0)))
      have hszp : W.heap.size ≤ (W.alloc (.cells #[.int .i64 1, .int .i64 ch, .int .u64 ep, .int .i64 P] 38 (0, 0))).heap.size := HKBp.out.size
      clear hkap
      go_upto_region 5 with (at_builtin; refine wpList_append_rc _ rfl _ _ rfl W.heap.size _ [] rfl HOBp.out W.heap.size ⟨1, ch, ep, P⟩ rfl HNBp.out (by simp) hszp _ rfl ?_; intro adp cpp wnp hownp hgrowp hatp; have hkp : Kept NoB W wnp := HKBp.out.grown hgrowp (fun i hi => .inr (HOBp.out.base i hi).1); obtain ⟨c0, c1, s6, s7⟩ := HCL.out _ hkp)
      have HOP : Hid (RcOwn W.heap.size wnp (.slice adp 1 cpp) [⟨1, ch, ep, P⟩]) := Lib.hid hownp
      clear hownp hgrowp hatp
      by_cases hxs : S = 0
      · have HNs : Hid (RS = []) := Lib.hid (by rw [HRS.out, if_neg (fun h => h.1 hxs)])
        have hxgs : decide ((0 : Int) < S) = false := decide_eq_false (by omega)
        have hxns : ¬ (0 : Int) < S := by omega
        clear hxs
        go_wp2
        go_ret
        exact ⟨_, rfl, by rw [HR.out, HNp.out, HNs.out]; exact (HOP.out).mono HKW.out.size, HKW.out.trans hkp (fun _ _ h => h)⟩
      · have hxgs : decide ((0 : Int) < S) = true := decide_eq_true (by omega)
        have hxns : (0 : Int) < S := by omega
        have HCs := Lib.hid (HH.out S wnp (HKW.out.trans hkp (fun _ _ h => h)))
        by_cases hms : S ∈ l
        · rw [decide_eq_true hms] at HCs
          have HNs : Hid (RS = [⟨1, ch, ep, S⟩]) := Lib.hid (by rw [HRS.out, if_pos ⟨hxs, hms⟩])
          clear hxs hms
          go_wp2_with fail
          refine HCs.out.mono ?_
          rintro e w2 ⟨rfl, rfl⟩
          have hkas := (Kept.refl NoB wnp).alloc (.cells #[.int .i64 1, .int .i64 ch, .int .u64 ep, .int .i64 S] 38 (0, 0))
          have HOBs := Lib.hid (HOP.out.no hkas)
          have HKBs := Lib.hid (hkp.trans hkas (fun _ _ h => h))
          have HNBs := Lib.hid (heap_alloc_new wnp (.cells #[.int .i64 1, .int .i64 ch, .int .u64 ep, .int .i64 S] 38 (0, 0)))
          have hszs : W.heap.size ≤ (wnp.alloc (.cells #[.int .i64 1, .int .i64 ch, .int .u64 ep, .int .i64 S] 38 (0, 0))).heap.size := HKBs.out.size
          clear hkas
          go_wp2_with (at_builtin; refine wpList_append_rc _ rfl _ _ rfl W.heap.size _ [⟨1, ch, ep, P⟩] rfl HOBs.out wnp.heap.size ⟨1, ch, ep, S⟩ rfl HNBs.out (by simp) hszs _ rfl ?_; intro ads cps wns howns hgrows hats; have hks : Kept NoB W wns := HKBs.out.grown hgrows (fun i hi => .inr (HOBs.out.base i hi).1); obtain ⟨c0, c1, s6, s7⟩ := HCL.out _ hks)
          go_ret
          exact ⟨_, rfl, by rw [HR.out, HNp.out, HNs.out]; exact (howns).mono HKW.out.size, HKW.out.trans hks (fun _ _ h => h)⟩
        · rw [decide_eq_false hms] at HCs
          have HNs : Hid (RS = []) := Lib.hid (by rw [HRS.out, if_neg (fun h => hms h.2)])
          clear hxs hms
          go_wp2_with fail
          refine HCs.out.mono ?_
          rintro e w2 ⟨rfl, rfl⟩
          go_wp2
          go_ret
          exact ⟨_, rfl, by rw [HR.out, HNp.out, HNs.out]; exact (HOP.out).mono HKW.out.size, HKW.out.trans hkp (fun _ _ h => h)⟩
    · rw [decide_eq_false hmp] at HCp
      have HNp : Hid (RP = []) := Lib.hid (by rw [HRP.out, if_neg (fun h => hmp h.2)])
      clear hxp hmp
      go_wp2_with fail
      refine HCp.out.mono ?_
      rintro e w2 ⟨rfl, rfl⟩
      by_cases hxs : S = 0
      · have HNs : Hid (RS = []) := Lib.hid (by rw [HRS.out, if_neg (fun h => h.1 hxs)])
        have hxgs : decide ((0 : Int) < S) = false := decide_eq_false (by omega)
        have hxns : ¬ (0 : Int) < S := by omega
        clear hxs
        go_wp2
        go_ret
        exact ⟨_, rfl, by rw [HR.out, HNp.out, HNs.out]; exact ((RcOwn.nil W.heap.size W)).mono HKW.out.size, HKW.out.trans (Kept.refl NoB W) (fun _ _ h => h)⟩
      · have hxgs : decide ((0 : Int) < S) = true := decide_eq_true (by omega)
        have hxns : (0 : Int) < S := by omega
        have HCs := Lib.hid (HH.out S W (HKW.out.trans (Kept.refl NoB W) (fun _ _ h => h)))
        by_cases hms : S ∈ l
        · rw [decide_eq_true hms] at HCs
          have HNs : Hid (RS = [⟨1, ch, ep, S⟩]) := Lib.hid (by rw [HRS.out, if_pos ⟨hxs, hms⟩])
          clear hxs hms
          go_wp2_with fail
          refine HCs.out.mono ?_
          rintro e w2 ⟨rfl, rfl⟩
          have hkas := (Kept.refl NoB W).alloc (.cells #[.int .i64 1, .int .i64 ch, .int .u64 ep, .int .i64 S] 38 (0, 0))
          have HOBs := Lib.hid ((RcOwn.nil W.heap.size W).no hkas)
          have HKBs := Lib.hid ((Kept.refl NoB W).trans hkas (fun _ _ h => h))
          have HNBs := Lib.hid (heap_alloc_new W (.cells #[.int .i64 1, .int .i64 ch, .int .u64 ep, .int .i64 S] 38 (0, 0)))
          have hszs : W.heap.size ≤ (W.alloc (.cells #[.int .i64 1, .int .i64 ch, .int .u64 ep, .int .i64 S] 38 (0, 0))).heap.size := HKBs.out.size
          clear hkas
          go_wp2_with (at_builtin; refine wpList_append_rc _ rfl _ _ rfl W.heap.size _ [] rfl HOBs.out W.heap.size ⟨1, ch, ep, S⟩ rfl HNBs.out (by simp) hszs _ rfl ?_; intro ads cps wns howns hgrows hats; have hks : Kept NoB W wns := HKBs.out.grown hgrows (fun i hi => .inr (HOBs.out.base i hi).1); obtain ⟨c0, c1, s6, s7⟩ := HCL.out _ hks)
          go_ret
          exact ⟨_, rfl, by rw [HR.out, HNp.out, HNs.out]; exact (howns).mono HKW.out.size, HKW.out.trans hks (fun _ _ h => h)⟩
        · rw [decide_eq_false hms] at HCs
          have HNs : Hid (RS = []) := Lib.hid (by rw [HRS.out, if_neg (fun h => hms h.2)])
          clear hxs hms
          go_wp2_with fail
          refine HCs.out.mono ?_
          rintro e w2 ⟨rfl, rfl⟩
          go_wp2
          go_ret
          exact ⟨_, rfl, by rw [HR.out, HNp.out, HNs.out]; exact ((RcOwn.nil W.heap.size W)).mono HKW.out.size, HKW.out.trans (Kept.refl NoB W) (fun _ _ h => h)⟩
end Go.Proofs.Ytajneoaljpljpaa
