/-
  Layer 31: stat, New.
-/
import Derived.Test.YtokafgleejcbgaaGreatDoorTreH
import Derived.Test.YtokafgleejcbgaaGreatDoorVolA
namespace Go.Proofs.YtokafgleejcbgaaGreatDoor
open Go.RowKit
set_option linter.unusedVariables false
set_option maxRecDepth 100000

/-- What Stat answers. -/
def st31 (L : List It) (r : It) (p : List UInt8) : Int × Int × Bool :=
  match (rs31 L r p).2 with
  | none => ((rs31 L r p).1, 0, false)
  | some x => if x.dir then (0, x.n, true) else (0, x.d.length, false)
def StE (L : List It) (r : It) (p : List UInt8) (w : World) (e : Ending) (w' : World) : Prop :=
  e = .returned (.agg #[.int .i64 (st31 L r p).1, .slice none 0 0, .slice none 0 0, .int .i64 (st31 L r p).2.1, .bool (st31 L r p).2.2]) ∧ Kept NoB w w'
theorem StE.of {L : List It} {r : It} {p : List UInt8} {w w' : World} {a b : Int} {c : Bool} (h : st31 L r p = (a, b, c)) (hk : Kept NoB w w') : StE L r p w (.returned (.agg #[.int .i64 a, .slice none 0 0, .slice none 0 0, .int .i64 b, .bool c])) w' := ⟨by rw [h], hk⟩
set_option maxHeartbeats 4000000 in
theorem stat31_any (w : World) (g bm : Nat) (I B : Int) (L : List It) (r : It) (k : Int) (s q : ByteArray) (o n : Int) (d : Value) (h : TrAt w g bm I B L) (hr : atT L [47] = some r) (hs : s.size ≤ 1000000) (hlg : Lng w) :
    Calls Tryz.prog 23 #[.pointer (some ⟨g, 0, none⟩), callV k s q o n d] w (StE L r s.data.toList w) := by
  obtain ⟨W, hW⟩ : ∃ W, W = (w.alloc (.cells #[.int .i64 k, .string s, .string q, .int .i64 o, .int .i64 n, d] 24)).alloc (.cells #[.int .i64 0, .slice none 0 0, .slice none 0 0, .int .i64 0, .bool false] 29) := ⟨_, rfl⟩
  obtain ⟨HKW, HBC, HBA, HWS⟩ := callAns31 w k s q o n d W hW
  obtain ⟨-, c1, -, -, -, -⟩ := cells6_31 HBC.out
  have HRS := Lib.hid (resolve31_any W g bm I B L r s (h.no HKW.out) hr hs (hlg.no HKW.out))
  have HT := Lib.hid (h.no HKW.out)
  have hc := rs31_cases L r s.data.toList (atT_key hr).2
  have hst : st31 L r s.data.toList = st31 L r s.data.toList := rfl
  conv at hst => rhs; unfold st31
  obtain ⟨p, hp⟩ : ∃ p, p = s.data.toList := ⟨_, rfl⟩
  rw [← hp] at HRS hc hst ⊢
  obtain ⟨R, hR⟩ : ∃ R, R = rs31 L r p := ⟨_, rfl⟩
  rw [← hR] at HRS hc hst
  obtain ⟨bA, hbA⟩ : ∃ b, b = w.heap.size + 1 := ⟨_, rfl⟩
  rw [← hbA] at HBA
  have HBE := Lib.hid hbA
  have HWQ := Lib.hid hW
  clear h hr hs hlg hp hR
  unfold callV
  rcases hc with ⟨h1, h2⟩ | ⟨x, hx, h1⟩
  · obtain ⟨R1, R2⟩ := R
    simp only at h1 h2 HRS hst
    subst h2
    simp only at hst
    rw [show lookV none = .pointer none from rfl] at HRS
    have HST := Lib.hid hst
    have g1 : (R1 != 0) = true := bne_iff_ne.2 h1
    clear h1 hst hW hbA
    go_enter Tryz.func23, Tryz.ntmps23
    go_upto_region 1 with fail
    rw [← HWQ.out, ← HBE.out]
    go_wp2_with (first
      | (go_at_call 44; refine HRS.out.mono ?_; rintro e w2 ⟨rfl, hk⟩; have HK2 := Lib.hid hk; clear hk)
      | (go_at_call 13; refine (answer31_lit _ _).mono ?_; rintro e w3 ⟨rfl, hk3⟩; have HK3 := Lib.hid (HK2.out.trans hk3 (fun _ _ h => h)); have HB3 := Lib.hid ((HK2.out.trans hk3 (fun _ _ h => h)).heap (fun h => h) HBA.out); clear hk3; (obtain ⟨z0, z1, z2, z3, z4⟩ := cells5_31 HB3.out); have f0 := frz31 HB3.out 0; have f1 := frz31 HB3.out 1; have f2 := frz31 HB3.out 2; have f3 := frz31 HB3.out 3; have f4 := frz31 HB3.out 4))
    obtain ⟨W4, hW4⟩ : ∃ W4, W4 = ((((w3.setCell ⟨bA, 0, none⟩ (.int .i64 R1)).setCell ⟨bA, 1, none⟩ (.slice none 0 0)).setCell ⟨bA, 2, none⟩ (.slice none 0 0)).setCell ⟨bA, 3, none⟩ (.int .i64 0)).setCell ⟨bA, 4, none⟩ (.bool false) := ⟨_, rfl⟩
    obtain ⟨hb4, hk4⟩ := ansSet31 HB3.out R1 (.slice none 0 0) (.slice none 0 0) 0 false W4 hW4
    rw [← hW4]
    obtain ⟨r0, r1, r2, r3, r4⟩ := cells5_31 hb4
    have HK4 := Lib.hid hk4
    clear hW4 hb4 hk4 z0 z1 z2 z3 z4 f0 f1 f2 f3 f4
    exact bodyPost_ret (v := .agg #[.int .i64 R1, .slice none 0 0, .slice none 0 0, .int .i64 0, .bool false]) (by simp [results, Tryz.results23, go_sem, r0, r1, r2, r3, r4]) rfl (StE.of HST.out ((HKW.out.trans HK3.out (fun _ _ h => h)).trans HK4.out (fun i hi h => by have h : i = bA := h; have := HBE.out; omega)))
  · subst h1
    simp only at HRS hst
    rw [lookV_some] at HRS
    unfold itv at HRS
    cases hd : x.dir with
    | true =>
      rw [hd, if_pos rfl] at hst
      have HST := Lib.hid hst
      have HD := Lib.hid hd
      clear hd hst hW hbA
      go_enter Tryz.func23, Tryz.ntmps23
      go_upto_region 1 with fail
      rw [← HWQ.out, ← HBE.out]
      go_wp2_with (go_at_call 44; refine HRS.out.mono ?_; rintro e w2 ⟨rfl, hk⟩; have HK3 := Lib.hid hk; have HB3 := Lib.hid (hk.heap (fun h => h) HBA.out); (obtain ⟨a1, q1, x0, x1, x2⟩ := ((HT.out.no hk).it x hx).cells); rw [HD.out] at x0; clear hk; (obtain ⟨z0, z1, z2, z3, z4⟩ := cells5_31 HB3.out); have f0 := frz31 HB3.out 0; have f1 := frz31 HB3.out 1; have f2 := frz31 HB3.out 2; have f3 := frz31 HB3.out 3; have f4 := frz31 HB3.out 4)
      obtain ⟨W4, hW4⟩ : ∃ W4, W4 = ((((w2.setCell ⟨bA, 0, none⟩ (.int .i64 0)).setCell ⟨bA, 1, none⟩ (.slice none 0 0)).setCell ⟨bA, 2, none⟩ (.slice none 0 0)).setCell ⟨bA, 3, none⟩ (.int .i64 x.n)).setCell ⟨bA, 4, none⟩ (.bool true) := ⟨_, rfl⟩
      obtain ⟨hb4, hk4⟩ := ansSet31 HB3.out 0 (.slice none 0 0) (.slice none 0 0) x.n true W4 hW4
      rw [← hW4]
      obtain ⟨r0, r1, r2, r3, r4⟩ := cells5_31 hb4
      have HK4 := Lib.hid hk4
      clear hW4 hb4 hk4 z0 z1 z2 z3 z4 f0 f1 f2 f3 f4
      exact bodyPost_ret (v := .agg #[.int .i64 0, .slice none 0 0, .slice none 0 0, .int .i64 x.n, .bool true]) (by simp [results, Tryz.results23, go_sem, r0, r1, r2, r3, r4]) rfl (StE.of HST.out ((HKW.out.trans HK3.out (fun _ _ h => h)).trans HK4.out (fun i hi h => by have h : i = bA := h; have := HBE.out; omega)))
    | false =>
      rw [hd, if_neg (by simp)] at hst
      have HST := Lib.hid hst
      have HD := Lib.hid hd
      clear hd hst hW hbA
      go_enter Tryz.func23, Tryz.ntmps23
      go_upto_region 1 with fail
      rw [← HWQ.out, ← HBE.out]
      go_wp2_with (go_at_call 44; refine HRS.out.mono ?_; rintro e w2 ⟨rfl, hk⟩; have HK3 := Lib.hid hk; have HB3 := Lib.hid (hk.heap (fun h => h) HBA.out); (obtain ⟨a1, q1, x0, x1, x2⟩ := ((HT.out.no hk).it x hx).cells); rw [HD.out] at x0; clear hk; (obtain ⟨z0, z1, z2, z3, z4⟩ := cells5_31 HB3.out); have f0 := frz31 HB3.out 0; have f1 := frz31 HB3.out 1; have f2 := frz31 HB3.out 2; have f3 := frz31 HB3.out 3; have f4 := frz31 HB3.out 4)
      obtain ⟨W4, hW4⟩ : ∃ W4, W4 = ((((w2.setCell ⟨bA, 0, none⟩ (.int .i64 0)).setCell ⟨bA, 1, none⟩ (.slice none 0 0)).setCell ⟨bA, 2, none⟩ (.slice none 0 0)).setCell ⟨bA, 3, none⟩ (.int .i64 x.d.length)).setCell ⟨bA, 4, none⟩ (.bool false) := ⟨_, rfl⟩
      obtain ⟨hb4, hk4⟩ := ansSet31 HB3.out 0 (.slice none 0 0) (.slice none 0 0) x.d.length false W4 hW4
      rw [← hW4]
      obtain ⟨r0, r1, r2, r3, r4⟩ := cells5_31 hb4
      have HK4 := Lib.hid hk4
      clear hW4 hb4 hk4 z0 z1 z2 z3 z4 f0 f1 f2 f3 f4
      exact bodyPost_ret (v := .agg #[.int .i64 0, .slice none 0 0, .slice none 0 0, .int .i64 x.d.length, .bool false]) (by simp [results, Tryz.results23, go_sem, r0, r1, r2, r3, r4]) rfl (StE.of HST.out ((HKW.out.trans HK3.out (fun _ _ h => h)).trans HK4.out (fun i hi h => by have h : i = bA := h; have := HBE.out; omega)))
section
variable (w : World) {ops : Array Oper} {rest : List Oper} {o : Oper} {a : Act} {Q : Exit → Act → World → Prop}
/-- An entry of a map's literal. -/
theorem wpList_insert31 (hg : o.guard = none) (m x y : Operand) (hop : o.op = Op.insert 47 m x y)
    (bm : Nat) (L : List It) (v : It) (s : ByteArray) (hsv : s.data.toList = v.p) (hm : a.eval m = .map (some bm)) (hx : a.eval x = .string s) (hy : a.eval y = itv v) (hown : MapT w bm L) (hs : s.size ≤ maxLen) (hl : L.length ≤ 100000)
    (hK : ∀ w', MapT w' bm (putT L v) → w.grownBy w' (some bm) → wpList Tryz.prog ops Q rest (a.put o.dst undef) w') : wpList Tryz.prog ops Q (o :: rest) a w :=
  wpList_plain hg fun K' hK' => by
    obtain ⟨w', hrun, r1, r2⟩ := run_store31 w bm L v s hsv hown hs hl
    unfold Oper.wp
    simp [execOp, hop, hm, hx, hy, hrun, Result.andThen]
    exact hK' _ _ (hK w' r1 r2)
end
/-- A tree that was made. -/
theorem new_tr31 {w w1 w5 : World} {I B : Int} (hrg : rgt30 I B) (hk1 : Kept NoB w w1)
    (hm : MapT w5 w1.heap.size (putT [] (newIt [47] (w1.heap.size + 1) true))) (hg : ((w1.alloc (.map #[] 0)).alloc (.cells #[.bool true, .slice none 0 0, .int .i64 0] 51)).grownBy w5 (some w1.heap.size)) :
    TrAt (w5.alloc (.cells #[.int .i64 I, .int .i64 B, .map (some w1.heap.size)] 49)) w5.heap.size w1.heap.size I B [newIt [47] (w1.heap.size + 1) true] ∧ Kept NoB w (w5.alloc (.cells #[.int .i64 I, .int .i64 B, .map (some w1.heap.size)] 49)) ∧ w1.heap.size + 2 ≤ w5.heap.size := by
  have hkA : Kept NoB w1 ((w1.alloc (.map #[] 0)).alloc (.cells #[.bool true, .slice none 0 0, .int .i64 0] 51)) := ((Kept.refl NoB w1).alloc _).alloc _
  have hk5 : Kept NoB w1 w5 := hkA.grown hg (fun k hk => .inr (by injection hk with hk; omega))
  have hk5' : Kept (fun k => k = w1.heap.size) ((w1.alloc (.map #[] 0)).alloc (.cells #[.bool true, .slice none 0 0, .int .i64 0] 51)) w5 := (Kept.refl _ _).grown hg (fun k hk => .inl (by injection hk with hk; exact hk.symm))
  have hit := heap_alloc_new (w1.alloc (.map #[] 0)) (.cells #[.bool true, .slice none 0 0, .int .i64 0] 51)
  rw [show (w1.alloc (.map #[] 0)).heap.size = w1.heap.size + 1 by simp] at hit
  have hit5 := hk5'.heap (fun h => by have h : w1.heap.size + 1 = w1.heap.size := h; omega) hit
  have hsz : w1.heap.size + 2 ≤ w5.heap.size := by have := hk5'.size; simp at this; omega
  have hk6 := (Kept.refl NoB w5).alloc (.cells #[.int .i64 I, .int .i64 B, .map (some w1.heap.size)] 49)
  refine ⟨⟨heap_alloc_new w5 _, hm.kept hk6 (fun h => h), fun x hx => ?_, fun x hx y hy _ => ?_, fun x hx k hG => ?_, fun x hx => ?_, by simp, hrg⟩, (hk1.trans hk5 (fun _ _ h => h)).trans hk6 (fun _ _ h => h), hsz⟩
  · rw [List.mem_singleton] at hx
    subst hx
    exact ⟨none, 0, hk6.heap (fun h => h) hit5, BSl.nil _ _⟩
  · rw [List.mem_singleton] at hx hy
    rw [hx, hy]
  · rw [List.mem_singleton] at hx
    subst hx
    exact hG.elim
  · rw [List.mem_singleton] at hx
    subst hx
    exact ⟨Nat.zero_le _, Nat.zero_le _⟩
/-- What New gives. -/
def NewE (I B : Int) (w : World) (e : Ending) (w' : World) : Prop :=
  if rgt30 I B then ∃ g bm b, w.heap.size ≤ g ∧ w.heap.size ≤ bm ∧ w.heap.size ≤ b ∧ e = .returned (.tuple #[.pointer (some ⟨g, 0, none⟩), .int .i64 0]) ∧ TrAt w' g bm I B [newIt [47] b true] ∧ Kept NoB w w'
  else e = .returned (.tuple #[.pointer none, .int .i64 1]) ∧ Kept NoB w w'
theorem NewE.bad {I B : Int} {w w' : World} (h : ¬ rgt30 I B) (hk : Kept NoB w w') : NewE I B w (.returned (.tuple #[.pointer none, .int .i64 1])) w' := by unfold NewE; rw [if_neg h]; exact ⟨rfl, hk⟩
theorem NewE.ok {I B : Int} {w w' : World} {g bm b : Nat} (h : rgt30 I B) (h1 : w.heap.size ≤ g) (h2 : w.heap.size ≤ bm) (h3 : w.heap.size ≤ b) (ht : TrAt w' g bm I B [newIt [47] b true]) (hk : Kept NoB w w') : NewE I B w (.returned (.tuple #[.pointer (some ⟨g, 0, none⟩), .int .i64 0])) w' := by
  unfold NewE; rw [if_pos h]; exact ⟨g, bm, b, h1, h2, h3, rfl, ht, hk⟩
set_option maxHeartbeats 4000000 in
theorem New31_any (I B : Int) (w : World) : Calls Tryz.prog 31 #[.agg #[.int .i64 I, .int .i64 B]] w (NewE I B w) := by
  have hk0 := (Kept.refl NoB w).alloc (.cells #[.int .i64 I, .int .i64 B] 46)
  have HK0 := Lib.hid hk0
  have hmm := @run_makeMap Tryz.prog
  have HR := Lib.hid (vRight_any I B)
  have hb0 := heap_alloc_new w (.cells #[.int .i64 I, .int .i64 B] 46)
  obtain ⟨c0, c1⟩ := cell2_30 hb0
  have HB0 := Lib.hid hb0
  clear hk0 hb0
  by_cases hrg : rgt30 I B
  · rw [decide_eq_true hrg] at HR
    have HRG := Lib.hid hrg
    clear hrg
    go_enter Tryz.func31, Tryz.ntmps31
    go_wp2_with (first
      | (go_at_call 48; refine (HR.out _).mono ?_; rintro e w1 ⟨rfl, hk⟩; have HK1 := Lib.hid (HK0.out.trans hk (fun _ _ h => h)); have HB1 := Lib.hid (hk.heap (fun h => h) HB0.out); clear hk c0 c1; (obtain ⟨c0, c1⟩ := cell2_30 HB1.out); have HMM := Lib.hid ((MapT.made w1).kept ((Kept.refl NoB _).alloc (.cells #[.bool true, .slice none 0 0, .int .i64 0] 51)) (fun h => h)))
      | (with_reducible refine wpList_insert31 _ rfl _ _ _ rfl w1.heap.size [] (newIt [47] (w1.heap.size + 1) true) ⟨#[47]⟩ rfl rfl rfl rfl HMM.out (by decide) (by simp) ?_; intro w5 hm5 hg5; have HN := Lib.hid (new_tr31 HRG.out HK1.out hm5 hg5); clear hm5 hg5))
    exact bodyPost_ret (v := .tuple #[.pointer (some ⟨w5.heap.size, 0, none⟩), .int .i64 0]) (by simp [results, Tryz.results31, go_sem]) rfl (NewE.ok HRG.out (by have := HN.out.2.2; have := HK1.out.size; omega) HK1.out.size (by have := HK1.out.size; omega) HN.out.1 HN.out.2.1)
  · rw [decide_eq_false hrg] at HR
    have HRG := Lib.hid hrg
    clear hrg
    go_enter Tryz.func31, Tryz.ntmps31
    go_wp2_with (go_at_call 48; refine (HR.out _).mono ?_; rintro e w1 ⟨rfl, hk⟩; have HK1 := Lib.hid (HK0.out.trans hk (fun _ _ h => h)); have HB1 := Lib.hid (hk.heap (fun h => h) HB0.out); clear hk c0 c1; (obtain ⟨c0, c1⟩ := cell2_30 HB1.out))
    exact bodyPost_ret (v := .tuple #[.pointer none, .int .i64 1]) (by simp [results, Tryz.results31, go_sem]) rfl (NewE.bad HRG.out HK1.out)
end Go.Proofs.YtokafgleejcbgaaGreatDoor
