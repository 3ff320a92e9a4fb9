/-
  Append to a row of bytes of the call's own (also where the order is drawn); the chapter's Bytes.
-/
import Derived.Test.YtbdenjmnohhhiaaDoorCnfBA
import Derived.Test.YtbdenjmnohhhiaaDoorCnfI
import Derived.Test.YtbdenjmnohhhiaaDoorRef
import Derived.IntWalk
namespace Go.Proofs.YtbdenjmnohhhiaaDoor
open Go.RowKit
set_option linter.unusedVariables false
set_option linter.unusedSimpArgs false

section
variable {P : Program} (t e : TypeId) (i0 : TypeInfo) (ht : P.underlying t = some (.slice e)) (hi : P.info? e = some i0) (hz0 : i0.zero = some (.int .u8 0)) (hz1 : i0.size = 1) (hz2 : i0.bytes = 1) (he : e = 5)
include ht hi hz0 hz1 hz2 he
theorem wp_append_Own (w : World) {o : Oper} {a : Act} {K : Act → World → Prop} {Q : Exit → Act → World → Prop} (s x : Operand)
    (ho : o.op = .call { callee := .builtin .append, args := #[s, x], argTypes := #[t, t] })
    (B : Nat) (v : Value) (l : List Int) (hs : a.eval s = v) (hown : Own w (fun k => B ≤ k) v l) (G : Nat → Prop) (y : Value) (m : List Int) (hx : a.eval x = y) (hy : BSl w G y m) (hl : l.length + m.length ≤ 100000) (hB : B ≤ w.heap.size) (N : Nat) (hN : l.length + m.length = N)
    (h : ∀ a' c' w', Own w' (fun k => B ≤ k) (.slice a' N c') (l ++ m) → Kept (fun k => B ≤ k) w w' → K (a.put o.dst (.slice a' N c')) w') : o.wp P a w K Q := by
  subst hN he
  obtain ⟨v', w', hrun, h2, h3, h4⟩ := run_append_bsl (P := P) w 0 t o.type 5 i0 _ ht hi hz0 hz1 hz2 rfl v l.length l hown.2.1 G y m hy (by omega) (Nat.zero_le _)
  obtain ⟨a', c', rfl⟩ := own_form h2
  obtain ⟨k1, k2⟩ := hown.grow (G := fun k => B ≤ k) hy.isB (fun _ _ h => h) (fun k hk => by omega) h2 h3 h4
  unfold Oper.wp execOp
  simp only [ho, resolve, invoke, builtin, Sem.run_bind, Sem.run_pure, Result.andThen_ok, List.map_toArray, List.map_cons, List.map_nil, hs, hx, hrun]
  exact h a' c' w' k1 k2
/-- append of bytes that are read to a row of bytes of the call's own. -/
theorem wpList_append_Own (w : World) {ops : Array Oper} {rest : List Oper} {o : Oper} {a : Act} {Q : Exit → Act → World → Prop} (hgd : o.guard = none) (s x : Operand)
    (ho : o.op = .call { callee := .builtin .append, args := #[s, x], argTypes := #[t, t] })
    (B : Nat) (v : Value) (l : List Int) (hs : a.eval s = v) (hown : Own w (fun k => B ≤ k) v l) (G : Nat → Prop) (y : Value) (m : List Int) (hx : a.eval x = y) (hy : BSl w G y m) (hl : l.length + m.length ≤ 100000) (hB : B ≤ w.heap.size) (N : Nat) (hN : l.length + m.length = N)
    (h : ∀ a' c' w', Own w' (fun k => B ≤ k) (.slice a' N c') (l ++ m) → Kept (fun k => B ≤ k) w w' → wpList P ops Q rest (a.put o.dst (.slice a' N c')) w') : wpList P ops Q (o :: rest) a w :=
  wpList_plain hgd fun K hK => wp_append_Own t e i0 ht hi hz0 hz1 hz2 he w s x ho B v l hs hown G y m hx hy hl hB N hN fun a' c' w' h2 h3 => hK _ _ (h a' c' w' h2 h3)
theorem step_append_Own (w : World) {ops : Array Oper} {o : Oper} {a : Act} {K : Act → World → Prop} {Q : Exit → Act → World → Prop} {E : Prop} (hgd : o.guard = none) (s x : Operand)
    (ho : o.op = .call { callee := .builtin .append, args := #[s, x], argTypes := #[t, t] })
    (B : Nat) (v : Value) (l : List Int) (hs : a.eval s = v) (hown : Own w (fun k => B ≤ k) v l) (G : Nat → Prop) (y : Value) (m : List Int) (hx : a.eval x = y) (hy : BSl w G y m) (hl : l.length + m.length ≤ 100000) (hB : B ≤ w.heap.size) (N : Nat) (hN : l.length + m.length = N)
    (h : ∀ a' c' w', Own w' (fun k => B ≤ k) (.slice a' N c') (l ++ m) → Kept (fun k => B ≤ k) w w' → K (a.put o.dst (.slice a' N c')) w') :
    if Region.wanted o (yielded ops a.tmps) = true then Oper.wp P o a w K Q else E := by
  have hw : Region.wanted o (yielded ops a.tmps) = true := by simp [Region.wanted, hgd]
  rw [if_pos hw]
  exact wp_append_Own t e i0 ht hi hz0 hz1 hz2 he w s x ho B v l hs hown G y m hx hy hl hB N hN h
end
theorem own_one9 (w : World) (x : Int) (h0 : 0 ≤ x) (h1 : x < 256) (B : Nat) (hB : B ≤ w.heap.size) : Own (w.alloc (.cells #[.int .u8 x] 5)) (fun k => B ≤ k) (.slice (some ⟨w.heap.size, 0, none⟩) 1 1) [x] :=
  ⟨fun z hz => by rw [List.mem_singleton] at hz; rw [hz]; exact ⟨h0, h1⟩, ⟨rfl, .inr ⟨w.heap.size, 1, _, rfl, Nat.zero_le _, heap_alloc_new w _, Nat.le_refl _, by decide, rfl, rfl⟩⟩, fun k hk => by
    injection hk with hk
    replace hk : w.heap.size = k := hk
    omega⟩
theorem own_two9 (w : World) (x y : Int) (h0 : 0 ≤ x) (h1 : x < 256) (h2 : 0 ≤ y) (h3 : y < 256) (B : Nat) (hB : B ≤ w.heap.size) : Own (w.alloc (.cells #[.int .u8 x, .int .u8 y] 5)) (fun k => B ≤ k) (.slice (some ⟨w.heap.size, 0, none⟩) 2 2) [x, y] :=
  ⟨fun z hz => by
    rcases List.mem_cons.1 hz with rfl | hz
    · exact ⟨h0, h1⟩
    · rw [List.mem_singleton] at hz; rw [hz]; exact ⟨h2, h3⟩, ⟨rfl, .inr ⟨w.heap.size, 2, _, rfl, Nat.zero_le _, heap_alloc_new w _, Nat.le_refl _, by decide, rfl, rfl⟩⟩, fun k hk => by
    injection hk with hk
    replace hk : w.heap.size = k := hk
    omega⟩
def CbRel (W : World) (hd ns : List Int) (ov iv : Value) (wr : World) : Prop :=
  ∃ (k : Nat) (a : Option Addr) (c : Nat), k ≤ ns.length ∧ iv = .int .i64 k ∧ ov = .slice a (12 + k) c ∧ Own wr (fun i => W.heap.size ≤ i) ov (hd ++ ns.take k) ∧ Kept (fun i => W.heap.size ≤ i) W wr
set_option maxRecDepth 100000 in
set_option maxHeartbeats 4000000 in
theorem RBytes9 (w : World) (v : Value) (c : Cf) (F : Nat → Prop) (h : CfV w F v c) (hr : Rgt c) : Calls Tryd.prog 13 #[v] w fun e w' => ∃ v', e = .returned v' ∧ Own w' (fun i => w.heap.size ≤ i) v' (bytesC c) ∧ Kept NoB w w' := by
  obtain ⟨i0, hi0, hz0, hz1, hz2⟩ := info_parts Tryd.info5
  obtain ⟨u, rfl, hn, h0, htop, hl⟩ := id h
  have hnum := hr.nums
  obtain ⟨ua, uc, rfl, _⟩ := id hn
  have HBC : Hid (bytesC c = be c.ch.toNat 1 ++ be c.ep.toNat 8 ++ [bitI c.fr] ++ be c.jn.toNat 1 ++ be c.ns.length 1 ++ c.ns) := Lib.hid rfl
  obtain ⟨BC, hbc⟩ : ∃ b, b = bytesC c := ⟨_, rfl⟩
  rw [← hbc] at HBC ⊢
  have HN := Lib.hid hn
  clear h hr hn hl hbc
  obtain ⟨ch, ep, ns, fr, jn⟩ := c
  simp only at HN HBC hnum h0 htop ⊢
  obtain ⟨g1, g2, g3, g4, g5, g6, g7, g8⟩ := hnum
  have HG8 := Lib.hid g8
  clear g8
  obtain ⟨epn, rfl⟩ := Int.eq_ofNat_of_zero_le h0
  have HEP : Hid (epn < 256 ^ 8) := Lib.hid (by unfold topE at htop; omega)
  clear htop
  obtain ⟨n, hnn⟩ : ∃ n, n = ns.length := ⟨_, rfl⟩
  rw [← hnn] at HBC g4 g5 HN ⊢
  have HNN := Lib.hid hnn
  clear hnn
  have hwc : IntKind.u8.wrap ch = ch := IntWalk.u8_in _ (by omega)
  have hwj : IntKind.u8.wrap jn = jn := IntWalk.u8_in _ (by omega)
  have hwn : IntKind.u8.wrap (n : Int) = (n : Int) := IntWalk.u8_in _ (by omega)
  have HB := Lib.hid (heap_alloc_new w (.cells #[.int .i64 ch, .int .u64 epn, .slice ua n uc, .bool fr, .int .i64 jn] 25))
  have HKW := Lib.hid ((Kept.refl NoB w).alloc (.cells #[.int .i64 ch, .int .u64 epn, .slice ua n uc, .bool fr, .int .i64 jn] 25))
  obtain ⟨W, hW⟩ : ∃ W, W = w.alloc (.cells #[.int .i64 ch, .int .u64 epn, .slice ua n uc, .bool fr, .int .i64 jn] 25) := ⟨_, rfl⟩
  rw [← hW] at HB HKW
  have HSZ : Hid (w.heap.size < W.heap.size) := Lib.hid (heap_lt HB.out)
  have HWW := Lib.hid hW
  clear hW
  have HTEN : Hid (∀ w', Kept (fun i => W.heap.size ≤ i) W w' → (w'.cell? ⟨w.heap.size, 0, none⟩ = some (.int .i64 ch) ∧ w'.cell? ⟨w.heap.size, 1, none⟩ = some (.int .u64 epn) ∧ w'.cell? ⟨w.heap.size, 2, none⟩ = some (.slice ua n uc) ∧ w'.cell? ⟨w.heap.size, 3, none⟩ = some (.bool fr) ∧ w'.cell? ⟨w.heap.size, 4, none⟩ = some (.int .i64 jn))) := Lib.hid (fun w' hk => cells5 (hk.heap (Nat.not_le.2 HSZ.out) HB.out))
  have HNS : Hid (∀ w', Kept (fun i => W.heap.size ≤ i) W w' → NSl w' F (.slice ua n uc) ns) := Lib.hid (fun w' hk => (HN.out.mono (G := fun k => F k ∧ k < w.heap.size) (fun k h1 h2 => ⟨h2, h1⟩)).kept HKW.out (fun _ _ _ h => h) |>.kept hk (fun k _ h1 h2 => by have := HSZ.out; have := h1.2; omega) |>.mono (fun k _ h => h.1))
  have HBIG : Hid (∀ w', W.heap.size ≤ w'.heap.size → Calls Tryd.prog 30 #[.int .u64 epn, .int .i64 8] w' fun e w'' => ∃ ba bc, e = .returned (.slice ba 8 bc) ∧ BSl w'' (fun _ => True) (.slice ba 8 bc) (be epn 8) ∧ Kept NoB w' w'') := Lib.hid (fun w' hs => (Big_any epn 8 w' (by omega) (by omega) HEP).mono fun e w'' ⟨bv, h1, h2, h3⟩ => by
    obtain ⟨ba, bc, rfl⟩ := own_form h2.2.1
    rw [be_len] at h1 h2
    exact ⟨ba, bc, h1, h2.bsl.mono (fun _ _ _ => trivial), h3⟩)
  have HYES : Hid (∀ w', Calls Tryd.prog 31 #[.bool fr] w' fun e w'' => ∃ v, e = .returned v ∧ BSl w'' (fun _ => True) v [bitI fr] ∧ Kept NoB w' w'') := Lib.hid (fun w' => (Yes_any fr w').mono fun e w'' ⟨bv, h1, h2, h3⟩ => ⟨bv, h1, h2.mono (fun _ _ _ => trivial), h3⟩)
  have HKD : Hid (Kept NoB W W.drew) := Lib.hid (Kept.refl NoB W).drew
  have HKA : Hid (Kept NoB W (W.alloc (.cells #[.int .u8 ch] 5)).drew) := Lib.hid ((Kept.refl NoB W).alloc _).drew
  have HOA : Hid (Own (W.alloc (.cells #[.int .u8 ch] 5)).drew (fun k => W.heap.size ≤ k) (.slice (some ⟨W.heap.size, 0, none⟩) 1 1) [ch]) := Lib.hid ((own_one9 W ch (by omega) (by omega) _ (Nat.le_refl _)).kept (Kept.refl NoB _).drew (fun _ _ h => h))
  obtain ⟨f0, f1, _, _, _⟩ := HTEN.out _ (HKA.out.mono (fun _ _ h => absurd h (fun h => h)))
  obtain ⟨e0, e1, e2, e3, e4⟩ := HTEN.out _ (HKD.out.mono (fun _ _ h => absurd h (fun h => h)))
  have HLB : Hid ([ch].length + (be epn 8).length = 9) := Lib.hid (by simp only [be_len, List.length_singleton])
  have HLA : Hid ([ch].length + (be epn 8).length ≤ 100000) := Lib.hid (by rw [HLB.out]; omega)
  go_enter Tryd.func13, Tryd.ntmps13
  go_wp2_with fail
  rw [← HWW.out]
  go_region_held3 (fun w' => w'.cell? ⟨w.heap.size, 0, none⟩ = some (.int .i64 ch) ∧ w'.cell? ⟨w.heap.size, 1, none⟩ = some (.int .u64 epn))
    (first
      | (with_reducible exact ⟨e0, e1⟩)
      | (with_reducible exact ⟨f0, f1⟩)
      | (with_reducible exact ⟨cell_alloc e0 _, cell_alloc e1 _⟩)
      | go_keep)
    (first
      | (go_at_call 30; (with_reducible refine (HBIG.out (W.alloc (.cells #[.int .u8 ch] 5)).drew HKA.out.size).mono ?_); rintro e wB ⟨ba, bc, rfl, hbv, hkb⟩; have HBV := Lib.hid hbv; have HKB := Lib.hid (HKA.out.trans hkb (fun _ _ h => h)); have HOB := Lib.hid (HOA.out.kept hkb (fun _ _ h => h)); clear hbv hkb e0 e1 e2 e3 e4; obtain ⟨e0, e1, e2, e3, e4⟩ := HTEN.out _ (HKB.out.mono (fun _ _ h => absurd h (fun h => h))))
      | (go_at_call 30; (with_reducible refine (HBIG.out W.drew HKD.out.size).mono ?_); rintro e wB ⟨ba, bc, rfl, hbv, hkb⟩; have HKC := Lib.hid (HKD.out.trans hkb (fun _ _ h => h)); have HKB := Lib.hid (HKC.out.alloc (.cells #[.int .u8 ch] 5)); have HOB : Hid (Own (wB.alloc (.cells #[.int .u8 ch] 5)) (fun k => W.heap.size ≤ k) (.slice (some ⟨wB.heap.size, 0, none⟩) 1 1) [ch]) := Lib.hid (own_one9 wB ch (by omega) (by omega) _ HKC.out.size); have HBV := Lib.hid (hbv.kept ((Kept.refl NoB wB).alloc (.cells #[.int .u8 ch] 5)) (fun _ _ h => h)); clear hbv hkb e0 e1 e2 e3 e4; obtain ⟨e0, e1, e2, e3, e4⟩ := HTEN.out _ (HKC.out.mono (fun _ _ h => absurd h (fun h => h))))
      | (refine step_append_Own 26 5 i0 Tryd.underlying26 hi0 hz0 hz1 hz2 rfl _ (by rfl) _ _ (by rfl) W.heap.size _ [ch] (by rfl) HOB.out (fun _ => True) (.slice ba 8 bc) (be epn 8) (by rfl) HBV.out HLA.out HKB.out.size 9 HLB.out ?_; intro a1 c1 w1 ho1 hk1; have HO1 := Lib.hid ho1; have HK1 := Lib.hid ((HKB.out.mono (T := fun k => W.heap.size ≤ k) (fun _ _ h => absurd h (fun h => h))).trans hk1 (fun _ _ h => h)); clear ho1 hk1 e0 e1 e2 e3 e4; obtain ⟨e0, e1, e2, e3, e4⟩ := HTEN.out _ HK1.out)
      | fail)
  all_goals
    have HL1 : Hid (([ch] ++ be epn 8).length = 9) := Lib.hid (by rw [List.length_append, be_len]; rfl)
    obtain ⟨l1, hl1⟩ : ∃ l, l = [ch] ++ be epn 8 := ⟨_, rfl⟩
    rw [← hl1] at HO1 HL1
    have HE1 := Lib.hid hl1
    clear hl1
    go_wp2_with fail
    refine (HYES.out _).mono ?_
    rintro e w2 ⟨bv2, rfl, hbv2, hkb2⟩
    have HBV2 := Lib.hid hbv2
    have HOB2 := Lib.hid (HO1.out.kept hkb2 (fun _ _ h => h))
    have HKB2 := Lib.hid (HK1.out.trans hkb2 (fun _ _ h => absurd h (fun h => h)))
    clear hbv2 hkb2 e0 e1 e2 e3 e4
    obtain ⟨e0, e1, e2, e3, e4⟩ := HTEN.out _ HKB2.out
    go_wp2_with (first
      | (at_builtin; refine wpList_append_Own 26 5 i0 Tryd.underlying26 hi0 hz0 hz1 hz2 rfl _ rfl (.tmp 13) (.tmp 16) rfl W.heap.size (.slice a1 9 c1) l1 rfl HOB2.out (fun _ => True) bv2 [bitI fr] rfl HBV2.out (by have := HL1.out; simp only [List.length_singleton]; omega) HKB2.out.size 10 (by rw [HL1.out]; rfl) ?_; intro a2 c2 w3 ho2 hk2; have HO2 := Lib.hid ho2; have HK2 := Lib.hid (HKB2.out.trans hk2 (fun _ _ h => h)); clear ho2 hk2 e0 e1 e2 e3 e4; obtain ⟨e0, e1, e2, e3, e4⟩ := HTEN.out _ HK2.out; (have HO2A := Lib.hid (HO2.out.kept ((Kept.refl NoB w3).alloc (.cells #[.int .u8 jn, .int .u8 (n : Int)] 5)) (fun _ _ h => h))); (have HKA2 := Lib.hid (HK2.out.alloc (.cells #[.int .u8 jn, .int .u8 (n : Int)] 5))))
      | (at_builtin; refine wpList_append_Own 26 5 i0 Tryd.underlying26 hi0 hz0 hz1 hz2 rfl _ rfl (.tmp 18) (.tmp 26) rfl W.heap.size (.slice a2 10 c2) (l1 ++ [bitI fr]) rfl HO2A.out (fun _ => True) (.slice (some ⟨w3.heap.size, 0, none⟩) 2 2) [jn, (n : Int)] rfl ((own_two9 w3 jn n (by omega) (by omega) (by omega) (by omega) 0 (Nat.zero_le _)).bsl.mono (fun _ _ _ => trivial)) (by have := HL1.out; simp only [List.length_append, List.length_singleton, List.length_cons, List.length_nil]; omega) HKA2.out.size 12 (by have := HL1.out; simp only [List.length_append, List.length_singleton, List.length_cons, List.length_nil]; omega) ?_; intro a3 c3 w4 ho3 hk3; have HO3 := Lib.hid ho3; have HK3 := Lib.hid (HKA2.out.trans hk3 (fun _ _ h => h)); clear ho3 hk3 e0 e1 e2 e3 e4; obtain ⟨e0, e1, e2, e3, e4⟩ := HTEN.out _ HK3.out))
    obtain ⟨hd, hhd⟩ : ∃ l, l = l1 ++ [bitI fr] ++ [jn, (n : Int)] := ⟨_, rfl⟩
    rw [← hhd] at HO3
    have HHD := Lib.hid hhd
    have HLH : Hid (hd.length = 12) := Lib.hid (by rw [hhd]; have := HL1.out; simp only [List.length_append, List.length_singleton, List.length_cons, List.length_nil]; omega)
    clear hhd
    have H0 : Hid (CbRel W hd ns (.slice a3 12 c3) (.int .i64 0) w4) := Lib.hid ⟨0, _, _, Nat.zero_le _, rfl, rfl, by rw [List.take_zero, List.append_nil]; exact HO3.out, HK3.out⟩
    go_loopw [3, 4] (CbRel W hd ns) (fun _ i _ => ns.length - (RowKit.intOf i).toNat)
    case atStart => exact H0.out
    case round =>
      obtain ⟨k, oa, oc, hk, rfl, rfl, hown, hK⟩ := hrel
      have hk0 : (0 : Int) ≤ (k : Int) := by omega
      have HK := Lib.hid hK
      have HO := Lib.hid hown
      have HNS0 := Lib.hid (HNS.out _ hK)
      have HKR := Lib.hid hk
      have hnn := HNN.out
      clear hown hK e0 e1 e2 e3 e4
      obtain ⟨e0, e1, e2, e3, e4⟩ := HTEN.out _ HK.out
      by_cases hlt : k < n
      · have hk1 : (k : Int) < (n : Int) := by omega
        have hlt' : k < ns.length := by omega
        obtain ⟨b, o, rfl, _, hb, hrow⟩ := HNS0.out.at_ hlt'
        obtain ⟨y, hy⟩ : ∃ y, y = ns.getD k 0 := ⟨_, rfl⟩
        rw [← hy] at hrow
        have hyr : 1 ≤ y ∧ y ≤ 24 := by
          have := HG8.out (ns[k]) (List.getElem_mem hlt')
          rw [hy, getD_at hlt']
          exact this
        have HTK := Lib.hid (take_one hlt')
        rw [← hy] at HTK
        have hwa : IntKind.u8.wrap y = y := IntWalk.u8_in _ (by omega)
        have HLT : Hid ((hd ++ ns.take k).length = 12 + k) := Lib.hid (by rw [List.length_append, HLH.out, List.length_take, Nat.min_eq_left hk])
        have HOA2 := Lib.hid (HO.out.kept ((Kept.refl NoB wr).alloc (.cells #[.int .u8 y] 5)) (fun _ _ h => h))
        have HKA2 := Lib.hid (HK.out.alloc (.cells #[.int .u8 y] 5))
        clear hy hlt' hnn hk
        go_wp2_with (at_builtin; refine wpList_append_Own 26 5 i0 Tryd.underlying26 hi0 hz0 hz1 hz2 rfl _ rfl (.tmp 35) (.tmp 42) rfl W.heap.size (.slice oa (12 + k) oc) (hd ++ ns.take k) rfl HOA2.out (fun _ => True) (.slice (some ⟨wr.heap.size, 0, none⟩) 1 1) [y] rfl ((own_one9 wr y (by omega) (by omega) 0 (Nat.zero_le _)).bsl.mono (fun _ _ _ => trivial)) (by have := HLT.out; simp only [List.length_singleton]; omega) HKA2.out.size (12 + (k + 1)) (by rw [HLT.out]; simp only [List.length_singleton]; omega) ?_; intro a5 c5 w5 ho5 hk5; have HO5 := Lib.hid ho5; have HK5 := Lib.hid (HKA2.out.trans hk5 (fun _ _ h => h)); clear ho5 hk5 e0 e1 e2 e3 e4)
        have hnn := HNN.out
        have hkr := HKR.out
        exact ⟨⟨k + 1, _, _, by omega, by go_num, rfl, by rw [HTK.out, ← List.append_assoc]; exact HO5.out, HK5.out⟩, by simp [RowKit.intOf]; omega⟩
      · obtain rfl : k = ns.length := by omega
        rw [List.take_length] at HO
        have hbc : hd ++ ns = BC := by
          rw [HBC.out, HHD.out, HE1.out]
          have q2 := be_one9 (n : Int) (by omega) (by omega)
          rw [Int.toNat_natCast] at q2
          rw [be_one9 ch (by omega) (by omega), be_one9 jn (by omega) (by omega), q2, Int.toNat_natCast]
          simp only [List.append_assoc, List.cons_append, List.nil_append]
        go_wp2_with fail
        go_ret
        exact ⟨_, rfl, by rw [← hbc]; exact HO.out.mono (fun i _ h => Nat.le_trans (Nat.le_of_lt HSZ.out) h), HKW.out.trans HK.out (fun i hi h => absurd h (by have := HSZ.out; omega))⟩
end Go.Proofs.YtbdenjmnohhhiaaDoor
