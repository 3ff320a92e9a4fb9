/-
  A table's bytes, plainly; append to a row of bytes of the call's own; the chapter's Bytes.
-/
import Derived.Test.YtnmclhgljpcjcaaSesG
import Derived.Test.YtnmclhgljpcjcaaRef
import Derived.IntWalk
namespace Go.Proofs.Ytnmclhgljpcjcaa
open Go.RowKit
set_option linter.unusedVariables false

def rbs (r : Rw) : List Int := be r.s.toNat 1 ++ be r.b.toNat 8 ++ be r.k.toNat 8 ++ be r.ch.toNat 1 ++ be r.ep.toNat 8
def bytesR (L : List Rw) : List Int := be L.length 1 ++ L.flatMap rbs
/-- The bytes behind k rows. -/
def bytesK (L : List Rw) (k : Nat) : List Int := be L.length 1 ++ (L.take k).flatMap rbs
theorem be_one16 (n : Int) (h0 : 0 ≤ n) (h1 : n < 256) : be n.toNat 1 = [n] := by
  have : n.toNat < 256 := by omega
  simp [be, Nat.mod_eq_of_lt this]
  omega
theorem rbs_len (r : Rw) : (rbs r).length = 26 := by unfold rbs; simp only [List.length_append, be_len]
theorem bytesK_zero (L : List Rw) : bytesK L 0 = be L.length 1 := by unfold bytesK; simp
theorem bytesK_succ {L : List Rw} {k : Nat} (hk : k < L.length) : bytesK L (k + 1) = bytesK L k ++ rbs L[k] := by
  unfold bytesK
  rw [List.take_succ_eq_append_getElem hk, List.flatMap_append, ← List.append_assoc]
  congr 1
theorem bytesK_all (L : List Rw) : bytesK L L.length = bytesR L := by unfold bytesK bytesR; rw [List.take_length]
theorem bytesK_len {L : List Rw} {k : Nat} (hk : k ≤ L.length) : (bytesK L k).length = 1 + 26 * k := by
  induction k with
  | zero => rw [bytesK_zero, be_len]
  | succ k ih => rw [bytesK_succ (by omega), List.length_append, ih (by omega), rbs_len]; omega
section
variable {P : Program} (t e : TypeId) (i0 : TypeInfo) (ht : P.underlying t = some (.slice e)) (hi : P.info? e = some i0) (hz0 : i0.zero = some (.int .u8 0)) (hz1 : i0.size = 1) (hz2 : i0.bytes = 1) (he : e = 5)
include ht hi hz0 hz1 hz2 he
/-- append of bytes that are read to a row of bytes of the call's own. -/
theorem wpList_append_Own (w : World) {ops : Array Oper} {rest : List Oper} {o : Oper} {a : Act} {Q : Exit → Act → World → Prop} (hgd : o.guard = none) (s x : Operand)
    (ho : o.op = .call { callee := .builtin .append, args := #[s, x], argTypes := #[t, t] })
    (B : Nat) (v : Value) (l : List Int) (hs : a.eval s = v) (hown : Own w (fun k => B ≤ k) v l) (G : Nat → Prop) (y : Value) (m : List Int) (hx : a.eval x = y) (hy : BSl w G y m) (hl : l.length + m.length ≤ 100000) (hB : B ≤ w.heap.size) (N : Nat) (hN : l.length + m.length = N)
    (h : ∀ a' c' w', Own w' (fun k => B ≤ k) (.slice a' N c') (l ++ m) → Kept (fun k => B ≤ k) w w' → wpList P ops Q rest (a.put o.dst (.slice a' N c')) w') : wpList P ops Q (o :: rest) a w := by
  subst hN he
  refine wpList_append_bsl w hgd s x t ho 5 i0 _ ht hi hz0 hz1 hz2 rfl v l.length l hs hown.2.1 G y m hx hy (by omega) fun a' c' w' h1 h2 h3 => ?_
  obtain ⟨k1, k2⟩ := hown.grow (G := fun k => B ≤ k) hy.isB (fun _ _ h => h) (fun k hk => by omega) h1 h2 h3
  exact h a' c' w' k1 k2
end
theorem own_one16 (w : World) (x : Int) (h0 : 0 ≤ x) (h1 : x < 256) (B : Nat) (hB : B ≤ w.heap.size) : Own (w.alloc (.cells #[.int .u8 x] 5)) (fun k => B ≤ k) (.slice (some ⟨w.heap.size, 0, none⟩) 1 1) [x] :=
  ⟨fun z hz => by rw [List.mem_singleton] at hz; rw [hz]; exact ⟨h0, h1⟩, ⟨rfl, .inr ⟨w.heap.size, 1, _, rfl, Nat.zero_le _, heap_alloc_new w _, Nat.le_refl _, by decide, rfl, rfl⟩⟩, fun k hk => by
    injection hk with hk
    replace hk : w.heap.size = k := hk
    omega⟩
def RbRel (w : World) (L : List Rw) (ov iv : Value) (wr : World) : Prop :=
  ∃ (k : Nat) (a : Option Addr) (c : Nat), k ≤ L.length ∧ iv = .int .i64 k ∧ ov = .slice a (1 + 26 * k) c ∧ Own wr (fun i => w.heap.size ≤ i) ov (bytesK L k) ∧ Kept NoB w wr
set_option maxRecDepth 100000 in
set_option maxHeartbeats 2000000 in
theorem RBytes16 (w : World) (v : Value) (L : List Rw) (F : Nat → Prop) (h : RwRd w F v L) (hok : ∀ r ∈ L, FineR r ∧ FitR r) (hl : L.length ≤ 6) : Calls Try.prog 55 #[v] w fun e w' => ∃ v', e = .returned v' ∧ Own w' (fun i => w.heap.size ≤ i) v' (bytesR L) ∧ Kept NoB w w' := by
  obtain ⟨i0, hi0, hz0, hz1, hz2⟩ := info_parts Try.info5
  obtain ⟨a, c, rfl⟩ := h.form
  have HV := Lib.hid h
  have HOK := Lib.hid hok
  have hw0 : IntKind.u8.wrap (L.length : Int) = (L.length : Int) := IntWalk.u8_in _ (by omega)
  have hll : (L.length : Int) ≤ 6 := by omega
  have H0 : Hid (RbRel w L (.slice (some ⟨w.heap.size, 0, none⟩) 1 1) (.int .i64 0) (w.alloc (.cells #[.int .u8 (L.length : Int)] 5))) := Lib.hid ⟨0, _, _, Nat.zero_le _, rfl, rfl, by
    rw [bytesK_zero]
    have := be_one16 (L.length : Int) (by omega) (by omega)
    rw [Int.toNat_natCast] at this
    rw [this]
    exact own_one16 w _ (by omega) (by omega) _ (Nat.le_refl _), (Kept.refl _ _).alloc _⟩
  clear h hok
  go_enter Try.func55, Try.ntmps55
  go_wp2
  go_loopw [3, 4] (RbRel w L) (fun _ i _ => L.length - (RowKit.intOf i).toNat)
  case atStart => exact H0.out
  case round =>
    obtain ⟨k, oa, oc, hk, rfl, rfl, hown, hK⟩ := hrel
    have hk0 : (0 : Int) ≤ (k : Int) := by omega
    have HK := Lib.hid hK
    have HO := Lib.hid hown
    have hvr := HV.out.no hK
    clear hown hK
    by_cases hlt : k < L.length
    · have hk1 : (k : Int) < (L.length : Int) := by omega
      obtain ⟨b, o, rfl, hFb, hb, hrow⟩ := HV.out.at_ k hlt
      have hokk := HOK.out _ (List.getElem_mem hlt)
      obtain ⟨⟨y0, y1, y2, y3, y4⟩, hy⟩ : ∃ y, y = L[k] := ⟨_, rfl⟩
      have hbk := bytesK_succ hlt
      rw [← hy] at hrow hokk hbk
      have HBK := Lib.hid hbk
      obtain ⟨⟨f0, f1, f2, f3, f4, f5⟩, g0, g1, g2, g3, g4, g5⟩ := hokk
      simp only at f0 f1 f2 f3 f4 f5 g0 g1 g2 g3 g4 g5
      obtain ⟨n1, rfl⟩ := Int.eq_ofNat_of_zero_le g0
      obtain ⟨n2, rfl⟩ := Int.eq_ofNat_of_zero_le g2
      obtain ⟨n4, rfl⟩ := Int.eq_ofNat_of_zero_le g4
      have HE1 : Hid (n1 < 256 ^ 8) := Lib.hid (by omega)
      have HE2 : Hid (n2 < 256 ^ 8) := Lib.hid (by omega)
      have HE4 : Hid (n4 < 256 ^ 8) := Lib.hid (by omega)
      have hw1 : IntKind.u8.wrap y0 = y0 := IntWalk.u8_in _ (by omega)
      have hw2 : IntKind.u8.wrap y3 = y3 := IntWalk.u8_in _ (by omega)
      have HTEN : Hid (∀ w', Kept (fun i => w.heap.size ≤ i) w w' → RwAt w' b (o + k * 5) ⟨y0, n1, n2, y3, n4⟩) := Lib.hid (fun w' hk => hrow.kept hk (by omega))
      have HK0 := Lib.hid (HK.out.mono (T := fun i => w.heap.size ≤ i) (fun _ _ h => absurd h (fun h => h)))
      obtain ⟨e0, e1, e2, e3, e4⟩ := HTEN.out _ HK0.out
      simp only at e0 e1 e2 e3 e4
      obtain ⟨l0, hl0⟩ : ∃ l, l = bytesK L k := ⟨_, rfl⟩
      rw [← hl0] at HO HBK
      have HLL0 : Hid (l0.length = 1 + 26 * k) := Lib.hid (by rw [hl0, bytesK_len hk])
      have HY0 : Hid (IsB [y0]) := Lib.hid (fun z hz => by rw [List.mem_singleton] at hz; rw [hz]; exact ⟨by omega, by omega⟩)
      have HO0 := Lib.hid (HO.out.kept ((Kept.refl NoB wr).alloc (.cells #[.int .u8 y0] 5)) (fun _ _ h => h))
      have HKA0 := Lib.hid (HK0.out.alloc (.cells #[.int .u8 y0] 5))
      have HS0 := Lib.hid HK0.out.size
      clear hy hbk hrow hl0 hvr hb hFb
      go_wp2_with (at_builtin; refine wpList_append_Own 34 5 i0 Try.underlying34 hi0 hz0 hz1 hz2 rfl _ rfl (.tmp 15) (.tmp 22) rfl w.heap.size (.slice oa (1 + 26 * k) oc) l0 rfl HO0.out (fun _ => True) (.slice (some ⟨wr.heap.size, 0, none⟩) 1 1) [y0] rfl ((own_one16 wr y0 (by omega) (by omega) 0 (Nat.zero_le _)).bsl.mono (fun _ _ _ => trivial)) (by have := HLL0.out; simp only [List.length_singleton]; omega) HKA0.out.size (26 * k + 2) (by rw [HLL0.out]; simp only [List.length_singleton]; omega) ?_; intro a1 c1 w1 ho1 hk1; have HO1 := Lib.hid ho1; have HK1 := Lib.hid (HKA0.out.trans hk1 (fun _ _ h => h)); clear ho1 hk1 e0 e1 e2 e3 e4; obtain ⟨e0, e1, e2, e3, e4⟩ := HTEN.out _ HK1.out; simp only at e0 e1 e2 e3 e4)
      have HLL1 : Hid ((l0 ++ [y0]).length = 26 * k + 2) := Lib.hid (by rw [List.length_append, HLL0.out]; simp only [List.length_singleton]; omega)
      refine (Big_any n1 8 _ (by omega) (by omega) HE1).mono ?_
      rintro e v2 ⟨bv2, rfl, hbv2, hkb2⟩
      obtain ⟨ba2, bc2, rfl⟩ := own_form hbv2.2.1
      rw [be_len] at hbv2 ⊢
      have HBV2 := Lib.hid hbv2
      have HOB2 := Lib.hid (HO1.out.kept hkb2 (fun _ _ h => h))
      have HKB2 := Lib.hid (HK1.out.trans hkb2 (fun _ _ h => absurd h (fun h => h)))
      clear hbv2 hkb2 e0 e1 e2 e3 e4
      obtain ⟨e0, e1, e2, e3, e4⟩ := HTEN.out _ HKB2.out
      simp only at e0 e1 e2 e3 e4
      go_wp2_with (at_builtin; refine wpList_append_Own 34 5 i0 Try.underlying34 hi0 hz0 hz1 hz2 rfl _ rfl (.tmp 24) (.tmp 30) rfl w.heap.size (.slice a1 (26 * k + 2) c1) (l0 ++ [y0]) rfl HOB2.out _ (.slice ba2 8 bc2) (be n1 8) rfl HBV2.out.bsl (by have := HLL1.out; rw [be_len]; omega) HKB2.out.size (26 * k + 10) (by rw [HLL1.out, be_len]) ?_; intro a2 c2 w2 ho2 hk2; have HO2 := Lib.hid ho2; have HK2 := Lib.hid (HKB2.out.trans hk2 (fun _ _ h => h)); clear ho2 hk2 e0 e1 e2 e3 e4; obtain ⟨e0, e1, e2, e3, e4⟩ := HTEN.out _ HK2.out; simp only at e0 e1 e2 e3 e4)
      have HLL2 : Hid ((l0 ++ [y0] ++ be n1 8).length = 26 * k + 10) := Lib.hid (by rw [List.length_append, HLL1.out, be_len])
      refine (Big_any n2 8 _ (by omega) (by omega) HE2).mono ?_
      rintro e v3 ⟨bv3, rfl, hbv3, hkb3⟩
      obtain ⟨ba3, bc3, rfl⟩ := own_form hbv3.2.1
      rw [be_len] at hbv3 ⊢
      have HBV3 := Lib.hid hbv3
      have HOB3 := Lib.hid (HO2.out.kept hkb3 (fun _ _ h => h))
      have HKB3 := Lib.hid (HK2.out.trans hkb3 (fun _ _ h => absurd h (fun h => h)))
      clear hbv3 hkb3 e0 e1 e2 e3 e4
      obtain ⟨e0, e1, e2, e3, e4⟩ := HTEN.out _ HKB3.out
      simp only at e0 e1 e2 e3 e4
      go_wp2_with (first
        | (at_builtin; refine wpList_append_Own 34 5 i0 Try.underlying34 hi0 hz0 hz1 hz2 rfl _ rfl (.tmp 32) (.tmp 38) rfl w.heap.size (.slice a2 (26 * k + 10) c2) (l0 ++ [y0] ++ be n1 8) rfl HOB3.out _ (.slice ba3 8 bc3) (be n2 8) rfl HBV3.out.bsl (by have := HLL2.out; rw [be_len]; omega) HKB3.out.size (26 * k + 18) (by rw [HLL2.out, be_len]) ?_; intro a3 c3 w3 ho3 hk3; have HO3 := Lib.hid ho3; have HK3 := Lib.hid (HKB3.out.trans hk3 (fun _ _ h => h)); clear ho3 hk3 e0 e1 e2 e3 e4; obtain ⟨e0, e1, e2, e3, e4⟩ := HTEN.out _ HK3.out; simp only at e0 e1 e2 e3 e4; (have HLL3 : Hid ((l0 ++ [y0] ++ be n1 8 ++ be n2 8).length = 26 * k + 18) := Lib.hid (by rw [List.length_append, HLL2.out, be_len])); (obtain ⟨l3, hl3⟩ : ∃ l, l = l0 ++ [y0] ++ be n1 8 ++ be n2 8 := ⟨_, rfl⟩); rw [← hl3] at HO3 HLL3; (have HL3 := Lib.hid hl3); clear hl3; (have HO3A := Lib.hid (HO3.out.kept ((Kept.refl NoB w3).alloc (.cells #[.int .u8 y3] 5)) (fun _ _ h => h))); (have HKA3 := Lib.hid (HK3.out.alloc (.cells #[.int .u8 y3] 5))))
        | (at_builtin; refine wpList_append_Own 34 5 i0 Try.underlying34 hi0 hz0 hz1 hz2 rfl _ rfl (.tmp 40) (.tmp 47) rfl w.heap.size (.slice a3 (26 * k + 18) c3) l3 rfl HO3A.out (fun _ => True) (.slice (some ⟨w3.heap.size, 0, none⟩) 1 1) [y3] rfl ((own_one16 w3 y3 (by omega) (by omega) 0 (Nat.zero_le _)).bsl.mono (fun _ _ _ => trivial)) (by have := HLL3.out; simp only [List.length_singleton]; omega) HKA3.out.size (26 * k + 19) (by rw [HLL3.out]; simp only [List.length_singleton]) ?_; intro a4 c4 w4 ho4 hk4; have HO4 := Lib.hid ho4; have HK4 := Lib.hid (HKA3.out.trans hk4 (fun _ _ h => h)); clear ho4 hk4 e0 e1 e2 e3 e4; obtain ⟨e0, e1, e2, e3, e4⟩ := HTEN.out _ HK4.out; simp only at e0 e1 e2 e3 e4))
      have HLL4 : Hid ((l3 ++ [y3]).length = 26 * k + 19) := Lib.hid (by rw [List.length_append, HLL3.out]; simp only [List.length_singleton])
      refine (Big_any n4 8 _ (by omega) (by omega) HE4).mono ?_
      rintro e v5 ⟨bv5, rfl, hbv5, hkb5⟩
      obtain ⟨ba5, bc5, rfl⟩ := own_form hbv5.2.1
      rw [be_len] at hbv5 ⊢
      have HBV5 := Lib.hid hbv5
      have HOB5 := Lib.hid (HO4.out.kept hkb5 (fun _ _ h => h))
      have HKB5 := Lib.hid (HK4.out.trans hkb5 (fun _ _ h => absurd h (fun h => h)))
      clear hbv5 hkb5 e0 e1 e2 e3 e4
      obtain ⟨e0, e1, e2, e3, e4⟩ := HTEN.out _ HKB5.out
      simp only at e0 e1 e2 e3 e4
      go_wp2_with (at_builtin; refine wpList_append_Own 34 5 i0 Try.underlying34 hi0 hz0 hz1 hz2 rfl _ rfl (.tmp 49) (.tmp 55) rfl w.heap.size (.slice a4 (26 * k + 19) c4) (l3 ++ [y3]) rfl HOB5.out _ (.slice ba5 8 bc5) (be n4 8) rfl HBV5.out.bsl (by have := HLL4.out; rw [be_len]; omega) HKB5.out.size (1 + 26 * (k + 1)) (by rw [HLL4.out, be_len]; omega) ?_; intro a5 c5 w5 ho5 hk5; have HO5 := Lib.hid ho5; have HK5 := Lib.hid (HKB5.out.trans hk5 (fun _ _ h => h)); clear ho5 hk5 e0 e1 e2 e3 e4; obtain ⟨e0, e1, e2, e3, e4⟩ := HTEN.out _ HK5.out; simp only at e0 e1 e2 e3 e4)
      have hfin : l3 ++ [y3] ++ be n4 8 = bytesK L (k + 1) := by
        rw [HBK.out, HL3.out]
        unfold rbs
        simp only [Int.toNat_natCast]
        rw [be_one16 y0 (by omega) (by omega), be_one16 y3 (by omega) (by omega)]
        simp only [List.append_assoc]
      exact ⟨⟨k + 1, _, _, by omega, by go_num, rfl, by rw [← hfin]; exact HO5.out, HK5.out.mono (fun i hi h => absurd h (by omega))⟩, by simp [RowKit.intOf]; omega⟩
    · obtain rfl : k = L.length := by omega
      go_wp2
      go_ret
      exact ⟨_, rfl, by rw [← bytesK_all]; exact HO.out, HK.out⟩
end Go.Proofs.Ytnmclhgljpcjcaa
