/-
  Package sess: Put.
-/
import Derived.Test.YtnmclhgljpcjcaaSesL
import Derived.Test.YtnmclhgljpcjcaaOutB
namespace Go.Proofs.Ytnmclhgljpcjcaa
open Go.RowKit
set_option linter.unusedVariables false

/-- A writer of at most 500 bytes that has these; its blocks are F's, or new, and none of P's. -/
def PuSt (w : World) (F : Nat → Prop) (go : Nat) (P : Nat → Prop) (bs : List Int) (wr : World) : Prop :=
  ∃ Fo, OutAt wr Fo go ⟨bs, 500, 0⟩ ∧ (∀ i, Fo i → (F i ∨ w.heap.size ≤ i) ∧ i < wr.heap.size) ∧ (∀ k, P k → ¬ Fo k ∧ k < wr.heap.size) ∧ Kept F w wr
theorem PuSt.no {w wr w' : World} {F P : Nat → Prop} {go : Nat} {bs : List Int} (h : PuSt w F go P bs wr) (hk : Kept NoB wr w') : PuSt w F go P bs w' := by
  obtain ⟨Fo, h1, h2, h3, h4⟩ := h
  exact ⟨Fo, h1.kept hk (fun _ _ h => h), fun i hi => ⟨(h2 i hi).1, Nat.lt_of_lt_of_le (h2 i hi).2 hk.size⟩, fun k hk' => ⟨(h3 k hk').1, Nat.lt_of_lt_of_le (h3 k hk').2 hk.size⟩, h4.trans hk (fun _ _ h => absurd h (fun h => h))⟩
theorem PuSt.add {w wr w' : World} {F P : Nat → Prop} {go b : Nat} {bs : List Int} (h : PuSt w F go P bs wr) (hk : Kept NoB wr w') (hb : wr.heap.size ≤ b) (hb' : b < w'.heap.size) : PuSt w F go (fun k => P k ∨ k = b) bs w' := by
  obtain ⟨Fo, h1, h2, h3, h4⟩ := h
  refine ⟨Fo, h1.kept hk (fun _ _ h => h), fun i hi => ⟨(h2 i hi).1, Nat.lt_of_lt_of_le (h2 i hi).2 hk.size⟩, fun k hk' => ?_, h4.trans hk (fun _ _ h => absurd h (fun h => h))⟩
  rcases hk' with hk' | rfl
  · exact ⟨(h3 k hk').1, Nat.lt_of_lt_of_le (h3 k hk').2 hk.size⟩
  · exact ⟨fun hf => by have := (h2 _ hf).2; omega, hb'⟩
theorem PuSt.less {w wr : World} {F P Q : Nat → Prop} {go : Nat} {bs : List Int} (h : PuSt w F go P bs wr) (hq : ∀ k, Q k → P k) : PuSt w F go Q bs wr := by
  obtain ⟨Fo, h1, h2, h3, h4⟩ := h
  exact ⟨Fo, h1, h2, fun k hk => h3 k (hq k hk), h4⟩
theorem put_fits (n : Int) (width : Nat) (h1 : 1 ≤ width) (h8 : width ≤ 8) (hn : n.toNat < 256 ^ width) : putErr n width = 0 := by
  unfold putErr
  rw [if_neg (by omega), Int.toNat_natCast, if_pos (Nat.div_eq_of_lt hn)]
theorem PuSt.put {w wr : World} {F P : Nat → Prop} {go : Nat} {bs : List Int} (h : PuSt w F go P bs wr) (n : Int) (width : Nat) (h0 : 0 ≤ n) (h1 : 1 ≤ width) (h8 : width ≤ 8) (hn : n.toNat < 256 ^ width) (hb : bs.length + width ≤ 500) :
    Calls Try.prog 82 #[.pointer (some ⟨go, 0, none⟩), .int .u64 n, .int .i64 width] wr fun r w' => r = .returned (.tuple #[]) ∧ PuSt w F go P (bs ++ be n.toNat width) w' ∧ ∃ S, Kept S wr w' ∧ ∀ k, P k → ¬ S k := by
  obtain ⟨Fo, ho, h2, h3, h4⟩ := h
  refine (Put_any go ⟨bs, 500, 0⟩ n width Fo wr ho h0 (by show bs.length ≤ 1000000; omega)).mono ?_
  rintro r w' ⟨rfl, hO, hk⟩
  rw [put_fits n width h1 h8 hn, Int.toNat_natCast] at hO
  have he : (⟨bs, 500, 0⟩ : OSt).emit 0 (be n.toNat width) = ⟨bs ++ be n.toNat width, 500, 0⟩ := by
    unfold OSt.emit
    rw [if_pos rfl, if_pos rfl, if_pos (by rw [be_len]; show (width : Int) ≤ 500 - (bs.length : Int); omega)]
  rw [he] at hO
  have hs := hk.size
  have hs4 := h4.size
  refine ⟨rfl, ⟨fun k => (Fo k ∨ wr.heap.size ≤ k) ∧ k < w'.heap.size, hO.mono (fun k hk' hh => ⟨hh, hk'⟩), fun i hi => ⟨?_, hi.2⟩, fun k hp => ⟨fun hf => ?_, Nat.lt_of_lt_of_le (h3 k hp).2 hs⟩, h4.trans hk (fun i hi hf => ?_)⟩, Fo, hk, fun k hp => (h3 k hp).1⟩
  · rcases hi.1 with hi | hi
    · exact (h2 i hi).1
    · exact .inr (by omega)
  · rcases hf.1 with hf | hf
    · exact (h3 k hp).1 hf
    · have := (h3 k hp).2; omega
  · rcases (h2 i hf).1 with hh | hh
    · exact hh
    · omega
/-- What lies in P's blocks is kept. -/
def KeptP (P : Nat → Prop) (a b : World) : Prop := ∃ S, Kept S a b ∧ ∀ k, P k → ¬ S k
theorem KeptP.trans {P Q R : Nat → Prop} {a b c : World} (h : KeptP P a b) (h' : KeptP Q b c) (hp : ∀ k, R k → P k) (hq : ∀ k, R k → Q k) : KeptP R a c := by
  obtain ⟨S, h1, h2⟩ := h
  obtain ⟨S', h3, h4⟩ := h'
  exact ⟨fun i => S i ∨ S' i, (h1.mono (fun _ _ h => .inl h)).trans h3 (fun _ _ h => .inr h), fun k hk hs => by
    rcases hs with hs | hs
    · exact h2 k (hp k hk) hs
    · exact h4 k (hq k hk) hs⟩
def SpuRel (w : World) (F : Nat → Prop) (go : Nat) (rv : Value) (L : List Rw) (W : World) (iv : Value) (wr : World) : Prop :=
  ∃ k : Nat, k ≤ L.length ∧ iv = .int .i64 k ∧ PuSt w F go (fun i => rv.ownBlock = some i) (bytesK L k) wr ∧ KeptP (fun i => rv.ownBlock = some i) W wr
set_option maxRecDepth 100000 in
set_option maxHeartbeats 2000000 in
theorem SPut_any (w : World) (g go : Nat) (L : List Rw) (F : Nat → Prop) (h : TabAt w g L) (ho : OutAt w F go ⟨[], 500, 0⟩) (hF : ∀ i, F i → i < w.heap.size) : Calls Try.prog 52 #[.pointer (some ⟨g, 0, none⟩), .pointer (some ⟨go, 0, none⟩)] w fun e w' => e = .returned (.tuple #[]) ∧ (∃ Fo, OutAt w' Fo go ⟨bytesR L, 500, 0⟩) ∧ Kept F w w' := by
  have HA := Lib.hid (SAll_any w g L h)
  have HO := Lib.hid ho
  have HF := Lib.hid hF
  have hfew := h.few
  have HOK := Lib.hid h.ok
  clear h ho hF
  go_enter Try.func52, Try.ntmps52
  go_wp2_with fail
  refine HA.out.mono ?_
  rintro e w1 ⟨rv, rfl, hrow, hk1⟩
  have HRW := Lib.hid hrow
  obtain ⟨ra, rc, rfl⟩ := hrow.form
  have HST1 : Hid (PuSt w F go (fun i => (Value.slice ra L.length rc).ownBlock = some i) [] w1) := Lib.hid
    ⟨F, HO.out.kept hk1 (fun _ _ h => h), fun i hi => ⟨.inl hi, Nat.lt_of_lt_of_le (HF.out i hi) hk1.size⟩, fun k hk => ⟨fun hf => by have := (hrow.base k hk).1; have := HF.out k hf; omega, (hrow.base k hk).2⟩, hk1.mono (fun _ _ h => absurd h (fun h => h))⟩
  have hw0 : IntKind.u64.wrap (L.length : Int) = (L.length : Int) := IntWalk.u64_in _ (by omega)
  clear hrow hk1
  go_wp2_with fail
  refine (HST1.out.put (L.length : Int) 1 (by omega) (by decide) (by decide) (by rw [Int.toNat_natCast]; omega) (by simp)).mono ?_
  rintro e w2 ⟨rfl, hst2, S2, hk2, hS2⟩
  rw [List.nil_append, Int.toNat_natCast, ← bytesK_zero L] at hst2
  have H2 : Hid (SpuRel w F go (.slice ra L.length rc) L w1 (.int .i64 0) w2) := Lib.hid ⟨0, Nat.zero_le _, rfl, hst2, S2, hk2, hS2⟩
  clear hst2 hk2 hS2 hw0
  go_wp2_with fail
  go_loopw [18] (SpuRel w F go (.slice ra L.length rc) L w1) (fun i _ => L.length - (RowKit.intOf i).toNat)
  case atStart => exact H2.out
  case round =>
    obtain ⟨k, hk, rfl, hst, S, hkS, hS⟩ := hrel
    have hk0 : (0 : Int) ≤ (k : Int) := by omega
    have HST := Lib.hid hst
    have HKS := Lib.hid hkS
    have HS := Lib.hid hS
    by_cases hlt : k < L.length
    · have hk1 : (k : Int) < (L.length : Int) := by omega
      have hrd := (HRW.out.kept hkS hS).rd (F := fun _ => True) (fun _ _ => trivial)
      obtain ⟨b, o, rfl, _, hb, hrow⟩ := hrd.at_ k hlt
      have hokk := HOK.out _ (List.getElem_mem hlt)
      obtain ⟨⟨y0, y1, y2, y3, y4⟩, hy⟩ : ∃ y, y = L[k] := ⟨_, rfl⟩
      have hbk := bytesK_succ hlt
      rw [← hy] at hrow hokk hbk
      have HBK := Lib.hid hbk
      obtain ⟨⟨f0, f1, f2, f3, f4, f5⟩, g0, g1, g2, g3, g4, g5⟩ := hokk
      obtain ⟨e0, e1, e2, e3, e4⟩ := hrow
      simp only at f0 f1 f2 f3 f4 f5 g0 g1 g2 g3 g4 g5 e0 e1 e2 e3 e4
      have hwa : IntKind.u64.wrap y0 = y0 := IntWalk.u64_in _ (by omega)
      have hwb : IntKind.u64.wrap y3 = y3 := IntWalk.u64_in _ (by omega)
      have hl0 := bytesK_len hk
      obtain ⟨l0, hl⟩ : ∃ l, l = bytesK L k := ⟨_, rfl⟩
      rw [← hl] at HST HBK hl0
      have hkA := (Kept.refl NoB wr).alloc (.cells #[.int .i64 y0, .int .u64 y1, .int .u64 y2, .int .i64 y3, .int .u64 y4] 75)
      have HX := Lib.hid (heap_alloc_new wr (.cells #[.int .i64 y0, .int .u64 y1, .int .u64 y2, .int .i64 y3, .int .u64 y4] 75))
      obtain ⟨W, hW⟩ : ∃ W, W = wr.alloc (.cells #[.int .i64 y0, .int .u64 y1, .int .u64 y2, .int .i64 y3, .int .u64 y4] 75) := ⟨_, rfl⟩
      rw [← hW] at hkA HX
      have HP0 := Lib.hid (HST.out.add hkA (Nat.le_refl _) (heap_lt HX.out))
      have HKA := Lib.hid hkA
      have HWW := Lib.hid hW
      have HL0 := Lib.hid hl0
      obtain ⟨x0, x1, x2, x3, x4⟩ := cells5r (v := ⟨y0, y1, y2, y3, y4⟩) HX.out
      simp only at x0 x1 x2 x3 x4
      clear hst hkS hS hrd hb hy hbk hl hkA hW hl0
      go_upto_region 6 with fail
      rw [← HWW.out]
      clear e0 e1 e2 e3 e4
      go_wp2_with fail
      refine (HP0.out.put y0 1 (by omega) (by decide) (by decide) (by omega) (by have := HL0.out; (try simp only [List.length_append, be_len]); omega)).mono ?_
      rintro e p1 ⟨rfl, hp1, Sx1, hkx1, hSx1⟩
      have HP1 := Lib.hid hp1
      have HX1 := Lib.hid (hkx1.heap (hSx1 _ (.inr rfl)) HX.out)
      have HKX1 := Lib.hid hkx1
      have HSX1 := Lib.hid hSx1
      clear hp1 hkx1 hSx1 x0 x1 x2 x3 x4
      obtain ⟨x0, x1, x2, x3, x4⟩ := cells5r (v := ⟨y0, y1, y2, y3, y4⟩) HX1.out
      simp only at x0 x1 x2 x3 x4
      go_wp2_with fail
      refine (HP1.out.put y1 8 (by omega) (by decide) (by decide) (by omega) (by have := HL0.out; (try simp only [List.length_append, be_len]); omega)).mono ?_
      rintro e p2 ⟨rfl, hp2, Sx2, hkx2, hSx2⟩
      have HP2 := Lib.hid hp2
      have HX2 := Lib.hid (hkx2.heap (hSx2 _ (.inr rfl)) HX1.out)
      have HKX2 := Lib.hid hkx2
      have HSX2 := Lib.hid hSx2
      clear hp2 hkx2 hSx2 x0 x1 x2 x3 x4
      obtain ⟨x0, x1, x2, x3, x4⟩ := cells5r (v := ⟨y0, y1, y2, y3, y4⟩) HX2.out
      simp only at x0 x1 x2 x3 x4
      go_wp2_with fail
      refine (HP2.out.put y2 8 (by omega) (by decide) (by decide) (by omega) (by have := HL0.out; (try simp only [List.length_append, be_len]); omega)).mono ?_
      rintro e p3 ⟨rfl, hp3, Sx3, hkx3, hSx3⟩
      have HP3 := Lib.hid hp3
      have HX3 := Lib.hid (hkx3.heap (hSx3 _ (.inr rfl)) HX2.out)
      have HKX3 := Lib.hid hkx3
      have HSX3 := Lib.hid hSx3
      clear hp3 hkx3 hSx3 x0 x1 x2 x3 x4
      obtain ⟨x0, x1, x2, x3, x4⟩ := cells5r (v := ⟨y0, y1, y2, y3, y4⟩) HX3.out
      simp only at x0 x1 x2 x3 x4
      go_wp2_with fail
      refine (HP3.out.put y3 1 (by omega) (by decide) (by decide) (by omega) (by have := HL0.out; (try simp only [List.length_append, be_len]); omega)).mono ?_
      rintro e p4 ⟨rfl, hp4, Sx4, hkx4, hSx4⟩
      have HP4 := Lib.hid hp4
      have HX4 := Lib.hid (hkx4.heap (hSx4 _ (.inr rfl)) HX3.out)
      have HKX4 := Lib.hid hkx4
      have HSX4 := Lib.hid hSx4
      clear hp4 hkx4 hSx4 x0 x1 x2 x3 x4
      obtain ⟨x0, x1, x2, x3, x4⟩ := cells5r (v := ⟨y0, y1, y2, y3, y4⟩) HX4.out
      simp only at x0 x1 x2 x3 x4
      go_wp2_with fail
      refine (HP4.out.put y4 8 (by omega) (by decide) (by decide) (by omega) (by have := HL0.out; (try simp only [List.length_append, be_len]); omega)).mono ?_
      rintro e p5 ⟨rfl, hp5, Sx5, hkx5, hSx5⟩
      have HP5 := Lib.hid hp5
      have HX5 := Lib.hid (hkx5.heap (hSx5 _ (.inr rfl)) HX4.out)
      have HKX5 := Lib.hid hkx5
      have HSX5 := Lib.hid hSx5
      clear hp5 hkx5 hSx5 x0 x1 x2 x3 x4
      obtain ⟨x0, x1, x2, x3, x4⟩ := cells5r (v := ⟨y0, y1, y2, y3, y4⟩) HX5.out
      simp only at x0 x1 x2 x3 x4
      go_wp2_with fail
      have hfin : l0 ++ be y0.toNat 1 ++ be y1.toNat 8 ++ be y2.toNat 8 ++ be y3.toNat 1 ++ be y4.toNat 8 = bytesK L (k + 1) := by
        rw [HBK.out]
        unfold rbs
        simp only [List.append_assoc]
      have hpf := HP5.out.less (Q := fun i => (Value.slice (some ⟨b, o, none⟩) L.length rc).ownBlock = some i) (fun i hi => .inl hi)
      rw [hfin] at hpf
      have hks : KeptP (fun i => (Value.slice (some ⟨b, o, none⟩) L.length rc).ownBlock = some i) w1 p5 := by
        have q0 : KeptP (fun i => (Value.slice (some ⟨b, o, none⟩) L.length rc).ownBlock = some i) w1 W := KeptP.trans ⟨S, HKS.out, HS.out⟩ ⟨NoB, HKA.out, fun _ _ h => h⟩ (Q := fun _ => True) (fun _ h => h) (fun _ _ => trivial)
        have q1 := KeptP.trans q0 ⟨Sx1, HKX1.out, HSX1.out⟩ (R := fun i => (Value.slice (some ⟨b, o, none⟩) L.length rc).ownBlock = some i) (fun _ h => h) (fun _ h => .inl h)
        have q2 := KeptP.trans q1 ⟨Sx2, HKX2.out, HSX2.out⟩ (R := fun i => (Value.slice (some ⟨b, o, none⟩) L.length rc).ownBlock = some i) (fun _ h => h) (fun _ h => .inl h)
        have q3 := KeptP.trans q2 ⟨Sx3, HKX3.out, HSX3.out⟩ (R := fun i => (Value.slice (some ⟨b, o, none⟩) L.length rc).ownBlock = some i) (fun _ h => h) (fun _ h => .inl h)
        have q4 := KeptP.trans q3 ⟨Sx4, HKX4.out, HSX4.out⟩ (R := fun i => (Value.slice (some ⟨b, o, none⟩) L.length rc).ownBlock = some i) (fun _ h => h) (fun _ h => .inl h)
        exact KeptP.trans q4 ⟨Sx5, HKX5.out, HSX5.out⟩ (fun _ h => h) (fun _ h => .inl h)
      exact ⟨⟨k + 1, by omega, by go_num, hpf, hks⟩, by simp [RowKit.intOf]; omega⟩
    · obtain rfl : k = L.length := by omega
      rw [bytesK_all] at HST
      clear hst hkS hS
      go_wp2
      go_end0
      obtain ⟨Fo, h1, _, _, h4⟩ := HST.out
      exact ⟨rfl, ⟨Fo, h1⟩, h4⟩
end Go.Proofs.Ytnmclhgljpcjcaa
