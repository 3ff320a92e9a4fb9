/-
  Package conf: Put.
-/
import Derived.Test.YtbdenjmnohhhiaaDoorCnfBA
import Derived.Test.YtbdenjmnohhhiaaDoorCnfI
import Derived.Test.YtbdenjmnohhhiaaDoorOutB
namespace Go.Proofs.YtbdenjmnohhhiaaDoor
open Go.RowKit
set_option linter.unusedVariables false
set_option linter.unusedSimpArgs false

/-- A writer of at most 100 bytes that has these; its blocks are F's, or new, and none of P's. -/
def PuSt (w : World) (F : Nat → Prop) (go : Nat) (P : Nat → Prop) (bs : List Int) (wr : World) : Prop :=
  ∃ Fo, OutAt wr Fo go ⟨bs, 100, 0⟩ ∧ (∀ i, Fo i → (F i ∨ w.heap.size ≤ i) ∧ i < wr.heap.size) ∧ (∀ k, P k → ¬ Fo k ∧ k < wr.heap.size) ∧ Kept F w wr
theorem put_fits (n : Int) (width : Nat) (h1 : 1 ≤ width) (h8 : width ≤ 8) (hn : n.toNat < 256 ^ width) : putErr n width = 0 := by
  unfold putErr
  rw [if_neg (by omega), Int.toNat_natCast, if_pos (Nat.div_eq_of_lt hn)]
theorem PuSt.step {w wr w' : World} {F P Fo : Nat → Prop} {go : Nat} {bs bs' : List Int} (h2 : ∀ i, Fo i → (F i ∨ w.heap.size ≤ i) ∧ i < wr.heap.size) (h3 : ∀ k, P k → ¬ Fo k ∧ k < wr.heap.size) (h4 : Kept F w wr)
    (hO : OutAt w' (fun k => Fo k ∨ wr.heap.size ≤ k) go ⟨bs', 100, 0⟩) (hk : Kept Fo wr w') : PuSt w F go P bs' w' := by
  have hs := hk.size
  have hs4 := h4.size
  refine ⟨fun k => (Fo k ∨ wr.heap.size ≤ k) ∧ k < w'.heap.size, hO.mono (fun k hk' hh => ⟨hh, hk'⟩), fun i hi => ⟨?_, hi.2⟩, fun k hp => ⟨fun hf => ?_, Nat.lt_of_lt_of_le (h3 k hp).2 hs⟩, h4.trans hk (fun i hi hf => ?_)⟩
  · rcases hi.1 with hi | hi
    · exact (h2 i hi).1
    · exact .inr (by omega)
  · rcases hf.1 with hf | hf
    · exact (h3 k hp).1 hf
    · have := (h3 k hp).2; omega
  · rcases (h2 i hf).1 with hh | hh
    · exact hh
    · omega
theorem PuSt.put {w wr : World} {F P : Nat → Prop} {go : Nat} {bs : List Int} (h : PuSt w F go P bs wr) (n : Int) (width : Nat) (h0 : 0 ≤ n) (h1 : 1 ≤ width) (h8 : width ≤ 8) (hn : n.toNat < 256 ^ width) (hb : bs.length + width ≤ 100) :
    Calls Tryd.prog 22 #[.pointer (some ⟨go, 0, none⟩), .int .u64 n, .int .i64 width] wr fun r w' => r = .returned (.tuple #[]) ∧ PuSt w F go P (bs ++ be n.toNat width) w' ∧ ∃ S, Kept S wr w' ∧ ∀ k, P k → ¬ S k := by
  obtain ⟨Fo, ho, h2, h3, h4⟩ := h
  refine (Put_any go ⟨bs, 100, 0⟩ n width Fo wr ho h0 (by show bs.length ≤ 1000000; omega)).mono ?_
  rintro r w' ⟨rfl, hO, hk⟩
  rw [put_fits n width h1 h8 hn, Int.toNat_natCast] at hO
  have he : (⟨bs, 100, 0⟩ : OSt).emit 0 (be n.toNat width) = ⟨bs ++ be n.toNat width, 100, 0⟩ := by
    unfold OSt.emit
    rw [if_pos rfl, if_pos rfl, if_pos (by rw [be_len]; show (width : Int) ≤ 100 - (bs.length : Int); omega)]
  rw [he] at hO
  exact ⟨rfl, PuSt.step (bs := bs) h2 h3 h4 hO hk, Fo, hk, fun k hp => (h3 k hp).1⟩
theorem PuSt.bool {w wr : World} {F P : Nat → Prop} {go : Nat} {bs : List Int} (h : PuSt w F go P bs wr) (x : Bool) (hb : bs.length + 1 ≤ 100) :
    Calls Tryd.prog 23 #[.pointer (some ⟨go, 0, none⟩), .bool x] wr fun r w' => r = .returned (.tuple #[]) ∧ PuSt w F go P (bs ++ [bitI x]) w' ∧ ∃ S, Kept S wr w' ∧ ∀ k, P k → ¬ S k := by
  obtain ⟨Fo, ho, h2, h3, h4⟩ := h
  refine (Bool_any go ⟨bs, 100, 0⟩ x Fo wr ho (by show bs.length ≤ 1000000; omega)).mono ?_
  rintro r w' ⟨rfl, hO, hk⟩
  have he : (⟨bs, 100, 0⟩ : OSt).emit 0 [if x then 1 else 0] = ⟨bs ++ [bitI x], 100, 0⟩ := by
    unfold OSt.emit
    rw [if_pos rfl, if_pos rfl, if_pos (by show ((1 : Nat) : Int) ≤ 100 - (bs.length : Int); omega)]
    rfl
  rw [he] at hO
  exact ⟨rfl, PuSt.step (bs := bs) h2 h3 h4 hO hk, Fo, hk, fun k hp => (h3 k hp).1⟩
/-- What lies in P's blocks is kept. -/
def KeptP (P : Nat → Prop) (a b : World) : Prop := ∃ S, Kept S a b ∧ ∀ k, P k → ¬ S k
theorem KeptP.trans {P : Nat → Prop} {a b c : World} (h : KeptP P a b) (h' : KeptP P b c) : KeptP P a c := by
  obtain ⟨S, h1, h2⟩ := h
  obtain ⟨S', h3, h4⟩ := h'
  exact ⟨fun i => S i ∨ S' i, (h1.mono (fun _ _ h => .inl h)).trans h3 (fun _ _ h => .inr h), fun k hk hs => by
    rcases hs with hs | hs
    · exact h2 k hk hs
    · exact h4 k hk hs⟩
def headC (ch ep : Int) (fr : Bool) (jn : Int) (n : Nat) : List Int := be ch.toNat 1 ++ be ep.toNat 8 ++ [bitI fr] ++ be jn.toNat 1 ++ be n 1
theorem headC_len (ch ep : Int) (fr : Bool) (jn : Int) (n : Nat) : (headC ch ep fr jn n).length = 12 := by
  unfold headC
  simp only [List.length_append, be_len, List.length_singleton]
def CpuRel (w : World) (FO : Nat → Prop) (go : Nat) (P : Nat → Prop) (hd ns : List Int) (W : World) (iv : Value) (wr : World) : Prop :=
  ∃ k : Nat, k ≤ ns.length ∧ iv = .int .i64 k ∧ PuSt w FO go P (hd ++ ns.take k) wr ∧ KeptP P W wr
def CPutE (w : World) (FO : Nat → Prop) (go : Nat) (c : Cf) (e : Ending) (w' : World) : Prop :=
  e = .returned (.int .i64 (if rgtB c = true then 0 else 4)) ∧ (∃ Fo, OutAt w' Fo go ⟨if rgtB c = true then bytesC c else [], 100, 0⟩ ∧ ∀ i, Fo i → FO i ∨ w.heap.size ≤ i) ∧ Kept FO w w'
set_option maxRecDepth 100000 in
set_option maxHeartbeats 2000000 in
theorem CPut_bad (w : World) (go : Nat) (v : Value) (c : Cf) (F FO : Nat → Prop) (h : CfV w F v c) (ho : OutAt w FO go ⟨[], 100, 0⟩) (hr : rgtB c = false) :
    Calls Tryd.prog 7 #[.pointer (some ⟨go, 0, none⟩), v] w (CPutE w FO go c) := by
  obtain ⟨u, rfl, hn, h0, htop, hl⟩ := id h
  have HR := Lib.hid (fun w' (hk : Kept NoB w w') => Right_any _ c F w' (h.kept hk (fun _ _ _ h => h)))
  unfold CPutE
  simp only [hr] at HR ⊢
  have HO := Lib.hid ho
  clear h ho hr hn h0 htop hl
  obtain ⟨ch, ep, ns, fr, jn⟩ := c
  simp only at HR ⊢
  have HB := Lib.hid (heap_alloc_new w (.cells #[.int .i64 ch, .int .u64 ep, u, .bool fr, .int .i64 jn] 25))
  have HK := Lib.hid ((Kept.refl NoB w).alloc (.cells #[.int .i64 ch, .int .u64 ep, u, .bool fr, .int .i64 jn] 25))
  obtain ⟨e0, e1, e2, e3, e4⟩ := cells5 HB.out
  go_enter Tryd.func7, Tryd.ntmps7
  go_wp2_with fail
  refine (HR.out _ HK.out).mono ?_
  rintro e w1 ⟨rfl, hk1⟩
  have HK1 := Lib.hid (HK.out.trans hk1 (fun _ _ h => h))
  clear hk1 e0 e1 e2 e3 e4
  go_wp2_with fail
  go_ret
  exact ⟨rfl, ⟨FO, HO.out.kept HK1.out (fun _ _ h => h), fun _ h => .inl h⟩, HK1.out.mono (fun _ _ h => absurd h (fun h => h))⟩
set_option maxRecDepth 100000 in
set_option maxHeartbeats 4000000 in
theorem CPut_good (w : World) (go : Nat) (v : Value) (c : Cf) (F FO : Nat → Prop) (h : CfV w F v c) (ho : OutAt w FO go ⟨[], 100, 0⟩) (hF : ∀ i, FO i → i < w.heap.size) (hd : ∀ k, F k → ¬ FO k) (hr : rgtB c = true) :
    Calls Tryd.prog 7 #[.pointer (some ⟨go, 0, none⟩), v] w (CPutE w FO go c) := by
  obtain ⟨u, rfl, hn, h0, htop, hl⟩ := id h
  have HR := Lib.hid (fun w' (hk : Kept NoB w w') => Right_any _ c F w' (h.kept hk (fun _ _ _ h => h)))
  have hnum := Rgt.nums (of_decide_eq_true (show decide (Rgt c) = true from hr))
  unfold CPutE
  simp only [hr] at HR ⊢
  have HO := Lib.hid ho
  have HF := Lib.hid hF
  have HD := Lib.hid hd
  have HN := Lib.hid hn
  obtain ⟨bc, hbc⟩ : ∃ b, b = bytesC c := ⟨_, rfl⟩
  have HBC : Hid (bc = headC c.ch c.ep c.fr c.jn c.ns.length ++ c.ns) := Lib.hid hbc
  simp only [if_true]
  rw [← hbc]
  obtain ⟨ua, uc, rfl, _⟩ := id hn
  clear h ho hF hd hr hn hl hbc
  obtain ⟨ch, ep, ns, fr, jn⟩ := c
  simp only at HR HN HBC hnum h0 htop ⊢
  obtain ⟨g1, g2, g3, g4, g5, g6, g7, g8⟩ := hnum
  have HG8 := Lib.hid g8
  clear g8
  obtain ⟨n, hnn⟩ : ∃ n, n = ns.length := ⟨_, rfl⟩
  rw [← hnn] at HBC g4 g5 HN HR ⊢
  have HNN := Lib.hid hnn
  clear hnn
  have HB := Lib.hid (heap_alloc_new w (.cells #[.int .i64 ch, .int .u64 ep, .slice ua n uc, .bool fr, .int .i64 jn] 25))
  have HK := Lib.hid ((Kept.refl NoB w).alloc (.cells #[.int .i64 ch, .int .u64 ep, .slice ua n uc, .bool fr, .int .i64 jn] 25))
  obtain ⟨P, hP⟩ : ∃ P : Nat → Prop, P = fun k => (F k ∧ k < w.heap.size) ∨ k = w.heap.size := ⟨_, rfl⟩
  have HPN : Hid (P w.heap.size) := Lib.hid (by rw [hP]; exact .inr rfl)
  have HPF : Hid (∀ k, k < w.heap.size → F k → P k) := Lib.hid (fun k h1 h2 => by rw [hP]; exact .inl ⟨h2, h1⟩)
  have HP0 : Hid (∀ w', Kept NoB w w' → w.heap.size < w'.heap.size → PuSt w FO go P [] w') := Lib.hid (fun w' hk hs => ⟨FO, HO.out.kept hk (fun _ _ h => h), fun i hi => ⟨.inl hi, Nat.lt_of_lt_of_le (HF.out i hi) hk.size⟩, fun k hp => by
    rw [hP] at hp
    rcases hp with hp | hp
    · exact ⟨HD.out k hp.1, Nat.lt_of_lt_of_le hp.2 hk.size⟩
    · subst hp; exact ⟨fun hf => Nat.lt_irrefl _ (HF.out _ hf), hs⟩, hk.mono (fun _ _ h => absurd h (fun h => h))⟩)
  clear hP
  have q0 : IntKind.u64.wrap ch = ch := IntWalk.u64_in _ (by omega)
  have q4 : IntKind.u64.wrap jn = jn := IntWalk.u64_in _ (by omega)
  have q5 : IntKind.u64.wrap (n : Int) = (n : Int) := IntWalk.u64_in _ (by omega)
  obtain ⟨e0, e1, e2, e3, e4⟩ := cells5 HB.out
  go_enter Tryd.func7, Tryd.ntmps7
  go_wp2_with fail
  refine (HR.out _ HK.out).mono ?_
  rintro e w1 ⟨rfl, hk1⟩
  have HX0 := Lib.hid (hk1.heap (fun h => h) HB.out)
  have HKA := Lib.hid (HK.out.trans hk1 (fun _ _ h => h))
  have HQ0 := Lib.hid (HP0.out w1 HKA.out (heap_lt HX0.out))
  have HN0 := Lib.hid (HN.out.kept HKA.out (fun _ _ _ h => h))
  clear hk1 e0 e1 e2 e3 e4
  obtain ⟨x0, x1, x2, x3, x4⟩ := cells5 HX0.out
  go_wp2_with fail
  refine (HQ0.out.put ch 1 (by omega) (by decide) (by decide) (by omega) (by simp only [List.length_append, be_len, List.length_singleton, List.length_nil] <;> omega)).mono ?_
  rintro e p1 ⟨rfl, hp1, Sx1, hkx1, hSx1⟩
  have HQ1 := Lib.hid hp1
  have HX1 := Lib.hid (hkx1.heap (hSx1 _ HPN.out) HX0.out)
  have HV1 : Hid (KeptP P w1 p1) := Lib.hid (⟨Sx1, hkx1, hSx1⟩)
  clear hp1 hkx1 hSx1 x0 x1 x2 x3 x4
  obtain ⟨x0, x1, x2, x3, x4⟩ := cells5 HX1.out
  go_wp2_with fail
  refine (HQ1.out.put ep 8 (by omega) (by decide) (by decide) (by unfold topE at *; omega) (by simp only [List.length_append, be_len, List.length_singleton, List.length_nil] <;> omega)).mono ?_
  rintro e p2 ⟨rfl, hp2, Sx2, hkx2, hSx2⟩
  have HQ2 := Lib.hid hp2
  have HX2 := Lib.hid (hkx2.heap (hSx2 _ HPN.out) HX1.out)
  have HV2 : Hid (KeptP P w1 p2) := Lib.hid ((HV1.out).trans ⟨Sx2, hkx2, hSx2⟩)
  clear hp2 hkx2 hSx2 x0 x1 x2 x3 x4
  obtain ⟨x0, x1, x2, x3, x4⟩ := cells5 HX2.out
  go_wp2_with fail
  refine (HQ2.out.bool fr (by simp only [List.length_append, be_len, List.length_singleton, List.length_nil] <;> omega)).mono ?_
  rintro e p3 ⟨rfl, hp3, Sx3, hkx3, hSx3⟩
  have HQ3 := Lib.hid hp3
  have HX3 := Lib.hid (hkx3.heap (hSx3 _ HPN.out) HX2.out)
  have HV3 : Hid (KeptP P w1 p3) := Lib.hid ((HV2.out).trans ⟨Sx3, hkx3, hSx3⟩)
  clear hp3 hkx3 hSx3 x0 x1 x2 x3 x4
  obtain ⟨x0, x1, x2, x3, x4⟩ := cells5 HX3.out
  go_wp2_with fail
  refine (HQ3.out.put jn 1 (by omega) (by decide) (by decide) (by omega) (by simp only [List.length_append, be_len, List.length_singleton, List.length_nil] <;> omega)).mono ?_
  rintro e p4 ⟨rfl, hp4, Sx4, hkx4, hSx4⟩
  have HQ4 := Lib.hid hp4
  have HX4 := Lib.hid (hkx4.heap (hSx4 _ HPN.out) HX3.out)
  have HV4 : Hid (KeptP P w1 p4) := Lib.hid ((HV3.out).trans ⟨Sx4, hkx4, hSx4⟩)
  clear hp4 hkx4 hSx4 x0 x1 x2 x3 x4
  obtain ⟨x0, x1, x2, x3, x4⟩ := cells5 HX4.out
  go_wp2_with fail
  refine (HQ4.out.put (n : Int) 1 (by omega) (by decide) (by decide) (by rw [Int.toNat_natCast]; omega) (by simp only [List.length_append, be_len, List.length_singleton, List.length_nil] <;> omega)).mono ?_
  rintro e p5 ⟨rfl, hp5, Sx5, hkx5, hSx5⟩
  have HQ5 := Lib.hid hp5
  have HX5 := Lib.hid (hkx5.heap (hSx5 _ HPN.out) HX4.out)
  have HV5 : Hid (KeptP P w1 p5) := Lib.hid ((HV4.out).trans ⟨Sx5, hkx5, hSx5⟩)
  clear hp5 hkx5 hSx5 x0 x1 x2 x3 x4
  obtain ⟨x0, x1, x2, x3, x4⟩ := cells5 HX5.out
  have HNP : Hid (NSl w P (.slice ua n uc) ns) := Lib.hid (HN.out.mono HPF.out)
  have HH : Hid ((([] ++ be ch.toNat 1) ++ be ep.toNat 8 ++ [bitI fr] ++ be jn.toNat 1 ++ be (n : Int).toNat 1) ++ ns.take 0 = headC ch ep fr jn n ++ ns.take 0) := Lib.hid (by rw [Int.toNat_natCast]; rfl)
  have HQ6 : Hid (CpuRel w FO go P (headC ch ep fr jn n) ns w1 (.int .i64 0) p5) := Lib.hid ⟨0, Nat.zero_le _, rfl, by rw [← HH.out, List.take_zero, List.append_nil]; exact HQ5.out, HV5.out⟩
  go_wp2_with fail
  go_loopw [37] (CpuRel w FO go P (headC ch ep fr jn n) ns w1) (fun i _ => ns.length - (RowKit.intOf i).toNat)
  case atStart => exact HQ6.out
  case round =>
    obtain ⟨k, hk, rfl, hst, hkp⟩ := hrel
    have hk0 : (0 : Int) ≤ (k : Int) := by omega
    have HST := Lib.hid hst
    have HKP := Lib.hid hkp
    have HKR := Lib.hid hk
    have hnn := HNN.out
    by_cases hlt : k < n
    · have hk1 : (k : Int) < (n : Int) := by omega
      obtain ⟨Sx, hks, hSx⟩ := id hkp
      have hlt' : k < ns.length := by omega
      have hrow := ((HNP.out.kept HKA.out (fun _ _ _ h => h)).kept hks (fun i _ hp => hSx i hp)).at_ hlt'
      obtain ⟨b, o, rfl, _, hb, hrow⟩ := hrow
      obtain ⟨y, hy⟩ : ∃ y, y = ns.getD k 0 := ⟨_, rfl⟩
      rw [← hy] at hrow
      have hyr : 1 ≤ y ∧ y ≤ 24 := by
        have := HG8.out (ns[k]) (List.getElem_mem hlt')
        rw [hy, getD_at hlt']
        exact this
      have HTK := Lib.hid (take_one hlt')
      rw [← hy] at HTK
      have hwa : IntKind.u64.wrap y = y := IntWalk.u64_in _ (by omega)
      clear hst hkp hks hSx hy hlt' x0 x1 x2 x3 x4 hnn hk
      go_wp2_with fail
      refine (HST.out.put y 1 (by omega) (by decide) (by decide) (by omega) (by have := HKR.out; have := HNN.out; simp only [List.length_append, headC_len, List.length_take] <;> omega)).mono ?_
      rintro e q ⟨rfl, hp, Sy, hky, hSy⟩
      have HF1 : Hid (PuSt w FO go P (headC ch ep fr jn n ++ ns.take (k + 1)) q) := Lib.hid (by
        rw [HTK.out, ← List.append_assoc, ← be_one9 y (by omega) (by omega)]
        exact hp)
      have HF2 : Hid (KeptP P w1 q) := Lib.hid (HKP.out.trans ⟨Sy, hky, hSy⟩)
      clear hp hky hSy
      go_wp2_with fail
      have hnn := HNN.out
      exact ⟨⟨k + 1, by omega, by go_num, HF1.out, HF2.out⟩, by simp [RowKit.intOf]; omega⟩
    · obtain rfl : k = ns.length := by omega
      rw [List.take_length, ← HBC.out] at HST
      clear hst hkp
      go_wp2_with fail
      go_ret
      obtain ⟨Fo, h1, h2, _, h4⟩ := HST.out
      exact ⟨rfl, ⟨Fo, h1, fun i hi => (h2 i hi).1⟩, h4⟩
end Go.Proofs.YtbdenjmnohhhiaaDoor
