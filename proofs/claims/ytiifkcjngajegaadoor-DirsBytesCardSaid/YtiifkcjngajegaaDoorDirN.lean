/-
  Layer 29: the chapter's Bytes of entries.
-/
import Derived.Test.YtiifkcjngajegaaDoorDirM
import Derived.Lib.AppendStr
namespace Go.Proofs.YtiifkcjngajegaaDoor
open Go.RowKit
set_option linter.unusedVariables false
set_option linter.unusedSimpArgs false

/-- A row of bytes of the call's own. -/
def BO (B : Nat) (w : World) (v : Value) (l : List Int) : Prop := IsB l ∧ w.ownsRow B 5 1 v l.length (l.map (Value.int .u8))
theorem BO.nil (B : Nat) (w : World) : BO B w (.slice none 0 0) [] := ⟨IsB.nil, World.ownsRow_nil _ _ _ _⟩
theorem BO.no {B : Nat} {w w' : World} {v : Value} {l : List Int} (h : BO B w v l) (hk : Kept NoB w w') : BO B w' v l := by
  refine ⟨h.1, h.2.1, ?_⟩
  rcases h.2.2 with hn | ⟨r, cap, cur, rfl, hb, hr, rest⟩
  · exact .inl hn
  · exact .inr ⟨r, cap, cur, rfl, hb, hk.heap (fun h => h) hr, rest⟩
theorem BO.row {B : Nat} {w : World} {v : Value} {l : List Int} (h : BO B w v l) : ∀ k, v.ownBlock = some k → B ≤ k := by
  intro k hk
  rcases h.2.2 with ⟨rfl, _⟩ | ⟨r, cap, cur, rfl, hb, _⟩
  · cases hk
  · injection hk with hk
    replace hk : r = k := hk
    omega
theorem BO.bsl {B : Nat} {w : World} {v : Value} {l : List Int} (h : BO B w v l) : BSl w (fun k => B ≤ k) v l := BSl.ofOwn h.2 h.1 h.row
theorem bsl_one29 (w : World) (x : Int) (h0 : 0 ≤ x) (h1 : x < 256) : BSl (w.alloc (.cells #[.int .u8 x] 5)) (fun _ => True) (.slice (some ⟨w.heap.size, 0, none⟩) 1 1) [x] :=
  BSl.ofOwn (base := 0) (e := 5) (n := 1) ⟨rfl, .inr ⟨w.heap.size, 1, _, rfl, Nat.zero_le _, heap_alloc_new w _, Nat.le_refl _, by decide, rfl, rfl⟩⟩ (fun z hz => by rw [List.mem_singleton] at hz; rw [hz]; exact ⟨h0, h1⟩) (fun _ _ => trivial)
theorem one29 (n : Nat) (h : n < 256) : be n 1 = [(n : Int)] := by simp [be, Nat.mod_eq_of_lt h]
def ints29 (x : List UInt8) : List Int := x.map fun b => (b.toNat : Int)
theorem ints29_len (x : List UInt8) : (ints29 x).length = x.length := by simp [ints29]
theorem ints29_isB (x : List UInt8) : IsB (ints29 x) := by
  intro y hy
  unfold ints29 at hy
  rw [List.mem_map] at hy
  obtain ⟨b, _, rfl⟩ := hy
  have := b.toNat_lt
  omega
theorem str29 (x : List UInt8) : Lib.strCells ⟨x.toArray⟩ = (ints29 x).map (Value.int .u8) := by
  unfold Lib.strCells ints29
  rw [List.map_map]
  rfl
section
variable {P : Program} (t e : TypeId) (i0 : TypeInfo) (ht : P.underlying t = some (.slice e)) (hi : P.info? e = some i0) (hz0 : i0.zero = some (.int .u8 0)) (hz1 : i0.size = 1) (hz2 : i0.bytes = 1) (he : e = 5)
include ht hi hz0 hz1 hz2 he
theorem wpList_append_bo (w : World) {ops : Array Oper} {rest : List Oper} {o : Oper} {a : Act} {Q : Exit → Act → World → Prop} (hgd : o.guard = none) (s x : Operand)
    (ho : o.op = .call { callee := .builtin .append, args := #[s, x], argTypes := #[t, t] })
    (B : Nat) (v : Value) (l : List Int) (hs : a.eval s = v) (hown : BO B w v l) (G : Nat → Prop) (y : Value) (m : List Int) (hx : a.eval x = y) (hy : BSl w G y m) (hl : l.length + m.length ≤ 100000) (hB : B ≤ w.heap.size) (N : Nat) (hN : l.length + m.length = N)
    (h : ∀ a' c' w', Hid (BO B w' (.slice a' N c') (l ++ m)) → Hid (Kept (fun k => B ≤ k) w w') → wpList P ops Q rest (a.put o.dst (.slice a' N c')) w') : wpList P ops Q (o :: rest) a w := by
  subst hN he
  refine wpList_plain hgd fun K hK => ?_
  obtain ⟨v', w', hrun, h2, h3, h4⟩ := run_append_bsl (P := P) w B t o.type 5 i0 _ ht hi hz0 hz1 hz2 rfl v l.length l hown.2 G y m hy (by omega) hB
  obtain ⟨a', c', rfl⟩ := own_form h2
  unfold Oper.wp execOp
  simp only [ho, resolve, invoke, builtin, Sem.run_bind, Sem.run_pure, Result.andThen_ok, List.map_toArray, List.map_cons, List.map_nil, hs, hx, hrun]
  refine hK _ _ (h a' c' w' (show BO _ _ _ _ from ⟨fun z hz => ?_, by rw [List.length_append]; exact h2⟩) (show Kept _ _ _ from (Kept.refl _ w).grown h3 (fun k hk => .inl (hown.row k hk))))
  rcases List.mem_append.1 hz with hz | hz
  · exact hown.1 z hz
  · exact hy.isB z hz
theorem wpList_append_bos (u : TypeId) (hu : P.underlying u = some .string) (w : World) {ops : Array Oper} {rest : List Oper} {o : Oper} {a : Act} {Q : Exit → Act → World → Prop} (hgd : o.guard = none) (s x : Operand)
    (ho : o.op = .call { callee := .builtin .append, args := #[s, x], argTypes := #[t, u] })
    (B : Nat) (v : Value) (l : List Int) (hs : a.eval s = v) (hown : BO B w v l) (sx : ByteArray) (m : List UInt8) (hsx : sx = ⟨m.toArray⟩) (hx : a.eval x = .string sx) (hl : l.length + m.length ≤ 100000) (hB : B ≤ w.heap.size) (N : Nat) (hN : l.length + m.length = N)
    (h : ∀ a' c' w', Hid (BO B w' (.slice a' N c') (l ++ ints29 m)) → Hid (Kept (fun k => B ≤ k) w w') → wpList P ops Q rest (a.put o.dst (.slice a' N c')) w') : wpList P ops Q (o :: rest) a w := by
  subst hN he hsx
  have hz : (⟨m.toArray⟩ : ByteArray).size = m.length := by show m.toArray.size = _; simp
  refine Lib.wpList_append_own_string w hgd s x t u ho B 5 i0 ht hu hi hz0 hz1 hz2 v l.length _ hs hown.2 _ hx (by rw [hz]; unfold maxLen; omega) (by rw [hz]; omega) hB ?_
  intro v' w' h2 h3 _
  rw [hz, str29, ← List.map_append] at h2
  obtain ⟨a', c', rfl⟩ := own_form h2
  refine h a' c' w' (show BO _ _ _ _ from ⟨fun z hz => ?_, by rw [List.length_append, ints29_len]; exact h2⟩) (show Kept _ _ _ from (Kept.refl _ w).grown h3 (fun k hk => .inl (hown.row k hk)))
  rcases List.mem_append.1 hz with hz | hz
  · exact hown.1 z hz
  · exact ints29_isB m z hz
end
theorem kept_new29 {w w' : World} (h : Kept (fun k => w.heap.size ≤ k) w w') : Kept NoB w w' := ⟨h.os, h.tape, h.output, h.size, fun i hi _ => h.block i hi (fun e => by have e : w.heap.size ≤ i := e; omega)⟩
def RbE (W : World) (l : List En) (n : Nat) (ov iv : Value) (wr : World) : Prop :=
  ∃ (k : Nat) (a : Option Addr) (c : Nat), k ≤ n ∧ iv = .int .i64 k ∧ ov = .slice a (16 * k) c ∧ BO W.heap.size wr ov (bytEs (l.take k)) ∧ Kept (fun i => W.heap.size ≤ i) W wr
def RbZ (W : World) (M : List Int) (L N : Nat) (ov iv : Value) (wr : World) : Prop :=
  ∃ (j : Nat) (a : Option Addr) (c : Nat), L ≤ j ∧ j ≤ 11 ∧ iv = .int .i64 j ∧ ov = .slice a (N + j) c ∧ BO W.heap.size wr ov (M ++ List.replicate (j - L) 0) ∧ Kept (fun i => W.heap.size ≤ i) W wr
set_option maxRecDepth 100000 in
set_option maxHeartbeats 20000000 in
theorem RBytes29_any (v : Value) (l : List En) (F : Nat → Prop) (W : World) (h : ESl W F v l) (hc : chkE l = 0) :
    Calls Tryd.prog 17 #[v] W fun e w' => ∃ v, e = .returned v ∧ BSl w' (fun k => W.heap.size ≤ k) v (bytEs l) ∧ Kept NoB W w' := by
  obtain ⟨i0, hi0, hz0, hz1, hz2⟩ := info_parts Tryd.info5
  obtain ⟨hl32, _, hall⟩ := chkE_zero hc
  obtain ⟨a, cap, rfl, hmax⟩ := h.form
  have HX := Lib.hid h
  have HALL := Lib.hid hall
  obtain ⟨n, hn⟩ : ∃ n, n = l.length := ⟨_, rfl⟩
  rw [← hn] at HX hl32 ⊢
  have HN := Lib.hid hn
  have HBIG : Hid (∀ (x : Nat) w', x < 65536 → Calls Tryd.prog 48 #[.int .u64 (x : Int), .int .i64 4] w' fun e w'' => ∃ ba bc, e = .returned (.slice ba 4 bc) ∧ BSl w'' (fun _ => True) (.slice ba 4 bc) (be x 4) ∧ Kept NoB w' w'') := Lib.hid (fun x w' hx => (Big_any x 4 w' (by omega) (by omega) (Lib.hid (by omega))).mono fun e w'' ⟨bv, h1, h2, h3⟩ => by
    obtain ⟨ba, bc, rfl⟩ := own_form h2.2.1
    rw [be_len] at h1 h2
    exact ⟨ba, bc, h1, h2.bsl.mono (fun _ _ _ => trivial), h3⟩)
  clear hn hc h hall hmax
  go_enter Tryd.func17, Tryd.ntmps17
  go_wp2_with fail
  go_loopw [3, 4] (fun u i wr => RbE W l n u i wr) (fun _ i _ => n - (intOf i).toNat)
  case atStart => exact ⟨0, _, _, Nat.zero_le _, rfl, rfl, BO.nil _ _, Kept.refl _ _⟩
  case round =>
    obtain ⟨k, oa, oc, hk, rfl, rfl, hown, hK⟩ := hrel
    have hk0 : (0 : Int) ≤ (k : Int) := by omega
    have HK := Lib.hid hK
    have HO := Lib.hid hown
    have HKR := Lib.hid hk
    clear hown hK
    by_cases hlt : k < n
    · have hk1 : (k : Int) < (n : Int) := by omega
      have hlt' : k < l.length := by have := HN.out; omega
      obtain ⟨b, o, rfl, _, hb, hc0, hc1⟩ := HX.out.at_ hlt'
      obtain ⟨hnm, hn1, hn2⟩ := HALL.out _ (eth_mem hlt')
      obtain ⟨p, hp⟩ : ∃ p, p = eth l k := ⟨_, rfl⟩
      rw [← hp] at hc0 hc1 hnm hn1 hn2
      have htk : bytEs (l.take (k + 1)) = bytEs (l.take k) ++ bytE p := by rw [etake_snoc hlt', ← hp, bytEs_snoc]
      have hml : (bytEs (l.take k)).length = 16 * k := by
        rw [bytEs_len _ (fun p hp => (HALL.out p (List.mem_of_mem_take hp)).1.1.2), List.length_take, Nat.min_eq_left (by omega)]
      obtain ⟨nm, nd⟩ := p
      simp only at hc0 hc1 hnm hn1 hn2
      have hL11 := hnm.1.2
      obtain ⟨dn, rfl⟩ := Int.eq_ofNat_of_zero_le (show 0 ≤ nd by omega)
      have HTK : Hid (bytEs (l.take (k + 1)) = bytEs (l.take k) ++ (be nm.length 1 ++ pad29 nm ++ be dn 4)) := Lib.hid (by rw [htk]; unfold bytE; rw [Int.toNat_natCast])
      obtain ⟨L, hL⟩ : ∃ L, L = nm.length := ⟨_, rfl⟩
      have HLE := Lib.hid hL
      obtain ⟨sx, hsx⟩ : ∃ sx : ByteArray, sx = ⟨nm.toArray⟩ := ⟨_, rfl⟩
      rw [← hsx] at hc0
      have HSX := Lib.hid hsx
      have hss : sx.size = L := by rw [hsx, hL]; show nm.toArray.size = _; simp
      rw [← hL] at hL11
      have wl : IntKind.u8.wrap (L : Int) = (L : Int) := IntWalk.u8_in _ (by omega)
      have wl2 : IntKind.u64.wrap (dn : Int) = (dn : Int) := IntWalk.u64_in _ (by omega)
      have hL0 : (0 : Int) ≤ (L : Int) := by omega
      have hL256 : (L : Int) < 256 := by omega
      have hd6 : dn < 65536 := by omega
      obtain ⟨M, hM⟩ : ∃ M, M = bytEs (l.take k) := ⟨_, rfl⟩
      rw [← hM] at HO hml HTK
      have HME := Lib.hid hM
      have HML := Lib.hid hml
      have HN1 : Hid (M.length + [(L : Int)].length = 16 * k + 1) := Lib.hid (by rw [hml]; rfl)
      have HN2 : Hid ((M ++ [(L : Int)]).length + nm.length = 16 * k + 1 + L) := Lib.hid (by rw [List.length_append, hml, hL]; rfl)
      have HCE : Hid (∀ w', Kept (fun i => W.heap.size ≤ i) W w' → w'.cell? ⟨b, o + k * 2, none⟩ = some (.string sx) ∧ w'.cell? ⟨b, o + k * 2 + 1, none⟩ = some (.int .i64 dn)) := Lib.hid (fun w' hk => ⟨hk.cell (p := ⟨b, o + k * 2, none⟩) (show ¬ W.heap.size ≤ b by omega) hc0, hk.cell (p := ⟨b, o + k * 2 + 1, none⟩) (show ¬ W.heap.size ≤ b by omega) hc1⟩)
      obtain ⟨e0, e1⟩ := HCE.out _ HK.out
      have HONE := Lib.hid (bsl_one29 wr (L : Int) hL0 hL256)
      have HKA := Lib.hid (HK.out.alloc (.cells #[.int .u8 (L : Int)] 5))
      have HOA := Lib.hid (HO.out.no ((Kept.refl NoB wr).alloc (.cells #[.int .u8 (L : Int)] 5)))
      have hk32 : k ≤ 32 := by omega
      clear hc0 hc1 hlt' hb hp htk hml hM hsx hL hnm hn1 hn2
      go_wp2_with (first
        | (at_builtin; refine wpList_append_bos 29 5 i0 Tryd.underlying29 hi0 hz0 hz1 hz2 rfl 9 Tryd.underlying9 _ rfl (.tmp 22) (.tmp 27) rfl W.heap.size _ (M ++ [(L : Int)]) rfl HO1.out sx nm HSX.out rfl (by have := HN2.out; omega) HK1.out.size (16 * k + 1 + L) HN2.out ?_; intro a2 c2 w2 HO2 hk2; have HK2 := Lib.hid (HK1.out.trans hk2.out (fun _ _ h => h)); clear hk2 e0 e1; obtain ⟨e0, e1⟩ := HCE.out _ HK2.out)
        | (at_builtin; refine wpList_append_bo 29 5 i0 Tryd.underlying29 hi0 hz0 hz1 hz2 rfl _ rfl (.tmp 12) (.tmp 20) rfl W.heap.size _ M rfl HOA.out (fun _ => True) _ [(L : Int)] rfl HONE.out (by have := HN1.out; omega) HKA.out.size (16 * k + 1) HN1.out ?_; intro a1 c1 w1 HO1 hk1'; have HK1 := Lib.hid (HKA.out.trans hk1'.out (fun _ _ h => h)); clear hk1' e0 e1; obtain ⟨e0, e1⟩ := HCE.out _ HK1.out))
      have hm1l : (M ++ [(L : Int)] ++ ints29 nm).length = 16 * k + 1 + L := by rw [List.length_append, List.length_append, HML.out, ints29_len, ← HLE.out]; rfl
      obtain ⟨M1, hM1⟩ : ∃ q, q = M ++ [(L : Int)] ++ ints29 nm := ⟨_, rfl⟩
      rw [← hM1] at HO2 hm1l
      have HM1E := Lib.hid hM1
      have HM1L := Lib.hid hm1l
      clear hM1 hm1l e0 e1
      go_loopw [3, 5] (fun u i wz => RbZ W M1 L (16 * k + 1) u i wz) (fun _ i _ => 11 - (intOf i).toNat)
      case atStart => exact ⟨L, _, _, Nat.le_refl _, hL11, rfl, rfl, by rw [Nat.sub_self, List.replicate_zero, List.append_nil]; exact HO2.out, HK2.out⟩
      case round =>
        obtain ⟨j, za, zc, hjL, hj11, rfl, rfl, hz, hzk⟩ := hrel
        have HZK := Lib.hid hzk
        have hj0 : (0 : Int) ≤ (j : Int) := by omega
        have hm2l : (M1 ++ List.replicate (j - L) 0).length = 16 * k + 1 + j := by rw [List.length_append, HM1L.out, List.length_replicate]; omega
        have hrep : (M1 ++ List.replicate (j - L) 0) ++ [0] = M1 ++ List.replicate (j + 1 - L) 0 := by rw [List.append_assoc, show j + 1 - L = (j - L) + 1 by omega, List.replicate_succ']
        obtain ⟨M2, hM2⟩ : ∃ q, q = M1 ++ List.replicate (j - L) 0 := ⟨_, rfl⟩
        rw [← hM2] at hz hm2l hrep
        have HZ := Lib.hid hz
        have HM2E := Lib.hid hM2
        have HM2L := Lib.hid hm2l
        have HREP := Lib.hid hrep
        clear hz hzk hm2l hrep hM2
        by_cases hjl : j < 11
        · have hj1 : (j : Int) < 11 := by omega
          have HN3 : Hid (M2.length + [(0 : Int)].length = 16 * k + 1 + (j + 1)) := Lib.hid (by rw [HM2L.out]; rfl)
          have HONZ := Lib.hid (bsl_one29 wr 0 (by omega) (by omega))
          have HKAZ := Lib.hid (HZK.out.alloc (.cells #[.int .u8 0] 5))
          have HOAZ := Lib.hid (HZ.out.no ((Kept.refl NoB wr).alloc (.cells #[.int .u8 0] 5)))
          go_wp2_with (at_builtin; refine wpList_append_bo 29 5 i0 Tryd.underlying29 hi0 hz0 hz1 hz2 rfl _ rfl (.tmp 39) (.tmp 40) rfl W.heap.size _ M2 rfl HOAZ.out (fun _ => True) _ [(0 : Int)] rfl HONZ.out (by have := HN3.out; omega) HKAZ.out.size (16 * k + 1 + (j + 1)) HN3.out ?_; intro a3 c3 w3 HO3 hk3; have HK3 := Lib.hid (HKAZ.out.trans hk3.out (fun _ _ h => h)); clear hk3)
          exact ⟨⟨j + 1, _, _, by omega, by omega, by go_num, rfl, by rw [← HREP.out]; exact HO3.out, HK3.out⟩, by simp [RowKit.intOf]; omega⟩
        · obtain rfl : j = 11 := by omega
          obtain ⟨e0, e1⟩ := HCE.out _ HZK.out
          have HN4 : Hid (M2.length + (be dn 4).length = 16 * (k + 1)) := Lib.hid (by rw [HM2L.out, be_len]; omega)
          go_wp2_with (first
            | (at_builtin; refine wpList_append_bo 29 5 i0 Tryd.underlying29 hi0 hz0 hz1 hz2 rfl _ rfl (.tmp 42) (.tmp 49) rfl W.heap.size _ M2 rfl HO5.out (fun _ => True) (.slice ba 4 bc) (be dn 4) rfl HBV.out (by have := HN4.out; omega) HK5.out.size (16 * (k + 1)) HN4.out ?_; intro a6 c6 w6 HO6 hk6; have HK6 := Lib.hid (HK5.out.trans hk6.out (fun _ _ h => h)); clear hk6)
            | (go_at_call 48; (with_reducible refine (HBIG.out dn wr hd6).mono ?_); rintro e w5 ⟨ba, bc, rfl, hbv, hkb⟩; have HBV := Lib.hid hbv; have HO5 := Lib.hid (HZ.out.no hkb); have HK5 := Lib.hid (HZK.out.trans hkb (fun _ _ h => absurd h (fun h => h))); clear hbv hkb e0 e1))
          have hkr := HKR.out
          have hee : bytEs (l.take (k + 1)) = M2 ++ be dn 4 := by
            rw [HTK.out, HM2E.out, HM1E.out, ← HLE.out, one29 L (by omega)]
            unfold pad29 ints29
            rw [← HLE.out]
            simp only [List.append_assoc]
          exact ⟨⟨k + 1, _, _, by omega, by go_num, rfl, by rw [hee]; exact HO6.out, HK6.out⟩, by simp [RowKit.intOf]; omega⟩
    · obtain rfl : k = n := by omega
      have hfin : bytEs (l.take k) = bytEs l := by rw [HN.out, List.take_length]
      go_wp2_with fail
      go_ret
      exact ⟨_, rfl, by rw [← hfin]; exact HO.out.bsl, kept_new29 HK.out⟩
end Go.Proofs.YtiifkcjngajegaaDoor
