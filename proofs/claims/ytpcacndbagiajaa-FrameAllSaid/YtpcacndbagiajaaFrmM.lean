/-
  Package frame: All; All by definition; Counts.
-/
import Derived.Test.YtpcacndbagiajaaFrmL
import Derived.Test.YtpcacndbagiajaaFrmI
namespace Go.Proofs.Ytpcacndbagiajaa
open Go.RowKit

theorem drop_bsl {w : World} {F : Nat → Prop} {b o cap n : Nat} {l : List Int} (h : BSl w F (.slice (some ⟨b, o, none⟩) l.length cap) l) (hn : n < l.length) :
    BSl w F (.slice (some ⟨b, o + n, none⟩) (l.length - n) (cap - n)) (l.drop n) := by
  obtain ⟨a, cap', e, hc, hm, hnn, hr⟩ := h
  simp only [Value.slice.injEq, true_and] at e
  obtain ⟨rfl, rfl⟩ := e
  have := bsl_drop (n := n) hc hm hnn hr
  rw [if_neg (by omega)] at this
  by_cases h0 : n = 0
  · subst h0
    simpa [Addr.add] using this
  · simpa [Addr.add, h0] using this

/-- What the loop of All holds. -/
def AllRel (w : World) (g t : Nat) (x y : Int) (F : Nat → Prop) (v : Value) (l : List Int) (lv at_ : Value) (wr : World) : Prop :=
  ∃ k : Nat, at_ = .int .i64 ((allS l k).1 : Nat) ∧ OkS l k ∧ FrsAt wr (fun b => w.heap.size ≤ b) (fun b => w.heap.size ≤ b) 81 lv (allS l k).2 ∧ CodecAt wr g t x y ∧ TabSome wr t ∧ BSl wr F v l ∧ Kept (One t) w wr

set_option maxHeartbeats 2000000 in
set_option maxRecDepth 100000 in
/-- All. -/
theorem FAll_any (g t : Nat) (m : Bool) (x y : Int) (v : Value) (l : List Int) (F : Nat → Prop) (w : World) (hc : CodecAt w g t x y) (ht : TabAt w t m) (h : BSl w F v l) (hF : ∀ k, F k → k ≠ t ∧ k ≠ g ∧ k < w.heap.size) (hgt : g ≠ t) (hx0 : 0 ≤ x) (hx1 : x < 100000) (hy0 : 0 ≤ y) (hy1 : y < 100000) (hl : l.length ≤ 10000) :
    Calls Try.prog 50 #[.pointer (some ⟨g, 0, none⟩), v] w fun e w' => ∃ (v' : Value) (k : Nat) (er : Int), e = .returned (.tuple #[v', .int .i64 ((allS l k).1 : Nat), .int .i64 er]) ∧ EndS l k er ∧ FrsAt w' (fun b => w.heap.size ≤ b) (fun b => w.heap.size ≤ b) 81 v' (allS l k).2 ∧ CodecAt w' g t (x + k) (badN er y) ∧ TabSome w' t ∧ Kept (Two g t) w w' := by
  obtain ⟨i1, hi1, hy0', hy1', hy2'⟩ := info_parts (show (Try.prog.info? 81).map (fun i => (i.zero, i.size, i.bytes)) = some (some (.agg #[.int .u8 0, .slice none 0 0]), 2, 32) from by kernel_rfl)
  have HB := Lib.hid h
  have HC := Lib.hid hc
  have HT := Lib.hid ht
  have HFF := Lib.hid hF
  have htl := ht.lt
  have hgl := hc.lt
  obtain ⟨a, cap, rfl, hcap, _⟩ := h
  clear hc ht hF
  go_enter Try.func50, Try.ntmps50
  go_wp2_with fail
  go_loopw [7, 8] (AllRel w g t x y F (.slice a l.length cap) l) (fun _ i _ => l.length - (intOf i).toNat)
  case atStart => exact ⟨0, rfl, fun i hi => by omega, FrsAt.nil _ _ _ _, HC.out, ⟨m, HT.out⟩, HB.out, Kept.refl _ _⟩
  case round =>
    obtain ⟨k, rfl, hok, hfs, hC, hT, hBl, hK⟩ := hrel
    have HOK := Lib.hid hok
    have HFS := Lib.hid hfs
    have HCr := Lib.hid hC
    have HTr := Lib.hid hT
    have HBr := Lib.hid hBl
    have HKr := Lib.hid hK
    have hsz := hK.size
    obtain ⟨hle1, hle2⟩ := hok.le
    have hlen := allS_len l k
    obtain ⟨fa, fc, rfl⟩ := hfs.form
    obtain ⟨n, hn⟩ : ∃ n, n = (allS l k).1 := ⟨_, rfl⟩
    obtain ⟨fs, hfs2⟩ : ∃ fs, fs = (allS l k).2 := ⟨_, rfl⟩
    rw [← hn] at hle1 hle2 ⊢
    rw [← hfs2] at HFS hlen ⊢
    have HNN := Lib.hid hn
    have HFSS := Lib.hid hfs2
    have HLEN := Lib.hid hlen
    have hcg := hC.cells
    clear hok hfs hC hT hBl hK hn hfs2 hlen
    have hk1 : k ≤ 10000 := by omega
    by_cases hlt : n < l.length
    · obtain ⟨b, o, rfl, hFb, _, _⟩ : ∃ b o, a = some ⟨b, o, none⟩ ∧ F b ∧ b < wr.heap.size ∧ True := by
        obtain ⟨_, _, e, _, _, _, hr⟩ := HBr.out
        simp only [Value.slice.injEq, true_and] at e
        obtain ⟨rfl, rfl⟩ := e
        obtain ⟨b, o, ha, hFb, hb, _⟩ := hr.at_ (j := 0) (by omega)
        exact ⟨b, o, ha, hFb, hb, trivial⟩
      have hn0 : (0 : Int) ≤ (n : Int) := by omega
      have hn1 : (n : Int) < (l.length : Int) := by omega
      have hn2 : (n : Int) ≤ (l.length : Int) := by omega
      have hcn : ¬ cap = n := by omega
      have HBD := Lib.hid (drop_bsl HBr.out hlt)
      go_wp2_with fail
      obtain ⟨m1, ht1⟩ := HTr.out
      refine (cut_any g t m1 x y _ (l.drop n) F _ HCr.out ht1 HBD.out (fun h => (HFF.out t h).1 rfl)).mono ?_
      rintro e w1 ⟨v1, rfl, hv1, ht2, hk1'⟩
      obtain ⟨er, her⟩ : ∃ er, er = (cutF (l.drop n)).err := ⟨_, rfl⟩
      obtain ⟨kd, hkd⟩ : ∃ kd, kd = (cutF (l.drop n)).kind := ⟨_, rfl⟩
      obtain ⟨bd, hbd⟩ : ∃ bd, bd = (cutF (l.drop n)).body := ⟨_, rfl⟩
      obtain ⟨dn, hdn⟩ : ∃ dn, dn = (cutF (l.drop n)).n := ⟨_, rfl⟩
      rw [← her, ← hkd, ← hdn]
      rw [← hbd] at hv1
      obtain ⟨va, vc, rfl⟩ := own_form hv1.2.1
      have HV1 := Lib.hid hv1
      have HER := Lib.hid her
      have HKD := Lib.hid hkd
      have HBD2 := Lib.hid hbd
      have HDN := Lib.hid hdn
      have HT1 := Lib.hid ht2
      have hs1 := hk1'.size
      have hgO : ¬ One t g := fun h => hgt h
      have HC1 := Lib.hid (HCr.out.kept hk1' hgO)
      have HB1 := Lib.hid (HBr.out.kept hk1' (fun k h1 h2 => (HFF.out k h1).1 h2))
      have HF1 := Lib.hid (HFS.out.kept hk1' (fun k h1 h2 => by have e : k = t := h2; omega) (fun k h1 h2 => by have e : k = t := h2; omega))
      have HK1 := Lib.hid (HKr.out.trans hk1' (fun _ _ h => h))
      have hg1 := HC1.out.lt
      clear ht1 hv1 her hkd hbd hdn ht2 hk1' hcg
      have hlk := HLEN.out
      have hfl : fs.length ≤ 10000 := by omega
      have hwu : IntKind.u64.wrap (fs.length : Int) = (fs.length : Int) := IntWalk.u64_in _ (by omega)
      clear hlk
      by_cases he : er = 0
      · have hb : (er != 0) = false := by rw [he]; rfl
        have HE := Lib.hid he
        clear he
        have hcn7 := cut_n (l := l.drop n) (by rw [← HER.out]; exact HE.out)
        rw [← HDN.out, List.length_drop] at hcn7
        have hdn0 : 7 ≤ dn := hcn7.1
        have hdn1 : (n : Int) + dn ≤ (l.length : Int) := by have := hcn7.2; omega
        have hdn2 : (n : Int) + dn ≤ 10000 := by omega
        clear hcn7
        obtain ⟨w2, hw2⟩ : ∃ w2, w2 = (w1.alloc (.cells #[.int .u8 kd, .slice va bd.length vc] 81)).alloc (.cells #[.int .u8 kd, .slice va bd.length vc] 81) := ⟨_, rfl⟩
        have hk12 : Kept NoB w1 w2 := by rw [hw2]; exact ((Kept.refl _ _).alloc _).alloc _
        have hb2 : w2.heap[w1.heap.size + 1]? = some (.cells #[.int .u8 kd, .slice va bd.length vc] 81 (0, 0)) := by
          have := heap_alloc_new (w1.alloc (.cells #[.int .u8 kd, .slice va bd.length vc] 81)) (.cells #[.int .u8 kd, .slice va bd.length vc] 81)
          rw [← hw2] at this
          simpa only [World.size_alloc] using this
        have q0 : w2.cell? ((⟨w1.heap.size + 1, 0, none⟩ : Addr).add 0) = some (.int .u8 kd) := by rw [addr_add]; exact cell_of_row w2 _ 0 _ _ _ hb2
        have q1 : w2.cell? ((⟨w1.heap.size + 1, 0, none⟩ : Addr).add 1) = some (.slice va bd.length vc) := by rw [addr_add]; exact cell_of_row w2 _ 1 _ _ _ hb2
        have hF2 := HF1.out.kept hk12 (fun _ _ h => h) (fun _ _ h => h)
        have hrow : ∀ r, (Value.slice fa fs.length fc).ownBlock = some r → r < wr.heap.size := fun r hr => by
          obtain ⟨xs, hown, _⟩ := HFS.out
          exact (hown.lt r hr).2
        have hBV : BSl w2 (fun k => w.heap.size ≤ k ∧ some k ≠ (Value.slice fa fs.length fc).ownBlock) (.slice va bd.length vc) bd := (HV1.out.bsl.kept hk12 (fun _ _ h => h)).mono (fun k _ h => ⟨by omega, fun he => by have := hrow k he.symm; omega⟩)
        have hs2 := hk12.size
        have Q0 := Lib.hid q0
        have Q1 := Lib.hid q1
        have HF2 := Lib.hid hF2
        have HBV := Lib.hid hBV
        have HK12 := Lib.hid hk12
        have HW2 := Lib.hid hw2
        clear q0 q1 hF2 hBV hk12 hb2 hw2 hrow
        go_wp2_with (at_builtin; rw [← HW2.out]; refine wpList_append_two _ rfl (.tmp 43) (.tmp 45) _ rfl 81 i1 _ Try.underlying97 hi1 hy0' hy1' (by omega) rfl (fun b => w.heap.size ≤ b) (fun b => w.heap.size ≤ b) (.slice fa fs.length fc) fs rfl HF2.out ⟨kd, bd, dn, er⟩ (.slice va bd.length vc) ⟨w1.heap.size + 1, 0, none⟩ 1 rfl Q0.out Q1.out HBV.out (fun k h => by omega) (by omega) ?_; intro a' c' w3 hf3 hg3)
        have hk3 : Kept (fun k => w.heap.size ≤ k) w2 w3 := (Kept.refl _ _).grown hg3 (fun k hk => .inl (by obtain ⟨xs, _, _, h⟩ := HF2.out; exact h k hk))
        have hk13 : Kept (fun k => w.heap.size ≤ k) w1 w3 := (HK12.out.mono (fun _ _ h => h.elim)).trans hk3 (fun _ _ h => h)
        have hnw : ∀ z, z < w.heap.size → ¬ w.heap.size ≤ z := fun z h1 h2 => by omega
        have hA : allS l (k + 1) = (n + dn.toNat, fs ++ [cutF (l.drop n)]) := by rw [allS, ← HNN.out, ← HFSS.out, ← HDN.out]
        have hcf : cutF (l.drop n) = ⟨kd, bd, dn, er⟩ := by rw [HKD.out, HBD2.out, HDN.out, HER.out]
        refine ⟨⟨k + 1, ?_, HOK.out.next (by rw [← HNN.out]; exact hlt) (by rw [← HNN.out, ← HER.out]; exact HE.out), ?_, HC1.out.kept hk13 (hnw g hgl), HT1.out.kept hk13 (hnw t htl), HB1.out.kept hk13 (fun k h1 h2 => hnw k ((HFF.out k h1).2.2) h2), HK1.out.trans hk13 (fun i hi h => absurd h (hnw i hi))⟩, by simp [intOf]; omega⟩
        · rw [hA]
          show Value.int .i64 ((n : Int) + dn) = Value.int .i64 ((n + dn.toNat : Nat) : Int)
          rw [show (n : Int) + dn = ((n + dn.toNat : Nat) : Int) by omega]
        · rw [hA, hcf]
          exact hf3
      · have hb : (er != 0) = true := by simpa using he
        have HE := Lib.hid he
        clear he
        obtain ⟨cg0, cg1, cg2, cgz, _⟩ := HC1.out.cells
        go_wp2_with fail
        refine (UAdd_any g 1 x fs.length _ (cell_alloc cg1 _) (frozen_alloc hg1 (cgz 1) _) hx0 (by omega) (by omega) (by omega)).mono ?_
        rintro e w2 ⟨rfl, hw2⟩
        have hk2 : Kept (One g) (w1.alloc (.cells #[.int .u8 kd, .slice va bd.length vc] 81)) w2 := by rw [hw2]; exact (Kept.refl _ _).one 1 _
        have hC2 : CodecAt w2 g t (x + fs.length) y := by
          have := (HC1.out.kept (S := NoB) ((Kept.refl _ w1).alloc (.cells #[.int .u8 kd, .slice va bd.length vc] 81)) (fun h => h)).good (x + fs.length)
          rw [← hw2] at this; exact this
        have HC2 := Lib.hid hC2
        have HK2 := Lib.hid (show Kept (One g) w1 w2 from ((Kept.refl _ w1).alloc _).trans hk2 (fun _ _ h => h))
        obtain ⟨dg0, dg1, dg2, dgz, hdl⟩ := hC2.cells
        clear hw2 hk2 hC2 cg0 cg1 cg2 cgz
        go_wp2_with fail
        refine (UAdd_any g 2 y 1 _ dg2 (dgz 2) hy0 (by omega) (by omega) (by omega)).mono ?_
        rintro e w3 ⟨rfl, hw3⟩
        have hk3 : Kept (One g) w2 w3 := by rw [hw3]; exact (Kept.refl _ _).one 2 _
        have hC3 : CodecAt w3 g t (x + fs.length) (y + 1) := by
          have := HC2.out.bad (y + 1)
          rw [← hw3] at this; exact this
        clear hw3 dg0 dg1 dg2 dgz
        go_wp2
        go_ret3
        have hk13 : Kept (One g) w1 w3 := HK2.out.trans hk3 (fun _ _ h => h)
        have hn2t : ∀ b, w.heap.size ≤ b → ¬ One g b := fun b h1 h2 => by have e : b = g := h2; omega
        refine ⟨.slice fa fs.length fc, k, er, ?_, ⟨HOK.out, .inr ⟨HE.out, by rw [← HNN.out]; exact hlt, by rw [← HNN.out]; exact HER.out.symm⟩⟩, ?_, ?_, HT1.out.kept hk13 (fun h => hgt h.symm), (HK1.out.mono (fun i _ h => .inr h)).trans hk13 (fun i _ h => .inl h)⟩
        · rw [← HNN.out]; rfl
        · rw [← HFSS.out]
          exact HF1.out.kept hk13 hn2t hn2t
        · rw [show badN er y = y + 1 from if_neg HE.out, ← HLEN.out]
          exact hC3
    · have hlk := HLEN.out
      have hfl : fs.length ≤ 10000 := by omega
      have hwu : IntKind.u64.wrap (fs.length : Int) = (fs.length : Int) := IntWalk.u64_in _ (by omega)
      obtain ⟨cg0, cg1, cg2, cgz, hg1⟩ := hcg
      clear hlk
      go_wp2_with fail
      refine (UAdd_any g 1 x fs.length _ cg1 (cgz 1) hx0 (by omega) (by omega) (by omega)).mono ?_
      rintro e w2 ⟨rfl, hw2⟩
      have hk2 : Kept (One g) wr w2 := by rw [hw2]; exact (Kept.refl _ _).one 1 _
      have hC2 : CodecAt w2 g t (x + fs.length) y := by
        have := HCr.out.good (x + fs.length)
        rw [← hw2] at this; exact this
      clear hw2 cg0 cg1 cg2 cgz
      go_wp2
      go_ret3
      have hn2t : ∀ b, w.heap.size ≤ b → ¬ One g b := fun b h1 h2 => by have e : b = g := h2; omega
      refine ⟨.slice fa fs.length fc, k, 0, ?_, ⟨HOK.out, .inl ⟨rfl, by rw [← HNN.out]; omega⟩⟩, ?_, ?_, HTr.out.kept hk2 (fun h => hgt h.symm), (HKr.out.mono (fun i _ h => .inr h)).trans hk2 (fun i _ h => .inl h)⟩
      · rw [← HNN.out]; rfl
      · rw [← HFSS.out]
        exact HFS.out.kept hk2 hn2t hn2t
      · rw [show badN 0 y = y from if_pos rfl, ← HLEN.out]
        exact hC2

set_option maxRecDepth 100000 in
/-- Counts. -/
theorem Counts_any (g t : Nat) (x y : Int) (w : World) (hc : CodecAt w g t x y) (hx0 : 0 ≤ x) (hx1 : x < 1000000000) (hy0 : 0 ≤ y) (hy1 : y < 1000000000) :
    Calls Try.prog 52 #[.pointer (some ⟨g, 0, none⟩)] w fun e w' => e = .returned (.tuple #[.int .u64 x, .int .u64 y]) ∧ Kept NoB w w' := by
  obtain ⟨cg0, cg1, cg2, cgz, hg1⟩ := hc.cells
  have l1 := fun (n : Nat) => ULoad_any g 1 x (w.drewN n) cg1 hx0 hx1
  have l2 := fun (n : Nat) => ULoad_any g 2 y (w.drewN n) cg2 hy0 hy1
  go_enter Try.func52, Try.ntmps52
  go_wp2_with fail
  go_quiet ((go_at_call 73; first | exact Calls.quiet_of_same ((l1 _).mono fun _ _ h => ⟨h.1, h.2.symm⟩) | exact Calls.quiet_of_same ((l2 _).mono fun _ _ h => ⟨h.1, h.2.symm⟩)))
  go_wp2
  go_ret2
  exact ⟨rfl, (Kept.refl _ _).drewN _⟩

/-- What the loop of All, by definition, holds. -/
def RAllRel (w : World) (F : Nat → Prop) (v : Value) (l : List Int) (lv at_ : Value) (wr : World) : Prop :=
  ∃ k : Nat, at_ = .int .i64 ((allS l k).1 : Nat) ∧ OkS l k ∧ FrsAt wr (fun b => w.heap.size ≤ b) F 76 lv (allS l k).2 ∧ BSl wr F v l ∧ Kept NoB w wr

set_option maxHeartbeats 2000000 in
set_option maxRecDepth 100000 in
/-- All, by definition. -/
theorem RAll_any (v : Value) (l : List Int) (F : Nat → Prop) (w : World) (h : BSl w F v l) (hF : ∀ k, F k → k < w.heap.size) (hl : l.length ≤ 10000) :
    Calls Try.prog 51 #[v] w fun e w' => ∃ (v' : Value) (k : Nat) (er : Int), e = .returned (.tuple #[v', .int .i64 ((allS l k).1 : Nat), .int .i64 er]) ∧ EndS l k er ∧ FrsAt w' (fun b => w.heap.size ≤ b) F 76 v' (allS l k).2 ∧ Kept NoB w w' := by
  obtain ⟨i1, hi1, hy0', hy1', hy2'⟩ := info_parts (show (Try.prog.info? 76).map (fun i => (i.zero, i.size, i.bytes)) = some (some (.agg #[.int .u8 0, .slice none 0 0]), 2, 32) from by kernel_rfl)
  have HB := Lib.hid h
  have HFF := Lib.hid hF
  obtain ⟨a, cap, rfl, hcap, _⟩ := h
  clear hF
  go_enter Try.func51, Try.ntmps51
  go_wp2_with fail
  go_loopw [5, 6] (RAllRel w F (.slice a l.length cap) l) (fun _ i _ => l.length - (intOf i).toNat)
  case atStart => exact ⟨0, rfl, fun i hi => by omega, FrsAt.nil _ _ _ _, HB.out, Kept.refl _ _⟩
  case round =>
    obtain ⟨k, rfl, hok, hfs, hBl, hK⟩ := hrel
    have HOK := Lib.hid hok
    have HFS := Lib.hid hfs
    have HBr := Lib.hid hBl
    have HKr := Lib.hid hK
    have hsz := hK.size
    obtain ⟨hle1, hle2⟩ := hok.le
    have hlen := allS_len l k
    obtain ⟨fa, fc, rfl⟩ := hfs.form
    obtain ⟨n, hn⟩ : ∃ n, n = (allS l k).1 := ⟨_, rfl⟩
    obtain ⟨fs, hfs2⟩ : ∃ fs, fs = (allS l k).2 := ⟨_, rfl⟩
    rw [← hn] at hle1 hle2 ⊢
    rw [← hfs2] at HFS hlen ⊢
    have HNN := Lib.hid hn
    have HFSS := Lib.hid hfs2
    have HLEN := Lib.hid hlen
    clear hok hfs hBl hK hn hfs2 hlen
    have hk1 : k ≤ 10000 := by omega
    by_cases hlt : n < l.length
    · obtain ⟨b, o, rfl, hFb, _, _⟩ : ∃ b o, a = some ⟨b, o, none⟩ ∧ F b ∧ b < wr.heap.size ∧ True := by
        obtain ⟨_, _, e, _, _, _, hr⟩ := HBr.out
        simp only [Value.slice.injEq, true_and] at e
        obtain ⟨rfl, rfl⟩ := e
        obtain ⟨b, o, ha, hFb, hb, _⟩ := hr.at_ (j := 0) (by omega)
        exact ⟨b, o, ha, hFb, hb, trivial⟩
      have hn0 : (0 : Int) ≤ (n : Int) := by omega
      have hn1 : (n : Int) < (l.length : Int) := by omega
      have hn2 : (n : Int) ≤ (l.length : Int) := by omega
      have hcn : ¬ cap = n := by omega
      have HBD := Lib.hid (drop_bsl HBr.out hlt)
      go_wp2_with fail
      refine (RCutF_any _ (l.drop n) F _ HBD.out (fun k h => by have := HFF.out k h; omega) (by rw [List.length_drop]; omega)).mono ?_
      rintro e w1 ⟨v1, rfl, hv1, hk1'⟩
      obtain ⟨er, her⟩ : ∃ er, er = (cutF (l.drop n)).err := ⟨_, rfl⟩
      obtain ⟨kd, hkd⟩ : ∃ kd, kd = (cutF (l.drop n)).kind := ⟨_, rfl⟩
      obtain ⟨bd, hbd⟩ : ∃ bd, bd = (cutF (l.drop n)).body := ⟨_, rfl⟩
      obtain ⟨dn, hdn⟩ : ∃ dn, dn = (cutF (l.drop n)).n := ⟨_, rfl⟩
      rw [← her, ← hkd, ← hdn]
      rw [← hbd] at hv1
      have HV1 := Lib.hid hv1
      obtain ⟨va, vc, rfl, _⟩ := hv1
      have HER := Lib.hid her
      have HKD := Lib.hid hkd
      have HBD2 := Lib.hid hbd
      have HDN := Lib.hid hdn
      have hs1 := hk1'.size
      have HB1 := Lib.hid (HBr.out.kept hk1' (fun _ _ h => h))
      have HF1 := Lib.hid (HFS.out.kept hk1' (fun _ _ h => h) (fun _ _ h => h))
      have HK1 := Lib.hid (HKr.out.trans hk1' (fun _ _ h => h))
      clear her hkd hbd hdn hk1'
      have hlk := HLEN.out
      have hfl : fs.length ≤ 10000 := by omega
      clear hlk
      by_cases he : er = 0
      · have hb : (er != 0) = false := by rw [he]; rfl
        have HE := Lib.hid he
        clear he
        have hcn7 := cut_n (l := l.drop n) (by rw [← HER.out]; exact HE.out)
        rw [← HDN.out, List.length_drop] at hcn7
        have hdn0 : 7 ≤ dn := hcn7.1
        have hdn1 : (n : Int) + dn ≤ (l.length : Int) := by have := hcn7.2; omega
        have hdn2 : (n : Int) + dn ≤ 10000 := by omega
        clear hcn7
        obtain ⟨w2, hw2⟩ : ∃ w2, w2 = (w1.alloc (.cells #[.int .u8 kd, .slice va bd.length vc] 76)).alloc (.cells #[.int .u8 kd, .slice va bd.length vc] 76) := ⟨_, rfl⟩
        have hk12 : Kept NoB w1 w2 := by rw [hw2]; exact ((Kept.refl _ _).alloc _).alloc _
        have hb2 : w2.heap[w1.heap.size + 1]? = some (.cells #[.int .u8 kd, .slice va bd.length vc] 76 (0, 0)) := by
          have := heap_alloc_new (w1.alloc (.cells #[.int .u8 kd, .slice va bd.length vc] 76)) (.cells #[.int .u8 kd, .slice va bd.length vc] 76)
          rw [← hw2] at this
          simpa only [World.size_alloc] using this
        have q0 : w2.cell? ((⟨w1.heap.size + 1, 0, none⟩ : Addr).add 0) = some (.int .u8 kd) := by rw [addr_add]; exact cell_of_row w2 _ 0 _ _ _ hb2
        have q1 : w2.cell? ((⟨w1.heap.size + 1, 0, none⟩ : Addr).add 1) = some (.slice va bd.length vc) := by rw [addr_add]; exact cell_of_row w2 _ 1 _ _ _ hb2
        have hF2 := HF1.out.kept hk12 (fun _ _ h => h) (fun _ _ h => h)
        have hBV : BSl w2 (fun k => F k ∧ some k ≠ (Value.slice fa fs.length fc).ownBlock) (.slice va bd.length vc) bd := (HV1.out.kept hk12 (fun _ _ h => h)).mono (fun k _ h => ⟨h, fun he => by
          obtain ⟨xs, _, _, hown⟩ := HFS.out
          have h1 := hown k he.symm
          have h2 := HFF.out k h
          omega⟩)
        have hs2 := hk12.size
        have Q0 := Lib.hid q0
        have Q1 := Lib.hid q1
        have HF2 := Lib.hid hF2
        have HBV := Lib.hid hBV
        have HK12 := Lib.hid hk12
        have HW2 := Lib.hid hw2
        clear q0 q1 hF2 hBV hk12 hb2 hw2
        go_wp2_with (at_builtin; rw [← HW2.out]; refine wpList_append_two _ rfl (.tmp 27) (.tmp 29) _ rfl 76 i1 _ Try.underlying96 hi1 hy0' hy1' (by omega) rfl (fun b => w.heap.size ≤ b) F (.slice fa fs.length fc) fs rfl HF2.out ⟨kd, bd, dn, er⟩ (.slice va bd.length vc) ⟨w1.heap.size + 1, 0, none⟩ 1 rfl Q0.out Q1.out HBV.out (fun k h => by omega) (by omega) ?_; intro a' c' w3 hf3 hg3)
        have hk3 : Kept (fun k => w.heap.size ≤ k) w2 w3 := (Kept.refl _ _).grown hg3 (fun k hk => .inl (by obtain ⟨xs, _, _, h⟩ := HF2.out; exact h k hk))
        have hk13 : Kept (fun k => w.heap.size ≤ k) w1 w3 := (HK12.out.mono (fun _ _ h => h.elim)).trans hk3 (fun _ _ h => h)
        have hnw : ∀ z, z < w.heap.size → ¬ w.heap.size ≤ z := fun z h1 h2 => by omega
        have hA : allS l (k + 1) = (n + dn.toNat, fs ++ [cutF (l.drop n)]) := by rw [allS, ← HNN.out, ← HFSS.out, ← HDN.out]
        have hcf : cutF (l.drop n) = ⟨kd, bd, dn, er⟩ := by rw [HKD.out, HBD2.out, HDN.out, HER.out]
        refine ⟨⟨k + 1, ?_, HOK.out.next (by rw [← HNN.out]; exact hlt) (by rw [← HNN.out, ← HER.out]; exact HE.out), ?_, HB1.out.kept hk13 (fun k h1 h2 => hnw k (HFF.out k h1) h2), HK1.out.trans hk13 (fun i hi h => absurd h (hnw i hi))⟩, by simp [intOf]; omega⟩
        · rw [hA]
          show Value.int .i64 ((n : Int) + dn) = Value.int .i64 ((n + dn.toNat : Nat) : Int)
          rw [show (n : Int) + dn = ((n + dn.toNat : Nat) : Int) by omega]
        · rw [hA, hcf]
          exact hf3
      · have hb : (er != 0) = true := by simpa using he
        have HE := Lib.hid he
        clear he
        go_wp2
        go_ret3
        refine ⟨.slice fa fs.length fc, k, er, ?_, ⟨HOK.out, .inr ⟨HE.out, by rw [← HNN.out]; exact hlt, by rw [← HNN.out]; exact HER.out.symm⟩⟩, ?_, HK1.out.alloc _⟩
        · rw [← HNN.out]; rfl
        · rw [← HFSS.out]
          exact HF1.out.kept (S := NoB) ((Kept.refl _ _).alloc _) (fun _ _ h => h) (fun _ _ h => h)
    · go_wp2
      go_ret3
      refine ⟨.slice fa fs.length fc, k, 0, ?_, ⟨HOK.out, .inl ⟨rfl, by rw [← HNN.out]; omega⟩⟩, ?_, HKr.out⟩
      · rw [← HNN.out]; rfl
      · rw [← HFSS.out]
        exact HFS.out
end Go.Proofs.Ytpcacndbagiajaa
