/-
  Package sess: Read.
-/
import Derived.Test.YtnmclhgljpcjcaaSesN
import Derived.Test.YtnmclhgljpcjcaaSesF
namespace Go.Proofs.Ytnmclhgljpcjcaa
open Go.RowKit
set_option linter.unusedVariables false
set_option linter.unusedSimpArgs false

theorem rcel_set (ps : List Rw) (k : Nat) (hk : k < ps.length) (x : Rw) : rcel (ps.set k x) = (((((rcel ps).set (k * 5) (.int .i64 x.s)).set (k * 5 + 1) (.int .u64 x.b)).set (k * 5 + 2) (.int .u64 x.k)).set (k * 5 + 3) (.int .i64 x.ch)).set (k * 5 + 4) (.int .u64 x.ep) := by
  induction ps generalizing k with
  | nil => exact absurd hk (by simp)
  | cons p ps ih =>
    have e : ∀ (p : Rw) ps, rcel (p :: ps) = [.int .i64 p.s, .int .u64 p.b, .int .u64 p.k, .int .i64 p.ch, .int .u64 p.ep] ++ rcel ps := fun _ _ => rfl
    cases k with
    | zero => rw [List.set_cons_zero, e, e]; rfl
    | succ k =>
      rw [List.set_cons_succ, e, e, ih k (by simpa using hk)]
      rw [show (k + 1) * 5 = k * 5 + 1 + 1 + 1 + 1 + 1 by omega]
      rfl
/-- Block r is a row of these rows, and no more. -/
def RowS (w : World) (r : Nat) (ps : List Rw) : Prop := w.heap[r]? = some (.cells (rcel ps).toArray 75 (0, 0))
theorem RowS.set {w : World} {r : Nat} {ps : List Rw} (h : RowS w r ps) (k : Nat) (hk : k < ps.length) (x : Rw) : RowS (((((w.setCell ⟨r, k * 5, none⟩ (.int .i64 x.s)).setCell ⟨r, k * 5 + 1, none⟩ (.int .u64 x.b)).setCell ⟨r, k * 5 + 2, none⟩ (.int .u64 x.k)).setCell ⟨r, k * 5 + 3, none⟩ (.int .i64 x.ch)).setCell ⟨r, k * 5 + 4, none⟩ (.int .u64 x.ep)) r (ps.set k x) := by
  have := blkR_set (blkR_set (blkR_set (blkR_set (blkR_set h (k * 5) (.int .i64 x.s)) (k * 5 + 1) (.int .u64 x.b)) (k * 5 + 2) (.int .u64 x.k)) (k * 5 + 3) (.int .i64 x.ch)) (k * 5 + 4) (.int .u64 x.ep)
  unfold RowS
  rw [this, rcel_set ps k hk]
  simp
theorem RowS.at_ {w : World} {r : Nat} {ps : List Rw} (h : RowS w r ps) {j : Nat} (hj : j < ps.length) : RwAt w r (j * 5) ps[j] := by
  have hx : ∀ i, i < 5 → ∀ u, (rcs ps[j])[i]? = some u → w.cell? ⟨r, j * 5 + i, none⟩ = some u := fun i hi u hu => by
    rw [cell_of_row _ _ _ _ _ _ h]
    rw [List.getElem?_toArray, rcel_at ps j i hj hi]
    exact hu
  exact ⟨hx 0 (by omega) _ rfl, hx 1 (by omega) _ rfl, hx 2 (by omega) _ rfl, hx 3 (by omega) _ rfl, hx 4 (by omega) _ rfl⟩
theorem made_rcel (n : Nat) : (madeCells (#[.int .i64 0, .int .u64 0, .int .u64 0, .int .i64 0, .int .u64 0] : Array Value) (n * 5)).toList = rcel (List.replicate n rw0) := by
  refine List.ext_getElem? (fun m => ?_)
  have hl : (rcel (List.replicate n rw0)).length = n * 5 := by rw [rcel_len, List.length_replicate]
  by_cases hm : m < n * 5
  · have hd : m = m / 5 * 5 + m % 5 := by omega
    have h1 : (madeCells (#[.int .i64 0, .int .u64 0, .int .u64 0, .int .i64 0, .int .u64 0] : Array Value) (n * 5)).toList[m]? = some ((#[.int .i64 0, .int .u64 0, .int .u64 0, .int .i64 0, .int .u64 0] : Array Value)[m % 5]!) := by
      unfold madeCells
      simp [hm]
    rw [h1]
    have h2 := rcel_at (List.replicate n rw0) (m / 5) (m % 5) (by rw [List.length_replicate]; omega) (Nat.mod_lt _ (by decide))
    rw [← hd] at h2
    rw [h2]
    have h3 : m % 5 < 5 := Nat.mod_lt _ (by decide)
    simp only [List.getElem_replicate]
    match m % 5, h3 with
    | 0, _ | 1, _ | 2, _ | 3, _ | 4, _ => rfl
  · rw [List.getElem?_eq_none (by rw [Array.length_toList, size_madeCells]; omega), List.getElem?_eq_none (by rw [hl]; omega)]
theorem get_isB16 {s : ISt} (hB : IsB s.l) (wd : Int) : IsB (s.get wd).1.l := by
  unfold ISt.get
  split
  · unfold ISt.fail
    split
    · exact IsB.nil
    · exact hB
  · unfold ISt.raw
    split
    · split
      · exact IsB.nil
      · split
        · exact IsB.nil
        · exact hB.drop _
    · exact hB
theorem get_fit16 (s : ISt) (hB : IsB s.l) : 0 ≤ (s.get 8).2 ∧ (s.get 8).2 ≤ 18446744073709551615 := by
  unfold ISt.get
  rw [if_neg (by decide)]
  have hl := s.raw_len 8
  have hb : IsB (s.raw 8).2 := by
    unfold ISt.raw
    split
    · split
      · exact IsB.nil
      · split
        · exact IsB.nil
        · exact hB.take _
    · exact IsB.nil
  have := num_lt _ hb
  have h2 : 256 ^ (s.raw 8).2.length ≤ 256 ^ 8 := Nat.pow_le_pow_right (by decide) hl
  simp only
  omega
theorem getRow_fit (s : ISt) (hB : IsB s.l) : FitR (getRow s).2 ∧ IsB (getRow s).1.l := by
  have h1 := get_isB16 hB 1
  have h2 := get_isB16 h1 8
  have h3 := get_isB16 h2 8
  have h4 := get_isB16 h3 1
  have h5 := get_isB16 h4 8
  exact ⟨⟨(get_fit16 _ h1).1, (get_fit16 _ h1).2, (get_fit16 _ h2).1, (get_fit16 _ h2).2, (get_fit16 _ h4).1, (get_fit16 _ h4).2⟩, h5⟩
theorem getRows_isB (n : Nat) (s : ISt) (hB : IsB s.l) : IsB (getRows n s).1.l := by
  induction n with
  | zero => exact hB
  | succ n ih => exact (getRow_fit _ ih).2
theorem getRows_fit (n : Nat) (s : ISt) (hB : IsB s.l) : ∀ x ∈ (getRows n s).2, FitR x := by
  induction n with
  | zero => intro x hx; cases hx
  | succ n ih =>
    intro x hx
    rcases List.mem_append.1 (show x ∈ (getRows n s).2 ++ [(getRow (getRows n s).1).2] from hx) with hx | hx
    · exact ih x hx
    · obtain rfl : x = (getRow (getRows n s).1).2 := by simpa using hx
      exact (getRow_fit _ (getRows_isB n s hB)).1
/-- A table, or none. -/
def TabOf (w : World) (tv : Value) (L : List Rw) : Prop := (tv = .pointer none ∧ L = []) ∨ ∃ g, tv = .pointer (some ⟨g, 0, none⟩) ∧ TabAt w g L
def SReadEnd (w : World) (F : Nat → Prop) (gi : Nat) (s : ISt) (e : Ending) (w' : World) : Prop :=
  ∃ tv, e = .returned (.tuple #[tv, .int .i64 (readS s).2.2]) ∧ InAt w' F gi (readS s).1 ∧ TabOf w' tv (readS s).2.1 ∧ Kept (Only gi) w w'
/-- Loop 1: the rows that were read. -/
def SrdRel (w : World) (F : Nat → Prop) (gi r n : Nat) (s : ISt) (iv : Value) (wr : World) : Prop :=
  ∃ (k : Nat) (ps : List Rw), k ≤ n ∧ iv = .int .i64 k ∧ ps.length = n ∧ ps.take k = (getRows k s).2 ∧ RowS wr r ps ∧ InAt wr F gi (getRows k s).1 ∧ Kept (Only gi) w wr
/-- Loop 2: the table. -/
def SrtRel (w : World) (F : Nat → Prop) (gi g : Nat) (s : ISt) (L : List Rw) (W : World) (pv iv : Value) (wr : World) : Prop :=
  ∃ k : Nat, k ≤ L.length ∧ iv = .int .i64 k ∧ pv = .int .i64 (lastS (L.take k)) ∧ GoodR (L.take k) ∧ TabAt wr g (L.take k) ∧ InAt wr F gi s ∧ Kept (fun i => i = g) W wr
set_option maxRecDepth 100000 in
set_option maxHeartbeats 2000000 in
theorem SRead_any (w : World) (gi : Nat) (F : Nat → Prop) (s : ISt) (h : InAt w F gi s) (hF : ∀ i, F i → i < w.heap.size) : Calls Try.prog 56 #[.pointer (some ⟨gi, 0, none⟩)] w (SReadEnd w F gi s) := by
  obtain ⟨i0, hi0, hz0, hz1, hz2⟩ := info_parts Try.info75
  have hgl : gi < w.heap.size := by obtain ⟨_, _, v, hv, _⟩ := h; exact heap_lt hv
  have HU := Lib.hid (Upto_any gi s 1 6 F w h (by decide))
  have hn := upto_le16 s
  obtain ⟨N, hN⟩ := Int.eq_ofNat_of_zero_le hn.1
  obtain ⟨s1, hs1⟩ : ∃ s1, s1 = (s.upto 1 6).1 := ⟨_, rfl⟩
  have HRS : Hid (readS s = if (getRows N s1).1.err ≠ 0 then ((getRows N s1).1, [], (getRows N s1).1.err) else if goodB (getRows N s1).2 = true then ((getRows N s1).1, (getRows N s1).2, 0) else ((getRows N s1).1, [], 4)) := Lib.hid (by
    unfold readS
    rw [hN, ← hs1, Int.toNat_natCast])
  rw [hN] at hn
  rw [← hs1, hN] at HU
  have hNl : N ≤ 6 := by omega
  have HF := Lib.hid hF
  clear h hs1 hN hn hF
  go_enter Try.func56, Try.ntmps56
  go_wp2_with fail
  refine HU.out.mono ?_
  rintro e w1 ⟨rfl, hi1, hk1⟩
  have HI1 := Lib.hid hi1
  have HK1 := Lib.hid hk1
  have hwN : IntKind.i64.wrap (N : Int) = (N : Int) := IntWalk.i64_in _ (by omega)
  clear hi1 hk1
  go_wp2_with (at_make; refine wpList_make_full _ rfl (.tmp 12) (.tmp 12) 83 rfl w1.heap.size 75 i0 _ 5 Try.underlying83 hi0 hz0 hz1 .u64 .u64 _ _ N rfl rfl rfl rfl (by rw [hz2]; omega) (by unfold maxLen; omega) (Nat.le_refl _) ?_; intro w2 hown hgrow)
  have hrow : RowS w2 w1.heap.size (List.replicate N rw0) := by
    rcases hown.2 with ⟨hv, _⟩ | ⟨g, cap, cur, hv, hb, hr, hc, hm, hs, ht⟩
    · cases hv
    · injection hv with hv hn hcap
      injection hv with hv
      injection hv with hv _ _
      subst hv hcap
      unfold RowS
      rw [hr]
      have e : cur.toList = rcel (List.replicate N rw0) := by
        have h1 := List.take_of_length_le (l := cur.toList) (i := N * 5) (by simp [hs])
        exact (h1.symm.trans ht).trans (made_rcel N)
      rw [← e]
  obtain ⟨r, hr⟩ : ∃ r, r = w1.heap.size := ⟨_, rfl⟩
  have HRG : Hid (w.heap.size ≤ r) := Lib.hid (by rw [hr]; exact HK1.out.size)
  have hkm : Kept NoB w1 w2 := (Kept.refl NoB w1).grown hgrow (fun k hk => by cases hk)
  rw [← hr] at hrow ⊢
  have H0 : Hid (SrdRel w F gi r N s1 (.int .i64 0) w2) := Lib.hid ⟨0, List.replicate N rw0, Nat.zero_le _, rfl, List.length_replicate, rfl, hrow, HI1.out.kept hkm (fun _ _ h => h) (fun h => h), HK1.out.trans hkm (fun _ _ h => absurd h (fun h => h))⟩
  clear hown hgrow hrow hkm hr
  go_loopw [5, 16] (fun _ i wr => SrdRel w F gi r N s1 i wr) (fun _ i _ => N - (RowKit.intOf i).toNat)
  case atStart => exact H0.out
  case round =>
    obtain ⟨k, ps, hk, rfl, hpl, htk, hrow, hi, hK⟩ := hrel
    have hk0 : (0 : Int) ≤ (k : Int) := by omega
    have HPL := Lib.hid hpl
    have HTK := Lib.hid htk
    have HRW := Lib.hid hrow
    have HI0 := Lib.hid hi
    have HK := Lib.hid hK
    by_cases hlt : k < N
    · have hk1 : (k : Int) < (N : Int) := by omega
      have HG1 : Hid (getRows (k + 1) s1 = ((getRow (getRows k s1).1).1, (getRows k s1).2 ++ [(getRow (getRows k s1).1).2])) := Lib.hid rfl
      obtain ⟨t0, ht0⟩ : ∃ t, t = (getRows k s1).1 := ⟨_, rfl⟩
      rw [← ht0] at HG1 HI0
      have hB0 : IsB t0.l := by obtain ⟨_, _, _, _, hb⟩ := HI0.out; exact hb.isB
      obtain ⟨t1, ht1⟩ : ∃ t, t = (t0.get 1).1 := ⟨_, rfl⟩
      obtain ⟨v0, hv0⟩ : ∃ v, v = (t0.get 1).2 := ⟨_, rfl⟩
      obtain ⟨t2, ht2⟩ : ∃ t, t = (t1.get 8).1 := ⟨_, rfl⟩
      obtain ⟨v1, hv1⟩ : ∃ v, v = (t1.get 8).2 := ⟨_, rfl⟩
      obtain ⟨t3, ht3⟩ : ∃ t, t = (t2.get 8).1 := ⟨_, rfl⟩
      obtain ⟨v2, hv2⟩ : ∃ v, v = (t2.get 8).2 := ⟨_, rfl⟩
      obtain ⟨t4, ht4⟩ : ∃ t, t = (t3.get 1).1 := ⟨_, rfl⟩
      obtain ⟨v3, hv3⟩ : ∃ v, v = (t3.get 1).2 := ⟨_, rfl⟩
      obtain ⟨t5, ht5⟩ : ∃ t, t = (t4.get 8).1 := ⟨_, rfl⟩
      obtain ⟨v4, hv4⟩ : ∃ v, v = (t4.get 8).2 := ⟨_, rfl⟩
      have HGR : Hid (getRow t0 = (t5, ⟨v0, v1, v2, v3, v4⟩)) := Lib.hid (by unfold getRow; rw [← ht1, ← ht2, ← ht3, ← ht4, ← ht5, ← hv0, ← hv1, ← hv2, ← hv3, ← hv4])
      have hb0 := get1_le16 t0 hB0
      rw [← hv0] at hb0
      have hb00 := hb0.1
      have hb01 := hb0.2
      have hwa : IntKind.i64.wrap v0 = v0 := IntWalk.i64_in _ (by omega)
      have hB3 : IsB t3.l := by
        have hB1 : IsB t1.l := by rw [ht1]; exact get_isB16 hB0 1
        have hB2 : IsB t2.l := by rw [ht2]; exact get_isB16 hB1 8
        rw [ht3]; exact get_isB16 hB2 8
      have hb3 := get1_le16 t3 hB3
      rw [← hv3] at hb3
      have hb30 := hb3.1
      have hb31 := hb3.2
      have hwb : IntKind.i64.wrap v3 = v3 := IntWalk.i64_in _ (by omega)
      clear hb3 hB3
      have HIx0 := Lib.hid HI0.out
      have HKx0 := Lib.hid (Kept.refl (Only gi) wr)
      have HC0 : Hid (∀ w', InAt w' F gi t0 → Calls Try.prog 86 #[.pointer (some ⟨gi, 0, none⟩), .int .i64 1] w' fun r w'' => r = .returned (.int .u64 v0) ∧ InAt w'' F gi t1 ∧ Kept (Only gi) w' w'') := Lib.hid (fun w' h => by rw [hv0, ht1]; exact Get_any gi t0 1 F w' h)
      have HC1 : Hid (∀ w', InAt w' F gi t1 → Calls Try.prog 86 #[.pointer (some ⟨gi, 0, none⟩), .int .i64 8] w' fun r w'' => r = .returned (.int .u64 v1) ∧ InAt w'' F gi t2 ∧ Kept (Only gi) w' w'') := Lib.hid (fun w' h => by rw [hv1, ht2]; exact Get_any gi t1 8 F w' h)
      have HC2 : Hid (∀ w', InAt w' F gi t2 → Calls Try.prog 86 #[.pointer (some ⟨gi, 0, none⟩), .int .i64 8] w' fun r w'' => r = .returned (.int .u64 v2) ∧ InAt w'' F gi t3 ∧ Kept (Only gi) w' w'') := Lib.hid (fun w' h => by rw [hv2, ht3]; exact Get_any gi t2 8 F w' h)
      have HC3 : Hid (∀ w', InAt w' F gi t3 → Calls Try.prog 86 #[.pointer (some ⟨gi, 0, none⟩), .int .i64 1] w' fun r w'' => r = .returned (.int .u64 v3) ∧ InAt w'' F gi t4 ∧ Kept (Only gi) w' w'') := Lib.hid (fun w' h => by rw [hv3, ht4]; exact Get_any gi t3 1 F w' h)
      have HC4 : Hid (∀ w', InAt w' F gi t4 → Calls Try.prog 86 #[.pointer (some ⟨gi, 0, none⟩), .int .i64 8] w' fun r w'' => r = .returned (.int .u64 v4) ∧ InAt w'' F gi t5 ∧ Kept (Only gi) w' w'') := Lib.hid (fun w' h => by rw [hv4, ht5]; exact Get_any gi t4 8 F w' h)
      clear hpl htk hrow hi hK ht0 hB0 hb0 ht1 ht2 ht3 ht4 ht5 hv0 hv1 hv2 hv3 hv4
      go_wp2_with fail
      refine (HC0.out wr HIx0.out).mono ?_
      rintro e g1 ⟨rfl, hi1, hk1⟩
      have HIx1 := Lib.hid hi1
      have HKx1 := Lib.hid (HKx0.out.trans hk1 (fun _ _ h => h))
      clear hi1 hk1
      go_wp2_with fail
      refine (HC1.out g1 HIx1.out).mono ?_
      rintro e g2 ⟨rfl, hi2, hk2⟩
      have HIx2 := Lib.hid hi2
      have HKx2 := Lib.hid (HKx1.out.trans hk2 (fun _ _ h => h))
      clear hi2 hk2
      go_wp2_with fail
      refine (HC2.out g2 HIx2.out).mono ?_
      rintro e g3 ⟨rfl, hi3, hk3⟩
      have HIx3 := Lib.hid hi3
      have HKx3 := Lib.hid (HKx2.out.trans hk3 (fun _ _ h => h))
      clear hi3 hk3
      go_wp2_with fail
      refine (HC3.out g3 HIx3.out).mono ?_
      rintro e g4 ⟨rfl, hi4, hk4⟩
      have HIx4 := Lib.hid hi4
      have HKx4 := Lib.hid (HKx3.out.trans hk4 (fun _ _ h => h))
      clear hi4 hk4
      go_wp2_with fail
      refine (HC4.out g4 HIx4.out).mono ?_
      rintro e g5 ⟨rfl, hi5, hk5⟩
      have HIx5 := Lib.hid hi5
      have HKx5 := Lib.hid (HKx4.out.trans hk5 (fun _ _ h => h))
      clear hi5 hk5
      have hng : ¬ r = gi := fun h => by have := HRG.out; omega
      have hr5 := HKx5.out.heap (fun h : r = gi => hng h) HRW.out
      have HR5 := Lib.hid (show RowS g5 r ps from hr5)
      obtain ⟨e0, e1, e2, e3, e4⟩ := HR5.out.at_ (show k < ps.length by rw [HPL.out]; exact hlt)
      have hz := blkR_frozen HR5.out
      have HSET := Lib.hid (HR5.out.set k (by rw [HPL.out]; exact hlt) ⟨v0, v1, v2, v3, v4⟩)
      clear hr5
      go_wp2
      have hS : Kept (fun i => i = r) g5 (((((g5.setCell ⟨r, k * 5, none⟩ (.int .i64 v0)).setCell ⟨r, k * 5 + 1, none⟩ (.int .u64 v1)).setCell ⟨r, k * 5 + 2, none⟩ (.int .u64 v2)).setCell ⟨r, k * 5 + 3, none⟩ (.int .i64 v3)).setCell ⟨r, k * 5 + 4, none⟩ (.int .u64 v4)) :=
        (((((Kept.refl (fun i => i = r) g5).setCell (p := ⟨r, k * 5, none⟩) (.inl (by show r = r; rfl)) _).setCell (p := ⟨r, k * 5 + 1, none⟩) (.inl (by show r = r; rfl)) _).setCell (p := ⟨r, k * 5 + 2, none⟩) (.inl (by show r = r; rfl)) _).setCell (p := ⟨r, k * 5 + 3, none⟩) (.inl (by show r = r; rfl)) _).setCell (p := ⟨r, k * 5 + 4, none⟩) (.inl (by show r = r; rfl)) _
      refine ⟨⟨k + 1, ps.set k ⟨v0, v1, v2, v3, v4⟩, by omega, by go_num, by rw [List.length_set, HPL.out], ?_, HSET.out, ?_, (HK.out.trans HKx5.out (fun _ _ h => h)).trans hS (fun i hi h => by have := HRG.out; omega)⟩, by simp [RowKit.intOf]; omega⟩
      · rw [HG1.out, HGR.out]
        show List.take (k + 1) (ps.set k ⟨v0, v1, v2, v3, v4⟩) = (getRows k s1).2 ++ [⟨v0, v1, v2, v3, v4⟩]
        rw [← HTK.out, List.take_succ_eq_append_getElem (by rw [List.length_set, HPL.out]; exact hlt), List.take_set_of_le (Nat.le_refl _)]
        simp
      · rw [HG1.out, HGR.out]
        exact HIx5.out.kept hS (fun i hi h => by have := HF.out i hi; have := HRG.out; omega) (fun h => hng h.symm)
    · obtain rfl : k = N := by omega
      replace htk : ps = (getRows k s1).2 := by rw [← htk, List.take_of_length_le (by omega)]
      obtain ⟨s2, hs2⟩ : ∃ s2, s2 = (getRows k s1).1 := ⟨_, rfl⟩
      obtain ⟨L, hL⟩ : ∃ L, L = (getRows k s1).2 := ⟨_, rfl⟩
      have HLN : Hid (L.length = k) := Lib.hid (by rw [hL, getRows_len])
      rw [← hL] at htk
      rw [← hs2, ← hL] at HRS
      rw [← hs2] at HI0
      obtain rfl : ps = L := htk
      have HEV := Lib.hid (fun w' (h : InAt w' F gi s2) => Err_any gi s2 F w' h)
      obtain ⟨l2, er⟩ := s2
      simp only at HRS
      have hfit : ∀ x ∈ ps, FitR x := by rw [hL]; exact getRows_fit k s1 (by obtain ⟨_, _, _, _, hb⟩ := HI1.out; exact hb.isB)
      have HFIT := Lib.hid hfit
      clear hpl hrow hi hK hs2 hL hfit
      go_wp2_with fail
      refine (HEV.out _ HI0.out).mono ?_
      rintro e wz ⟨rfl, rfl⟩
      by_cases he : er = 0
      · subst he
        have hz0 : ((0 : Int) != 0) = false := by decide
        go_wp2_with fail
        refine (SNew_any wr).mono ?_
        rintro e w4 ⟨rfl, htab, hk4⟩
        have HI4 := Lib.hid (HI0.out.kept hk4 (fun _ _ h => h) (fun h => h))
        have HRW4 := Lib.hid (show RowS w4 r ps from hk4.heap (fun h => h) HRW.out)
        have HK4 := Lib.hid (HK.out.trans hk4 (fun _ _ h => absurd h (fun h => h)))
        obtain ⟨g, hg⟩ : ∃ g, g = wr.heap.size := ⟨_, rfl⟩
        rw [← hg] at htab ⊢
        have H5 : Hid (SrtRel w4 F gi g ⟨l2, 0⟩ ps w4 (.int .i64 0) (.int .i64 0) w4) := Lib.hid ⟨0, Nat.zero_le _, rfl, rfl, ⟨(fun x hx => by cases hx), List.Pairwise.nil⟩, htab, HI4.out, Kept.refl _ _⟩
        have HGS := Lib.hid (show gi < g from by rw [hg]; have := HK.out.size; omega)
        have HRS2 := Lib.hid (show r < g from by rw [hg]; exact heap_lt HRW.out)
        have HSZ := Lib.hid (show w.heap.size ≤ g from by rw [hg]; exact HK.out.size)
        clear htab hk4 hz0 hg
        have hkL : (k : Int) = (ps.length : Int) := by rw [HLN.out]
        have HKL := Lib.hid hkL
        obtain rfl : k = ps.length := HLN.out.symm
        clear hkL
        go_wp2_with fail
        go_loopw [8, 44] (fun pv i wx => SrtRel w4 F gi g ⟨l2, 0⟩ ps w4 pv i wx) (fun _ i _ => ps.length - (RowKit.intOf i).toNat)
        case atStart => exact H5.out
        case round =>
          obtain ⟨j, hj, rfl, rfl, hgood, htab, hin, hkk⟩ := hrel
          have hj0 : (0 : Int) ≤ (j : Int) := by omega
          have HGO := Lib.hid hgood
          have HTB := Lib.hid htab
          have HIN := Lib.hid hin
          have HKK := Lib.hid hkk
          by_cases hlt : j < ps.length
          · have hj1 : (j : Int) < (ps.length : Int) := by omega
            have hrx : RowS _ r ps := hkk.heap (fun h : r = g => by have := HRS2.out; omega) HRW4.out
            obtain ⟨e0, e1, e2, e3, e4⟩ := RowS.at_ hrx hlt
            have htake : ps.take (j + 1) = ps.take j ++ [ps[j]] := List.take_succ_eq_append_getElem hlt
            have hft := HFIT.out _ (List.getElem_mem hlt)
            obtain ⟨⟨y0, y1, y2, y3, y4⟩, hy⟩ : ∃ y, y = ps[j] := ⟨_, rfl⟩
            rw [← hy] at e0 e1 e2 e3 e4 htake hft
            simp only at e0 e1 e2 e3 e4
            obtain ⟨M, hM⟩ : ∃ M, M = ps.take j := ⟨_, rfl⟩
            rw [← hM] at HGO HTB htake ⊢
            have HTK := Lib.hid htake
            obtain ⟨pr, hpr⟩ : ∃ p, p = lastS M := ⟨_, rfl⟩
            have HPR := Lib.hid hpr
            rw [← hpr]
            have HBAD : Hid (¬ GoodR (M ++ [⟨y0, y1, y2, y3, y4⟩]) → readS s = (⟨l2, 0⟩, [], 4)) := Lib.hid (fun hb => by
              rw [HRS.out, if_neg (by simp), if_neg]
              intro hg
              have hg' : GoodR ps := of_decide_eq_true hg
              exact hb (by rw [← htake]; exact good_take hg' (j + 1)))
            have hkB := (Kept.refl NoB wr).alloc (.cells #[.int .i64 y0, .int .u64 y1, .int .u64 y2, .int .i64 y3, .int .u64 y4] 75)
            have HX := Lib.hid (heap_alloc_new wr (.cells #[.int .i64 y0, .int .u64 y1, .int .u64 y2, .int .i64 y3, .int .u64 y4] 75))
            obtain ⟨W, hW⟩ : ∃ W, W = wr.alloc (.cells #[.int .i64 y0, .int .u64 y1, .int .u64 y2, .int .i64 y3, .int .u64 y4] 75) := ⟨_, rfl⟩
            rw [← hW] at hkB HX
            have HKB := Lib.hid hkB
            have HWW := Lib.hid hW
            have HFT := Lib.hid hft
            have HSE := Lib.hid (SSet_any W g y0 y1 y2 y3 y4 M (HTB.out.no hkB) hft)
            have HXN := Lib.hid (show wr.heap.size ≠ g from by have := HTB.out.lt; omega)
            obtain ⟨x0, x1, x2, x3, x4⟩ := cells5r (v := ⟨y0, y1, y2, y3, y4⟩) HX.out
            simp only at x0 x1 x2 x3 x4
            clear hgood htab hin hkk hrx htake hft hy hM hpr hkB hW
            go_upto_region 15 with fail
            rw [← HWW.out]
            clear e0 e1 e2 e3 e4
            by_cases hle : y0 ≤ pr
            · have hNG : ¬ GoodR (M ++ [⟨y0, y1, y2, y3, y4⟩]) := fun hg => by
                obtain ⟨_, hf, hh⟩ := (good_snoc _ _).1 hg
                have hf1 := hf.1
                simp only at hf1
                rcases hh with hh | hh
                · have : pr = 0 := by rw [HPR.out, hh]; rfl
                  omega
                · rw [← HPR.out] at hh
                  simp only at hh
                  omega
              have HFIN := Lib.hid (HBAD.out hNG)
              have hleb : decide (y0 ≤ pr) = true := decide_eq_true hle
              clear hNG hle
              go_wp2
              go_ret2
              exact ⟨.pointer none, by rw [HFIN.out]; rfl, by rw [HFIN.out]; exact HIN.out.kept HKB.out (fun _ _ h => h) (fun h => h), .inl ⟨rfl, by rw [HFIN.out]⟩, (HK4.out.trans HKK.out (fun i hi h => by have := HSZ.out; omega)).trans HKB.out (fun _ _ h => absurd h (fun h => h))⟩
            · have hleb : decide (y0 ≤ pr) = false := decide_eq_false hle
              have HLE := Lib.hid hle
              clear hle
              go_wp2_with fail
              refine HSE.out.mono ?_
              rintro e w6 ⟨rfl, htb6, hk6⟩
              have HTB6 := Lib.hid htb6
              have HIN6 := Lib.hid ((HIN.out.kept HKB.out (fun _ _ h => h) (fun h => h)).kept hk6 (fun i hi h => by have := HF.out i hi; have := HSZ.out; omega) (fun h => by have := HGS.out; omega))
              have HKK6 := Lib.hid ((HKK.out.trans HKB.out (fun _ _ h => absurd h (fun h => h))).trans hk6 (fun _ _ h => h))
              have HX6 := Lib.hid (hk6.heap (fun h => HXN.out h) HX.out)
              obtain ⟨sx, hsx⟩ : ∃ x, x = setX M ⟨y0, y1, y2, y3, y4⟩ := ⟨_, rfl⟩
              have HSX := Lib.hid hsx
              rw [← hsx]
              clear htb6 hk6 hsx x0 x1 x2 x3 x4
              obtain ⟨x0, x1, x2, x3, x4⟩ := cells5r (v := ⟨y0, y1, y2, y3, y4⟩) HX6.out
              simp only at x0 x1 x2 x3 x4
              by_cases h0 : sx = 0
              · have hs0 : (sx != 0) = false := by simpa using h0
                have hfine : FineR ⟨y0, y1, y2, y3, y4⟩ := set_fine (M := M) (by rw [← HSX.out]; exact h0)
                have hlt' : lastS M < (⟨y0, y1, y2, y3, y4⟩ : Rw).s := by rw [← HPR.out]; have := HLE.out; show pr < y0; omega
                obtain ⟨_, hset⟩ := set_end HGO.out hfine hlt'
                have HG6 := Lib.hid ((good_snoc M ⟨y0, y1, y2, y3, y4⟩).2 ⟨HGO.out, hfine, .inr hlt'⟩)
                have HT6 : Hid (TabAt w6 g (M ++ [⟨y0, y1, y2, y3, y4⟩])) := Lib.hid (by rw [← hset]; exact HTB6.out)
                clear h0 hfine hlt' hset
                go_wp2
                exact ⟨⟨j + 1, by omega, by go_num, by rw [HTK.out, lastS_snoc], by rw [HTK.out]; exact HG6.out, by rw [HTK.out]; exact HT6.out, HIN6.out, HKK6.out⟩, by simp [RowKit.intOf]; omega⟩
              · have hs0 : (sx != 0) = true := by simpa using h0
                have hNG : ¬ GoodR (M ++ [⟨y0, y1, y2, y3, y4⟩]) := fun hg => by
                  obtain ⟨hm, hf, _⟩ := (good_snoc _ _).1 hg
                  have hlt' : lastS M < (⟨y0, y1, y2, y3, y4⟩ : Rw).s := by rw [← HPR.out]; have := HLE.out; show pr < y0; omega
                  exact h0 (HSX.out.trans (set_end hm hf hlt').1)
                have HFIN := Lib.hid (HBAD.out hNG)
                clear h0 hNG
                go_wp2
                go_ret2
                exact ⟨.pointer none, by rw [HFIN.out]; rfl, by rw [HFIN.out]; exact HIN6.out, .inl ⟨rfl, by rw [HFIN.out]⟩, HK4.out.trans HKK6.out (fun i hi h => by have := HSZ.out; omega)⟩
          · obtain rfl : j = ps.length := by omega
            rw [List.take_length] at hgood htab
            have HG2 := Lib.hid hgood
            have HT2 := Lib.hid htab
            have HFIN : Hid (readS s = (⟨l2, 0⟩, ps, 0)) := Lib.hid (by rw [HRS.out, if_neg (by simp), if_pos (show goodB ps = true from decide_eq_true hgood)])
            clear hgood htab hin hkk
            go_wp2
            go_ret2
            refine ⟨.pointer (some ⟨g, 0, none⟩), by rw [HFIN.out]; rfl, by rw [HFIN.out]; exact HIN.out, .inr ⟨_, rfl, by rw [HFIN.out]; exact HT2.out⟩, HK4.out.trans HKK.out (fun i hi h => by have := HSZ.out; omega)⟩
      · have heb : (er != 0) = true := by simpa using he
        have HFIN : Hid (readS s = (⟨l2, er⟩, [], er)) := Lib.hid (by rw [HRS.out, if_pos he])
        clear he
        go_wp2
        go_ret2
        refine ⟨.pointer none, by rw [HFIN.out]; rfl, by rw [HFIN.out]; exact HI0.out, .inl ⟨rfl, by rw [HFIN.out]⟩, HK.out⟩
end Go.Proofs.Ytnmclhgljpcjcaa
