/-
  The walk of AcceptPlays.
-/
import Derived.Test.YtjbchnildeeicaaAccL
import Derived.Test.YtjbchnildeeicaaAccE
import Derived.Deep.CutRange
namespace Go.Proofs.Ytjbchnildeeicaa
open Go.RowKit
set_option linter.unusedVariables false

/-- Any block but the acceptor's and the chapter's acceptor's. -/
def NG3 (g bm r : Nat) : Nat → Prop := fun k => NG g bm k ∧ k ≠ r
/-- An acceptor, and the chapter's that is the same. -/
structure PlAt (w : World) (g bm r : Nat) (p : Int) (L : List Vt) (a : Option Addr) (c : Nat) : Prop where
  acc : AccAt w g bm p L
  row : w.heap[r]? = some (.cells #[.int .u64 p, .slice a L.length c] 28 (0, 0))
  rd : VRd w (NG3 g bm r) (.slice a L.length c) L
  ng : r ≠ g
  nb : r ≠ bm
theorem PlAt.no {w w' : World} {g bm r : Nat} {p : Int} {L : List Vt} {a : Option Addr} {c : Nat} (h : PlAt w g bm r p L a c) (hk : Kept NoB w w') : PlAt w' g bm r p L a c :=
  ⟨h.acc.no hk, hk.heap (fun h => h) h.row, h.rd.no hk, h.ng, h.nb⟩
theorem VRd.far {w : World} {F : Nat → Prop} {v : Value} {L : List Vt} {r : Nat} {p : Int} {a : Option Addr} {n c : Nat} (h : VRd w F v L) (hr : w.heap[r]? = some (.cells #[.int .u64 p, .slice a n c] 28 (0, 0))) : VRd w (fun k => F k ∧ k ≠ r) v L := by
  obtain ⟨a', c', h1, h2, h3, h4, h5⟩ := h
  refine ⟨a', c', h1, h2, h3, h4, fun hp => ?_⟩
  obtain ⟨b, o, e, hF, hb, hc⟩ := h5 hp
  refine ⟨b, o, e, ⟨hF, ?_⟩, hb, hc⟩
  rintro rfl
  obtain ⟨e0, e1, _⟩ := hc 0 hp
  simp only [Nat.zero_mul, Nat.add_zero] at e0 e1
  match o with
  | 0 => rw [(ac2 hr).1] at e0; cases e0
  | 1 => rw [(ac2 hr).2.1] at e0; cases e0
  | o + 2 => simp [World.cell?, hr] at e0
/-- What a call leaves: the new acceptor goes to its variable. -/
theorem PlAt.turn {w : World} {g bm r : Nat} {p q : Int} {L : List Vt} {a a0 : Option Addr} {c n0 c0 : Nat} (ha : AccAt w g bm p L) (hr : w.heap[r]? = some (.cells #[.int .u64 q, .slice a0 n0 c0] 28 (0, 0))) (hv : VRd w (NG g bm) (.slice a L.length c) L) (hg : r ≠ g) (hb : r ≠ bm) :
    PlAt ((w.setCell ⟨r, 0, none⟩ (.int .u64 p)).setCell ⟨r, 1, none⟩ (.slice a L.length c)) g bm r p L a c := by
  have hk := ((Kept.refl (AG r) w).setCell (p := ⟨r, 0, none⟩) (.inl rfl) (.int .u64 p)).setCell (p := ⟨r, 1, none⟩) (.inl rfl) (.slice a L.length c)
  exact ⟨ha.kept hk (fun h => hg h.symm) (fun h => hb h.symm), blkA_set (blkA_set hr 0 (.int .u64 p)) 1 (.slice a L.length c), (hv.far hr).kept hk (fun k h e => h.2 e), hg, hb⟩
/-- What stands behind j calls. -/
def ApRel (w : World) (r n : Nat) (iv : Value) (wr : World) : Prop :=
  ∃ (j : Nat) (p : Int) (L : List Vt) (a : Option Addr) (c : Nat), j ≤ n ∧ j ≤ 60 ∧ iv = .int .i64 j ∧ PlAt wr (w.heap.size + 1) w.heap.size r p L a c ∧ Kept NoB w wr
/-- What the call of both leaves, ahead of the variable's turn. -/
def ApCut (w : World) (r : Nat) (x8 x9 : Value) (wc : World) : Prop :=
  ∃ (s8 : Nat) (p' : Int) (L' : List Vt) (ua : Option Addr) (uc : Nat) (p : Int) (n0 : Nat) (a : Option Addr) (c : Nat), x8 = .pointer (some ⟨s8, 0, none⟩) ∧ x9 = .bool true ∧
    wc.heap[s8]? = some (.cells #[.int .u64 p', .slice ua L'.length uc] 28 (0, 0)) ∧ wc.heap[r]? = some (.cells #[.int .u64 p, .slice a n0 c] 28 (0, 0)) ∧
    AccAt wc (w.heap.size + 1) w.heap.size p' L' ∧ VRd wc (NG (w.heap.size + 1) w.heap.size) (.slice ua L'.length uc) L' ∧ Kept NoB w wc
/-- What the chapter's At leaves. -/
def ApCut2 (W : World) (y : Vt) (z : Bool) (x12 x13 : Value) (wc : World) : Prop :=
  ∃ s12 : Nat, x12 = .pointer (some ⟨s12, 0, none⟩) ∧ x13 = .bool z ∧ wc.heap[s12]? = some (.cells #[.int .i64 y.s, .int .u64 y.b, .int .i64 y.k, .int .i64 y.ch, .int .u64 y.ep, .int .i64 y.nd] 36 (0, 0)) ∧ Kept NoB W wc
set_option maxRecDepth 100000 in
set_option maxHeartbeats 4000000 in
theorem AcceptPlays_any (v : Value) (n : Nat) (it : Nat → OpV) (f : Int) (hf : f ≤ 9223372036854775807) (w : World) (hv : OpsAt w v n it) : Calls Try.prog 3 #[v, .int .i64 f] w fun e w' => e = .returned (.bool true) ∧ Kept NoB w w' := by
  obtain ⟨va, vc, rfl, hn63, hit⟩ := hv
  have HIT := Lib.hid hit
  have hnn : (n : Int) ≤ 9223372036854775807 := by omega
  clear hit hn63
  go_enter Try.func3, Try.ntmps3
  go_wp2_with fail
  refine (ANew_any w).mono ?_
  rintro e w1 ⟨rfl, ha, hk⟩
  have HA0 := Lib.hid ha
  have HK0 := Lib.hid hk
  clear ha hk
  obtain ⟨r, hr⟩ : ∃ r, r = w1.heap.size := ⟨_, rfl⟩
  have hrb : w.heap.size + 2 ≤ r := by have := heap_lt HA0.out.cells; omega
  have HQ := heap_alloc_new w1 (.cells #[.int .u64 0, .slice none 0 0] 28)
  have HPL0 : Hid (PlAt (w1.alloc (.cells #[.int .u64 0, .slice none 0 0] 28)) (w.heap.size + 1) w.heap.size r 0 [] none 0) :=
    Lib.hid ⟨HA0.out.no ((Kept.refl _ _).alloc _), by rw [hr]; exact HQ, VRd.nil _ _, by omega, by omega⟩
  have HK1 := Lib.hid (HK0.out.alloc (.cells #[.int .u64 0, .slice none 0 0] 28))
  clear HQ
  go_wp2_with fail
  rw [← hr]
  clear hr
  go_loopw [7] (ApRel w r n) (fun i _ => 60 - (RowKit.intOf i).toNat)
  case atStart => exact ⟨0, 0, [], none, 0, Nat.zero_le _, Nat.zero_le _, rfl, HPL0.out, HK1.out⟩
  case round =>
    obtain ⟨j, p, L, a, c, hj, hj60, rfl, hP, hK⟩ := hrel
    have HP := Lib.hid hP
    have HK := Lib.hid hK
    obtain ⟨c0, c1, _, _⟩ := ac2 hP.row
    clear hP hK
    by_cases hlt : j < n ∧ j < 60
    · obtain ⟨hjn, hj7⟩ := hlt
      obtain ⟨b, o, rfl, hb, hcs⟩ := HIT.out (by omega)
      have hcj := hcs j hjn
      obtain ⟨q, hq⟩ : ∃ q, q = it j := ⟨_, rfl⟩
      rw [← hq] at hcj
      clear hq hcs
      obtain ⟨kd, qb, qs, qk, qch, qep, qnd⟩ := q
      have HFIT := Lib.hid hcj.2.2.2.2.2.2.2
      have HCS := Lib.hid hcj
      clear hcj
      have hj0 : (0 : Int) ≤ (j : Int) := by omega
      have hj1 : (j : Int) < (n : Int) := by omega
      have hj2 : (j : Int) < 60 := by omega
      obtain ⟨e0, e1, e2, e3, e4, e5, e6, _⟩ := HCS.out
      try simp only at e0 e1 e2 e3 e4 e5 e6
      have f0 := HK.out.cell (p := ⟨b, o + j * 7, none⟩) (fun h => h) e0
      have f1 := HK.out.cell (p := ⟨b, o + j * 7 + 1, none⟩) (fun h => h) e1
      have f2 := HK.out.cell (p := ⟨b, o + j * 7 + 2, none⟩) (fun h => h) e2
      have f3 := HK.out.cell (p := ⟨b, o + j * 7 + 3, none⟩) (fun h => h) e3
      have f4 := HK.out.cell (p := ⟨b, o + j * 7 + 4, none⟩) (fun h => h) e4
      have f5 := HK.out.cell (p := ⟨b, o + j * 7 + 5, none⟩) (fun h => h) e5
      have f6 := HK.out.cell (p := ⟨b, o + j * 7 + 6, none⟩) (fun h => h) e6
      clear e0 e1 e2 e3 e4 e5 e6
      have HNB : Hid (¬ AB (w.heap.size + 1) w.heap.size b) := Lib.hid (by rintro (h | h) <;> omega)
      have HNR : Hid (¬ AB (w.heap.size + 1) w.heap.size r) := Lib.hid (by rintro (h | h) <;> omega)
      go_wp2_with fail
      have HKQ : Hid (Kept NoB wr wr.drew) := Lib.hid (Kept.refl NoB wr).drew
      have HKQ2 : Hid (Kept NoB wr (wr.alloc (.cells #[.int .u64 0, .slice none 0 0] 28)).drew) := Lib.hid ((Kept.refl NoB wr).alloc _).drew
      have HZW : Hid ((wr.alloc (.cells #[.int .u64 0, .slice none 0 0] 28)).drew.heap[wr.heap.size]? = some (.cells #[.int .u64 0, .slice none 0 0] 28 (0, 0))) := Lib.hid (heap_alloc_new wr _)
      have HRL : Hid (r < wr.heap.size) := Lib.hid (heap_lt HP.out.row)
      have HNW : Hid (¬ AB (w.heap.size + 1) w.heap.size wr.heap.size) := Lib.hid (by have := HRL.out; rintro (h | h) <;> omega)
      go_cut [8, 9] from 16 to 93 (ApCut w r)
      case first =>
        have HV0 : Hid (VRd wr (NG (w.heap.size + 1) w.heap.size) (.slice a L.length c) L) := Lib.hid (HP.out.rd.mono (fun k _ hk => hk.1))
        have HST : Hid (∀ w', Kept NoB wr w' → Calls Try.prog 12 #[.pointer (some ⟨w.heap.size + 1, 0, none⟩), .agg #[.int .u64 p, .slice a L.length c], .agg #[.int .i64 kd, .int .u64 qb, .int .i64 qs, .int .i64 qk, .int .i64 qch, .int .u64 qep, .int .i64 qnd]] w' fun e w'' =>
            ∃ p' ua n' uc L', e = .returned (.tuple #[.agg #[.int .u64 p', .slice ua n' uc], .bool true]) ∧ n' = L'.length ∧ AccAt w'' (w.heap.size + 1) w.heap.size p' L' ∧ VRd w'' (NG (w.heap.size + 1) w.heap.size) (.slice ua n' uc) L' ∧ Kept (AB (w.heap.size + 1) w.heap.size) w' w'') := Lib.hid (fun w' hk =>
          (step11 w' _ _ p L _ kd qb qs qk qch qep qnd (HP.out.acc.no hk) (HV0.out.no hk) HFIT.out).mono fun e w'' ⟨p', u, L', h1, h2, h3, h4⟩ => by
            obtain ⟨ua, uc, rfl⟩ := h3.form
            exact ⟨p', ua, _, uc, L', h1, rfl, h2, h3, h4⟩)
        have hq1 : ¬ wr.heap.size = r := fun h => by have := HRL.out; omega
        have hq2 : ¬ r = wr.heap.size := fun h => hq1 h.symm
        have hq3 : ¬ wr.heap.size = b := fun h => by have := HK.out.size; omega
        have hq4 : ¬ b = wr.heap.size := fun h => hq3 h.symm
        have HBS : Hid (w.heap.size ≤ wr.heap.size) := Lib.hid HK.out.size
        have HQR := Lib.hid HP.out.row
        go_region_held3 (fun w' => w'.cell? ⟨r, 0, none⟩ = some (.int .u64 p) ∧ w'.cell? ⟨r, 1, none⟩ = some (.slice a L.length c) ∧ w'.cell? ⟨b, o + j * 7, none⟩ = some (.int .i64 kd) ∧ w'.cell? ⟨b, o + j * 7 + 1, none⟩ = some (.int .u64 qb) ∧ w'.cell? ⟨b, o + j * 7 + 2, none⟩ = some (.int .i64 qs) ∧ w'.cell? ⟨b, o + j * 7 + 3, none⟩ = some (.int .i64 qk) ∧ w'.cell? ⟨b, o + j * 7 + 4, none⟩ = some (.int .i64 qch) ∧ w'.cell? ⟨b, o + j * 7 + 5, none⟩ = some (.int .u64 qep) ∧ w'.cell? ⟨b, o + j * 7 + 6, none⟩ = some (.int .i64 qnd))
          (first
            | (with_reducible exact ⟨cell_drew c0, cell_drew c1, cell_drew f0, cell_drew f1, cell_drew f2, cell_drew f3, cell_drew f4, cell_drew f5, cell_drew f6⟩)
            | (with_reducible exact ⟨cell_drew (cell_alloc c0 _), cell_drew (cell_alloc c1 _), cell_drew (cell_alloc f0 _), cell_drew (cell_alloc f1 _), cell_drew (cell_alloc f2 _), cell_drew (cell_alloc f3 _), cell_drew (cell_alloc f4 _), cell_drew (cell_alloc f5 _), cell_drew (cell_alloc f6 _)⟩)
            | (with_reducible exact ⟨k0, k1, l0, l1, l2, l3, l4, l5, l6⟩)
            | (with_reducible exact ⟨cell_alloc k0 _, cell_alloc k1 _, cell_alloc l0 _, cell_alloc l1 _, cell_alloc l2 _, cell_alloc l3 _, cell_alloc l4 _, cell_alloc l5 _, cell_alloc l6 _⟩)
            | go_keep)
          (first
            | (go_at_call 12; (with_reducible refine (HST.out _ HKQ.out).mono ?_); rintro e w6 ⟨p', ua, n', uc, L', rfl, hn', ha6, hv6, hk6⟩; have HN6 := Lib.hid hn'; have HA6 := Lib.hid ha6; have HV6 := Lib.hid hv6; have HKA := Lib.hid ((HKQ.out.mono (T := AB (w.heap.size + 1) w.heap.size) (fun _ _ h => h.elim)).trans hk6 (fun _ _ h => h)); have HR6 := Lib.hid (HKA.out.heap HNR.out HQR.out); clear hn' ha6 hv6 hk6
               have k0 := HKA.out.cell (p := ⟨r, 0, none⟩) HNR.out c0; have k1 := HKA.out.cell (p := ⟨r, 1, none⟩) HNR.out c1
               have l0 := HKA.out.cell (p := ⟨b, o + j * 7, none⟩) HNB.out f0; have l1 := HKA.out.cell (p := ⟨b, o + j * 7 + 1, none⟩) HNB.out f1; have l2 := HKA.out.cell (p := ⟨b, o + j * 7 + 2, none⟩) HNB.out f2; have l3 := HKA.out.cell (p := ⟨b, o + j * 7 + 3, none⟩) HNB.out f3; have l4 := HKA.out.cell (p := ⟨b, o + j * 7 + 4, none⟩) HNB.out f4; have l5 := HKA.out.cell (p := ⟨b, o + j * 7 + 5, none⟩) HNB.out f5; have l6 := HKA.out.cell (p := ⟨b, o + j * 7 + 6, none⟩) HNB.out f6)
            | (go_at_call 12; (with_reducible refine (HST.out _ HKQ2.out).mono ?_); rintro e w6 ⟨p', ua, n', uc, L', rfl, hn', ha6, hv6, hk6⟩; have HN6 := Lib.hid hn'; have HA6 := Lib.hid ha6; have HV6 := Lib.hid hv6; have HKA := Lib.hid ((HKQ2.out.mono (T := AB (w.heap.size + 1) w.heap.size) (fun _ _ h => h.elim)).trans hk6 (fun _ _ h => h)); have HZ6 := Lib.hid (hk6.heap HNW.out HZW.out); have HR6 := Lib.hid (HKA.out.heap HNR.out HQR.out); obtain ⟨x0, x1, z0, z1⟩ := ac2 HZ6.out; clear hn' ha6 hv6 hk6
               have k0 := HKA.out.cell (p := ⟨r, 0, none⟩) HNR.out c0; have k1 := HKA.out.cell (p := ⟨r, 1, none⟩) HNR.out c1
               have l0 := HKA.out.cell (p := ⟨b, o + j * 7, none⟩) HNB.out f0; have l1 := HKA.out.cell (p := ⟨b, o + j * 7 + 1, none⟩) HNB.out f1; have l2 := HKA.out.cell (p := ⟨b, o + j * 7 + 2, none⟩) HNB.out f2; have l3 := HKA.out.cell (p := ⟨b, o + j * 7 + 3, none⟩) HNB.out f3; have l4 := HKA.out.cell (p := ⟨b, o + j * 7 + 4, none⟩) HNB.out f4; have l5 := HKA.out.cell (p := ⟨b, o + j * 7 + 5, none⟩) HNB.out f5; have l6 := HKA.out.cell (p := ⟨b, o + j * 7 + 6, none⟩) HNB.out f6))
        · have HKN : Hid (Kept NoB w6 (w6.alloc (.cells #[.int .u64 p', .slice ua n' uc] 28))) := Lib.hid ((Kept.refl _ _).alloc _)
          have HREL : Hid (ApCut w r (.pointer (some ⟨w6.heap.size, 0, none⟩)) (.bool true) (w6.alloc (.cells #[.int .u64 p', .slice ua n' uc] 28))) := Lib.hid (by
            have hz := HN6.out
            have ha := HA6.out.no HKN.out
            have hv := HV6.out.no HKN.out
            have hh := heap_alloc_new w6 (.cells #[.int .u64 p', .slice ua n' uc] 28)
            have hr := HKN.out.heap (fun h => h) HR6.out
            have hk := (HK.out.trans (T := AB (w.heap.size + 1) w.heap.size) HKA.out (fun i hi h => by rcases h with h | h <;> omega)).trans HKN.out (fun _ _ h => h)
            subst hz
            exact ⟨_, p', L', ua, uc, p, _, a, c, rfl, rfl, hh, hr, ha, hv, hk⟩)
          clear k0 k1 l0 l1 l2 l3 l4 l5 l6 hq1 hq2 hq3 hq4 c0 c1 f0 f1 f2 f3 f4 f5 f6
          go_wp2_with fail
          go_meet
          exact HREL.out
        · have HREL : Hid (ApCut w r (.pointer (some ⟨wr.heap.size, 0, none⟩)) (.bool true) ((w6.setCell ⟨wr.heap.size, 0, none⟩ (.int .u64 p')).setCell ⟨wr.heap.size, 1, none⟩ (.slice ua n' uc))) := Lib.hid (by
            have hz := HN6.out
            have hks := ((Kept.refl (AG wr.heap.size) w6).setCell (p := ⟨wr.heap.size, 0, none⟩) (.inl rfl) (.int .u64 p')).setCell (p := ⟨wr.heap.size, 1, none⟩) (.inl rfl) (.slice ua n' uc)
            have ha := HA6.out.kept hks (fun h => HNW.out (.inl h.symm)) (fun h => HNW.out (.inr h.symm))
            have hh := blkA_set (blkA_set HZ6.out 0 (.int .u64 p')) 1 (.slice ua n' uc)
            have hr := hks.heap (fun h => hq2 h) HR6.out
            have hk := ((HK.out.trans (T := AB (w.heap.size + 1) w.heap.size) HKA.out (fun i hi h => by rcases h with h | h <;> omega)).setCell (p := ⟨wr.heap.size, 0, none⟩) (.inr HBS.out) (.int .u64 p')).setCell (p := ⟨wr.heap.size, 1, none⟩) (.inr HBS.out) (.slice ua n' uc)
            have hv := ((HV6.out.far HZ6.out).kept hks (fun k h e => h.2 e)).mono (G := NG (w.heap.size + 1) w.heap.size) (fun k _ h => h.1)
            subst hz
            exact ⟨_, p', L', ua, uc, p, _, a, c, rfl, rfl, hh, hr, ha, hv, hk⟩)
          clear k0 k1 l0 l1 l2 l3 l4 l5 l6 hq1 hq2 hq3 hq4 c0 c1 f0 f1 f2 f3 f4 f5 f6 x0 x1 z0 z1
          go_wp2_with fail
          go_meet
          exact HREL.out
      case rest =>
        obtain ⟨s8, p', L', ua, uc, p0, n0, a0, c0', rfl, rfl, hr8, hrr, ha6, hv6, hk6⟩ := hcut
        have HP7 := Lib.hid (PlAt.turn ha6 hrr hv6 HP.out.ng HP.out.nb)
        have HK7 := Lib.hid ((hk6.setCell (p := ⟨r, 0, none⟩) (.inr (by show w.heap.size ≤ r; omega)) (.int .u64 p')).setCell (p := ⟨r, 1, none⟩) (.inr (by show w.heap.size ≤ r; omega)) (.slice ua L'.length uc))
        clear c0 c1 f0 f1 f2 f3 f4 f5 f6
        obtain ⟨c0, c1, g0, g1⟩ := ac2 hrr
        obtain ⟨d0, d1, _, _⟩ := ac2 hr8
        clear hr8 hrr ha6 hv6 hk6
        go_upto_region 8 with fail
        obtain ⟨W7, hW7⟩ : ∃ W, W = (wc.setCell ⟨r, 0, none⟩ (.int .u64 p')).setCell ⟨r, 1, none⟩ (.slice ua L'.length uc) := ⟨_, rfl⟩
        rw [← hW7] at HP7 HK7 ⊢
        clear hW7 c0 c1 g0 g1 d0 d1
        obtain ⟨e0, e1, e2, e3, e4, e5, e6, _⟩ := HCS.out
        try simp only at e0 e1 e2 e3 e4 e5 e6
        have f2 := HK7.out.cell (p := ⟨b, o + j * 7 + 2, none⟩) (fun h => h) e2
        clear e0 e1 e2 e3 e4 e5 e6
        have HWF : Hid ((Lit.int .i64 qs).wf = true) := Lib.hid (WalkArith.wf_i64 (by have := HFIT.out.2.2.1; have := HFIT.out.2.2.2.1; simp only at *; omega))
        go_wp2_with fail
        refine (AVote_any W7 (w.heap.size + 1) w.heap.size p' qs L' HP7.out.acc HWF.out).mono ?_
        rintro e w8 ⟨rfl, hk8⟩
        obtain ⟨y, hy⟩ : ∃ y, y = (atV L' qs).getD vt0 := ⟨_, rfl⟩
        obtain ⟨z, hz⟩ : ∃ z, z = (atV L' qs).isSome := ⟨_, rfl⟩
        rw [← hy, ← hz]
        have HY := Lib.hid hy
        have HZ := Lib.hid hz
        clear hy hz
        obtain ⟨y0, y1, y2, y3, y4, y5⟩ := y
        simp only [vvv]
        have HP8 := Lib.hid (HP7.out.no hk8)
        have HK8 := Lib.hid (HK7.out.trans hk8 (fun _ _ h => h))
        have HKV := Lib.hid hk8
        clear hk8 f2
        go_upto_region 9 with fail
        obtain ⟨W, hW⟩ : ∃ W, W = w8.alloc (.cells #[.int .i64 y0, .int .u64 y1, .int .i64 y2, .int .i64 y3, .int .u64 y4, .int .i64 y5] 36) := ⟨_, rfl⟩
        have HK9 := Lib.hid (HK8.out.alloc (.cells #[.int .i64 y0, .int .u64 y1, .int .i64 y2, .int .i64 y3, .int .u64 y4, .int .i64 y5] 36))
        have HP9 := Lib.hid (HP8.out.no ((Kept.refl _ _).alloc (.cells #[.int .i64 y0, .int .u64 y1, .int .i64 y2, .int .i64 y3, .int .u64 y4, .int .i64 y5] 36)))
        have HR10 := Lib.hid (heap_alloc_new w8 (.cells #[.int .i64 y0, .int .u64 y1, .int .i64 y2, .int .i64 y3, .int .u64 y4, .int .i64 y5] 36))
        have HS10 : Hid (w.heap.size ≤ w8.heap.size) := Lib.hid HK8.out.size
        obtain ⟨s10, hs10⟩ : ∃ s, s = w8.heap.size := ⟨_, rfl⟩
        rw [← hs10] at HR10 HS10 ⊢
        rw [← hW] at HK9 HP9 HR10 ⊢
        clear hW hs10
        obtain ⟨c0, c1, g0, g1⟩ := ac2 HP9.out.row
        obtain ⟨e0, e1, e2, e3, e4, e5, e6, _⟩ := HCS.out
        try simp only at e0 e1 e2 e3 e4 e5 e6
        have f2 := HK9.out.cell (p := ⟨b, o + j * 7 + 2, none⟩) (fun h => h) e2
        clear e0 e1 e2 e3 e4 e5 e6
        have HRA : Hid (∀ w', Kept NoB W w' → Calls Try.prog 14 #[.slice ua L'.length uc, .int .i64 qs] w' fun e w'' => e = .returned (.tuple #[.agg #[.int .i64 y0, .int .u64 y1, .int .i64 y2, .int .i64 y3, .int .u64 y4, .int .i64 y5], .bool z]) ∧ Kept NoB w' w'') := Lib.hid (fun w' hk => by
          have := RAtV_any w' (.slice ua L'.length uc) qs L' (NG3 (w.heap.size + 1) w.heap.size r) (HP9.out.no hk).rd
          rw [← HY.out, ← HZ.out] at this
          exact this)
        go_cut [12, 13] from 16 to 93 (ApCut2 W ⟨y0, y1, y2, y3, y4, y5⟩ z)
        case first =>
          have HKQ : Hid (Kept NoB W W.drew) := Lib.hid (Kept.refl NoB W).drew
          have HKQ2 : Hid (Kept NoB W (W.alloc (.cells #[.int .i64 0, .int .u64 0, .int .i64 0, .int .i64 0, .int .u64 0, .int .i64 0] 36)).drew) := Lib.hid ((Kept.refl NoB W).alloc _).drew
          have HZW : Hid ((W.alloc (.cells #[.int .i64 0, .int .u64 0, .int .i64 0, .int .i64 0, .int .u64 0, .int .i64 0] 36)).drew.heap[W.heap.size]? = some (.cells #[.int .i64 0, .int .u64 0, .int .i64 0, .int .i64 0, .int .u64 0, .int .i64 0] 36 (0, 0))) := Lib.hid (heap_alloc_new W _)
          have hq1 : ¬ W.heap.size = r := fun h => by have := heap_lt HP9.out.row; omega
          have hq2 : ¬ r = W.heap.size := fun h => hq1 h.symm
          have hq3 : ¬ W.heap.size = b := fun h => by have := HK9.out.size; omega
          have hq4 : ¬ b = W.heap.size := fun h => hq3 h.symm
          go_region_held3 (fun w' => w'.cell? ⟨r, 1, none⟩ = some (.slice ua L'.length uc) ∧ w'.cell? ⟨b, o + j * 7 + 2, none⟩ = some (.int .i64 qs))
            (first
              | (with_reducible exact ⟨cell_drew c1, cell_drew f2⟩)
              | (with_reducible exact ⟨cell_drew (cell_alloc c1 _), cell_drew (cell_alloc f2 _)⟩)
              | (with_reducible exact ⟨k1, k2⟩)
              | (with_reducible exact ⟨cell_alloc k1 _, cell_alloc k2 _⟩)
              | go_keep)
            (first
              | (go_at_call 14; (with_reducible refine (HRA.out _ HKQ.out).mono ?_); rintro e w3 ⟨rfl, hk3⟩; have HKA := Lib.hid (HKQ.out.trans hk3 (fun _ _ h => h)); clear hk3; have k1 := HKA.out.cell (p := ⟨r, 1, none⟩) (fun h => h) c1; have k2 := HKA.out.cell (p := ⟨b, o + j * 7 + 2, none⟩) (fun h => h) f2)
              | (go_at_call 14; (with_reducible refine (HRA.out _ HKQ2.out).mono ?_); rintro e w3 ⟨rfl, hk3⟩; have HKA := Lib.hid (HKQ2.out.trans hk3 (fun _ _ h => h)); have HZ3 := Lib.hid (hk3.heap (fun h => h) HZW.out); obtain ⟨x0, x1, x2, x3, x4, x5⟩ := cells6 (v := vt0) HZ3.out; have z0 := blkA_frozen HZ3.out 0; have z1 := blkA_frozen HZ3.out 1; have z2 := blkA_frozen HZ3.out 2; have z3 := blkA_frozen HZ3.out 3; have z4 := blkA_frozen HZ3.out 4; have z5 := blkA_frozen HZ3.out 5; clear hk3; have k1 := HKA.out.cell (p := ⟨r, 1, none⟩) (fun h => h) c1; have k2 := HKA.out.cell (p := ⟨b, o + j * 7 + 2, none⟩) (fun h => h) f2))
          · have HREL : Hid (ApCut2 W ⟨y0, y1, y2, y3, y4, y5⟩ z (.pointer (some ⟨w3.heap.size, 0, none⟩)) (.bool z) (w3.alloc (.cells #[.int .i64 y0, .int .u64 y1, .int .i64 y2, .int .i64 y3, .int .u64 y4, .int .i64 y5] 36))) := Lib.hid ⟨_, rfl, rfl, heap_alloc_new _ _, HKA.out.alloc _⟩
            go_wp2_with fail
            go_meet
            exact HREL.out
          · have HREL : Hid (ApCut2 W ⟨y0, y1, y2, y3, y4, y5⟩ z (.pointer (some ⟨W.heap.size, 0, none⟩)) (.bool z) ((((((w3.setCell ⟨W.heap.size, 0, none⟩ (.int .i64 y0)).setCell ⟨W.heap.size, 1, none⟩ (.int .u64 y1)).setCell ⟨W.heap.size, 2, none⟩ (.int .i64 y2)).setCell ⟨W.heap.size, 3, none⟩ (.int .i64 y3)).setCell ⟨W.heap.size, 4, none⟩ (.int .u64 y4)).setCell ⟨W.heap.size, 5, none⟩ (.int .i64 y5))) :=
              Lib.hid ⟨_, rfl, rfl, vote_cells (v := ⟨y0, y1, y2, y3, y4, y5⟩) HZ3.out, (((((HKA.out.setCell (p := ⟨W.heap.size, 0, none⟩) (.inr (Nat.le_refl _)) (.int .i64 y0)).setCell (p := ⟨W.heap.size, 1, none⟩) (.inr (Nat.le_refl _)) (.int .u64 y1)).setCell (p := ⟨W.heap.size, 2, none⟩) (.inr (Nat.le_refl _)) (.int .i64 y2)).setCell (p := ⟨W.heap.size, 3, none⟩) (.inr (Nat.le_refl _)) (.int .i64 y3)).setCell (p := ⟨W.heap.size, 4, none⟩) (.inr (Nat.le_refl _)) (.int .u64 y4)).setCell (p := ⟨W.heap.size, 5, none⟩) (.inr (Nat.le_refl _)) (.int .i64 y5)⟩
            clear x0 x1 x2 x3 x4 x5 z0 z1 z2 z3 z4 z5 k1 k2 HZ3
            go_wp2_with fail
            go_meet
            exact HREL.out
        case rest =>
          obtain ⟨s12, rfl, rfl, hr12, hk⟩ := hcut
          have HP12 := Lib.hid (HP9.out.no hk)
          have HK12 := Lib.hid (HK9.out.trans hk (fun _ _ h => h))
          obtain ⟨d0, d1, d2, d3, d4, d5⟩ := cells6 (v := ⟨y0, y1, y2, y3, y4, y5⟩) hr12
          obtain ⟨e0, e1, e2, e3, e4, e5⟩ := cells6 (v := ⟨y0, y1, y2, y3, y4, y5⟩) (hk.heap (fun h => h) HR10.out)
          clear c0 c1 g0 g1 f2 hk hr12 HRA
          obtain ⟨c0, c1, _, _⟩ := ac2 HP12.out.row
          try simp only at d0 d1 d2 d3 d4 d5 e0 e1 e2 e3 e4 e5
          have b1 : (p' != p') = false := by simp
          have b2 : ((L'.length : Int) != (L'.length : Int)) = false := by simp
          have b3 : (z != z) = false := by simp
          go_wp2_with fail
          go_region_held3 (fun w' => w'.cell? ⟨r, 0, none⟩ = some (.int .u64 p') ∧ w'.cell? ⟨r, 1, none⟩ = some (.slice ua L'.length uc) ∧ w'.cell? ⟨s10, 0, none⟩ = some (.int .i64 y0) ∧ w'.cell? ⟨s10, 1, none⟩ = some (.int .u64 y1) ∧ w'.cell? ⟨s10, 2, none⟩ = some (.int .i64 y2) ∧ w'.cell? ⟨s10, 3, none⟩ = some (.int .i64 y3) ∧ w'.cell? ⟨s10, 4, none⟩ = some (.int .u64 y4) ∧ w'.cell? ⟨s10, 5, none⟩ = some (.int .i64 y5) ∧
              w'.cell? ⟨s12, 0, none⟩ = some (.int .i64 y0) ∧ w'.cell? ⟨s12, 1, none⟩ = some (.int .u64 y1) ∧ w'.cell? ⟨s12, 2, none⟩ = some (.int .i64 y2) ∧ w'.cell? ⟨s12, 3, none⟩ = some (.int .i64 y3) ∧ w'.cell? ⟨s12, 4, none⟩ = some (.int .u64 y4) ∧ w'.cell? ⟨s12, 5, none⟩ = some (.int .i64 y5))
            (first
              | (with_reducible exact ⟨cell_drew c0, cell_drew c1, cell_drew e0, cell_drew e1, cell_drew e2, cell_drew e3, cell_drew e4, cell_drew e5, cell_drew d0, cell_drew d1, cell_drew d2, cell_drew d3, cell_drew d4, cell_drew d5⟩)
              | (with_reducible assumption)
              | go_keep)
            (first
              | (go_at_call 15; (with_reducible refine (APromised_any _ _ _ p' L' HP12.out.acc.drew).mono ?_); rintro e w' ⟨rfl, rfl⟩)
              | (go_at_call 16; (with_reducible refine (ALen_any _ _ _ p' L' HP12.out.acc.drew).mono ?_); rintro e w' ⟨rfl, rfl⟩))
          all_goals
            clear c0 c1 d0 d1 d2 d3 d4 d5 e0 e1 e2 e3 e4 e5
            have HP13 := Lib.hid (HP12.out.no (Kept.refl NoB wc).drew)
            have HK13 := Lib.hid (HK12.out.drew)
            obtain ⟨W13, hW13⟩ : ∃ W, W = wc.drew := ⟨_, rfl⟩
            go_wp2_with fail
            rw [← hW13] at HP13 HK13 ⊢
            clear hW13 b1 b2 b3
            obtain ⟨c0, c1, _, _⟩ := ac2 HP13.out.row
            have HKS0 : Hid (Kept NoB W13 W13.drew) := Lib.hid (Kept.refl NoB W13).drew
            have HLF : Hid (L'.length ≤ 100000) := Lib.hid (by have := HP13.out.acc.few; omega)
            have HFF := Lib.hid hf
            obtain ⟨M, hM⟩ : ∃ M, M = fromV L' f := ⟨_, rfl⟩
            have HVT : Hid (∀ w', Kept NoB W13 w' → Calls Try.prog 18 #[.pointer (some ⟨w.heap.size + 1, 0, none⟩), .int .i64 f] w' fun e w'' => ∃ v, e = .returned v ∧ VRd w'' (fun _ => True) v M ∧ Kept NoB w' w'') := Lib.hid (fun w' hk => by
              rw [hM]
              exact (AVotes_any w' _ _ p' f L' (HP13.out.acc.no hk) HFF.out).mono fun e w'' ⟨v, h1, h2, h3⟩ => ⟨v, h1, h2.rd (fun _ _ => trivial), h3⟩)
            have HFR : Hid (∀ w', Kept NoB W13 w' → Calls Try.prog 19 #[.slice ua L'.length uc, .int .i64 f] w' fun e w'' => ∃ v, e = .returned v ∧ VRd w'' (fun _ => True) v M ∧ Kept NoB w' w'') := Lib.hid (fun w' hk => by
              rw [hM]
              exact (RFrom_any w' _ f L' _ (HP13.out.rd.no hk) HLF.out).mono fun e w'' ⟨v, h1, h2, h3⟩ => ⟨v, h1, h2.rd (fun _ _ => trivial), h3⟩)
            clear hM
            go_region_held3 (fun w' => w'.cell? ⟨r, 1, none⟩ = some (.slice ua L'.length uc))
              (first
                | (with_reducible exact cell_drew c1)
                | (with_reducible exact k3)
                | (with_reducible exact k2)
                | (with_reducible exact k1)
                | go_keep)
              (first
                | (go_at_call 18; (with_reducible refine (HVT.out _ HKA.out).mono ?_); rintro e wv ⟨v8, rfl, hv8, hkv⟩; have HV2 := Lib.hid hv8; have HF2 := Lib.hid (HF1.out.no hkv); have HKB := Lib.hid (HKA.out.trans hkv (fun _ _ h => h)); have k2 := HKB.out.cell (p := ⟨r, 1, none⟩) (fun h => h) c1; clear hv8 hkv)
                | (go_at_call 18; (with_reducible refine (HVT.out _ HKS0.out).mono ?_); rintro e wv ⟨v8, rfl, hv8, hkv⟩; have HV1 := Lib.hid hv8; have HKA := Lib.hid (HKS0.out.trans hkv (fun _ _ h => h)); have k1 := HKA.out.cell (p := ⟨r, 1, none⟩) (fun h => h) c1; clear hv8 hkv)
                | (go_at_call 19; (with_reducible refine (HFR.out _ HKA.out).mono ?_); rintro e wf ⟨u8, rfl, hu8, hku⟩; have HF2 := Lib.hid hu8; have HV2 := Lib.hid (HV1.out.no hku); have HKB := Lib.hid (HKA.out.trans hku (fun _ _ h => h)); have k2 := HKB.out.cell (p := ⟨r, 1, none⟩) (fun h => h) c1; clear hu8 hku)
                | (go_at_call 19; (with_reducible refine (HFR.out _ HKS0.out).mono ?_); rintro e wf ⟨u8, rfl, hu8, hku⟩; have HF1 := Lib.hid hu8; have HKA := Lib.hid (HKS0.out.trans hku (fun _ _ h => h)); have k1 := HKA.out.cell (p := ⟨r, 1, none⟩) (fun h => h) c1; clear hu8 hku)
                | (go_at_call 17; (with_reducible refine (RSameVotes_eq _ _ _ M _ _ HV2.out HF2.out).mono ?_); rintro e ws ⟨rfl, hks⟩; have HKC := Lib.hid (HKB.out.trans hks (fun _ _ h => h)); have k3 := HKC.out.cell (p := ⟨r, 1, none⟩) (fun h => h) c1; clear hks))
            all_goals
              have HPE := Lib.hid (HP13.out.no HKC.out)
              have HKE := Lib.hid (HK13.out.trans HKC.out (fun _ _ h => h))
              clear c0 c1 k1 k2 k3
              go_wp2
              exact ⟨⟨j + 1, p', L', ua, uc, by omega, by omega, by go_num, HPE.out, HKE.out⟩, by simp [RowKit.intOf]; omega⟩
    · have HAW := Lib.hid (awake11 wr)
      clear c0 c1
      by_cases h1 : j < n
      · have h2 : j = 60 := by omega
        subst h2
        have h3 : ((60 : Nat) : Int) < (n : Int) := by omega
        have h4 : decide ((((60 : Nat) : Int)) < 60) = false := by decide
        go_wp2_with (go_at_call 20; refine HAW.out.mono ?_; rintro e w' ⟨rfl, hk⟩; have HKF := Lib.hid (HK.out.trans hk (fun _ _ h => h)); clear hk)
        go_ret
        exact ⟨rfl, HKF.out⟩
      · have h2 : j = n := by omega
        subst h2
        go_wp2_with (go_at_call 20; refine HAW.out.mono ?_; rintro e w' ⟨rfl, hk⟩; have HKF := Lib.hid (HK.out.trans hk (fun _ _ h => h)); clear hk)
        go_ret
        exact ⟨rfl, HKF.out⟩
end Go.Proofs.Ytjbchnildeeicaa
