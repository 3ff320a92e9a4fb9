/-
  The walk of MoveTakes.
-/
import Derived.Test.YtnamipgdclbkeaaMovJ
import Derived.Test.YtnamipgdclbkeaaMovO
import Derived.Deep.RegionHeld3
namespace Go.Proofs.Ytnamipgdclbkeaa
open Go.RowKit Go.Shelf
set_option linter.unusedVariables false
set_option linter.unusedSimpArgs false

/-- Blocks that are not the picture's, and not block r0. -/
def Free (x r0 : Nat) (a : Option Addr) (n c : Nat) (k : Nat) : Prop := k ≠ x ∧ k ≠ r0 ∧ ¬ some k = (Value.slice a n c).ownBlock
structure TkSt (w : World) (x r0 k : Nat) (R : Rm) (a : Option Addr) (c : Nat) (pp : Int) (lv : Value) (wr : World) : Prop where
  i : InM wr x a c pp R
  g : RowGe w.heap.size a R.L.flatten.length c
  r : wr.heap[r0]? = some (.cells #[.int .u64 R.q, .int .i64 R.n, lv] 40 (0, 0))
  l : LsO wr (Free x r0 a R.L.flatten.length c) lv R.L
  kp : Kept NoB w wr
  n : R.L.length ≤ k
  z : R.L.flatten.length ≤ 1024 * k
  q : R.q < 18446744073709551616
theorem TkSt.no {w : World} {x r0 k : Nat} {R : Rm} {a : Option Addr} {c : Nat} {pp : Int} {lv : Value} {wr w' : World} (h : TkSt w x r0 k R a c pp lv wr) (hk : Kept NoB wr w') : TkSt w x r0 k R a c pp lv w' :=
  ⟨⟨hk.heap (fun h => h) h.i.1, h.i.2.1, own_keptM h.i.2.2.1 hk (fun _ _ h => h), h.i.2.2.2⟩, h.g, hk.heap (fun h => h) h.r, h.l.no hk, h.kp.trans hk (fun _ _ h => h), h.n, h.z, h.q⟩
theorem takeM_bounds {R : Rm} {k q : Nat} {part parts : Int} {b : List Int} (hn : R.L.length ≤ k) (hz : R.L.flatten.length ≤ 1024 * k) (hq : R.q < 18446744073709551616) (hq2 : q < 18446744073709551616) :
    (takeM R q part parts b).1.L.length ≤ k + 1 ∧ (takeM R q part parts b).1.L.flatten.length ≤ 1024 * (k + 1) ∧ (takeM R q part parts b).1.q < 18446744073709551616 := by
  by_cases hb : badM R q part parts b
  · rw [takeM_bad hb]; exact ⟨by show R.L.length ≤ _; omega, by show R.L.flatten.length ≤ _; omega, hq⟩
  · have h1 := aimM_num R q parts
    have h2 := aimM_len R q parts
    have h3 := aimM_q hb
    have hbl : b.length ≤ 1024 := by unfold badM at hb; omega
    obtain ⟨t1, t2, t3⟩ := takeM_ways (b := b) hb rfl
    by_cases hp : part = ((aimM R q parts).L.length : Int)
    · by_cases hl : ((aimM R q parts).L.length : Int) + 1 < parts
      · rw [t1 hp hl]
        refine ⟨by simp; omega, ?_, hq2⟩
        have : ((aimM R q parts).L ++ [b]).flatten.length = (aimM R q parts).L.flatten.length + b.length := by rw [List.flatten_append, List.length_append]; simp
        show ((aimM R q parts).L ++ [b]).flatten.length ≤ _
        omega
      · rw [t2 hp hl]; exact ⟨by simp, by simp, hq2⟩
    · rw [t3 hp]; exact ⟨by show (aimM R q parts).L.length ≤ _; omega, by show (aimM R q parts).L.flatten.length ≤ _; omega, by show (aimM R q parts).q < _; omega⟩
/-- What the program's Take leaves of the state: all but the chapter's variable. -/
theorem TkSt.take {w : World} {x r0 k : Nat} {R R' : Rm} {a a' : Option Addr} {c c' : Nat} {pp pp' : Int} {lv : Value} {wr w' : World} (h : TkSt w x r0 k R a c pp lv wr) (hx : x < r0) (hxw : w.heap.size ≤ x) (hI : InM w' x a' c' pp' R')
    (ho : ∀ j, some j = (Value.slice a' R'.L.flatten.length c').ownBlock → some j = (Value.slice a R.L.flatten.length c).ownBlock ∨ wr.heap.size ≤ j) (hk : Kept (FtI x a R.L.flatten.length c) wr w') :
    RowGe w.heap.size a' R'.L.flatten.length c' ∧ w'.heap[r0]? = some (.cells #[.int .u64 R.q, .int .i64 R.n, lv] 40 (0, 0)) ∧ LsO w' (Free x r0 a' R'.L.flatten.length c') lv R.L ∧ Kept NoB w w' := by
  have hs := h.kp.size
  have hr0 : ¬ FtI x a R.L.flatten.length c r0 := fun e => Or.elim e (fun e => by omega) (fun e => own_ne h.i.2.2.1 h.r (by decide) e)
  refine ⟨fun j hj => Or.elim (ho j hj) (h.g j) (fun h => Nat.le_trans hs h), hk.heap hr0 h.r, ?_, h.kp.trans hk (fun i hi e => Or.elim e (fun e => by omega) (fun e => by have := h.g i e; omega))⟩
  refine ((h.l.mono (G := fun j => Free x r0 a R.L.flatten.length c j ∧ j < wr.heap.size) (fun j h1 h2 => ⟨h2, h1⟩)).kept hk (fun j hj e => Or.elim e (fun e => hj.1.1 e) (fun e => hj.1.2.2 e))).mono (fun j _ hj => ⟨hj.1.1, hj.1.2.1, fun e => ?_⟩)
  rcases ho j e with h1 | h1
  · exact hj.1.2.2 h1
  · have := hj.2; omega
/-- The state behind a round: both Takes are done, and the chapter's variable is stored. -/
theorem TkSt.turn {w : World} {r0 k : Nat} {R : Rm} {a a' : Option Addr} {c c' : Nat} {pp pp' : Int} {lv lv2 tu ru : Value} {wr w3 w4 : World} {q : Nat} {part parts : Int} {b o : List Int} {R' : Rm} {ok : Bool} {T : TypeId} (h : TkSt w w.heap.size r0 k R a c pp lv wr) (hx : w.heap.size < r0) (hT : takeM R q part parts b = (R', o, ok)) (hq : q < 18446744073709551616) (hI : InM w3 w.heap.size a' c' pp' R')
    (ho : ∀ j, some j = (Value.slice a' R'.L.flatten.length c').ownBlock → some j = (Value.slice a R.L.flatten.length c).ownBlock ∨ wr.heap.size ≤ j) (hk : Kept (FtI w.heap.size a R.L.flatten.length c) wr w3)
    (hl2 : LsO w4 (fun j => Free w.heap.size r0 a' R'.L.flatten.length c' j ∨ w3.heap.size ≤ j) lv2 R'.L) (hk4 : Kept NoB w3 w4) (htu : BSl w3 (fun j => some j = (Value.slice a R.L.flatten.length c).ownBlock ∨ wr.heap.size ≤ j) tu o)
    (hru : BSl w4 (fun j => Free w.heap.size r0 a' R'.L.flatten.length c' j ∨ w3.heap.size ≤ j) ru o) :
    TkSt w w.heap.size r0 (k + 1) R' a' c' pp' lv2 (three21 (w4.alloc (.cells #[.int .u64 R'.q, .int .i64 R'.n, lv2] T)) r0 (.int .u64 R'.q) (.int .i64 R'.n) lv2) ∧
      BSl (three21 (w4.alloc (.cells #[.int .u64 R'.q, .int .i64 R'.n, lv2] T)) r0 (.int .u64 R'.q) (.int .i64 R'.n) lv2) (fun _ => True) tu o ∧ BSl (three21 (w4.alloc (.cells #[.int .u64 R'.q, .int .i64 R'.n, lv2] T)) r0 (.int .u64 R'.q) (.int .i64 R'.n) lv2) (fun _ => True) ru o := by
  have hs := h.kp.size
  have hs3 := hk.size
  obtain ⟨g1, g2, g3, g4⟩ := h.take hx (Nat.le_refl _) hI ho hk
  have hr0w : r0 < wr.heap.size := heap_lt h.r
  have hr0r : ¬ some r0 = (Value.slice a R.L.flatten.length c).ownBlock := own_ne h.i.2.2.1 h.r (by decide)
  have hr0r' : ¬ some r0 = (Value.slice a' R'.L.flatten.length c').ownBlock := own_ne hI.2.2.1 g2 (by decide)
  have hk5 : Kept NoB w3 (w4.alloc (.cells #[.int .u64 R'.q, .int .i64 R'.n, lv2] T)) := hk4.alloc _
  have hk6 := kept_three (w4.alloc (.cells #[.int .u64 R'.q, .int .i64 R'.n, lv2] T)) r0 (.int .u64 R'.q) (.int .i64 R'.n) lv2
  have hne : ¬ w.heap.size = r0 := by omega
  obtain ⟨b1, b2, b3⟩ := takeM_bounds (q := q) (part := part) (parts := parts) (b := b) h.n h.z h.q hq
  rw [hT] at b1 b2 b3
  have hrow3 : ∀ j, some j = (Value.slice a' R'.L.flatten.length c').ownBlock → j < w3.heap.size := fun j hj => (hI.2.2.1.lt j hj.symm).2
  refine ⟨⟨⟨hk6.heap hne (hk5.heap (fun h => h) hI.1), hI.2.1, own_keptM (own_keptM hI.2.2.1 hk5 (fun _ _ h => h)) hk6 (fun j hj e => hr0r' (by rw [← (show j = r0 from e)]; exact hj)), hI.2.2.2⟩, g1, three21_at (hk5.heap (fun h => h) g2) _ _ _, ?_, ?_, b1, b2, b3⟩, ?_, ?_⟩
  · have hl3 := (hl2.mono (G := fun j => (Free w.heap.size r0 a' R'.L.flatten.length c' j ∨ w3.heap.size ≤ j) ∧ True) (fun j _ h => ⟨h, trivial⟩)).no ((Kept.refl _ w4).alloc (.cells #[.int .u64 R'.q, .int .i64 R'.n, lv2] T))
    refine (hl3.kept hk6 (fun j hj e => by have e : j = r0 := e; rcases hj.1 with h | h; exact h.2.1 e; omega)).mono (fun j _ hj => ?_)
    rcases hj.1 with h | h
    · exact h
    · exact ⟨by omega, by omega, fun e => by have := hrow3 j e; omega⟩
  · exact (g4.trans hk5 (fun _ _ h => h)).trans hk6 (fun i hi e => by have e : i = r0 := e; omega)
  · exact ((htu.kept hk5 (fun _ _ h => h)).kept hk6 (fun j hj e => by have e : j = r0 := e; rcases hj with h | h; exact hr0r (by rw [← e]; exact h); omega)).mono (fun _ _ _ => trivial)
  · exact ((hru.kept ((Kept.refl NoB w4).alloc (.cells #[.int .u64 R'.q, .int .i64 R'.n, lv2] T)) (fun _ _ h => h)).kept hk6 (fun j hj e => by have e : j = r0 := e; rcases hj with h | h; exact h.2.1 e; omega)).mono (fun _ _ _ => trivial)
set_option maxRecDepth 100000 in
set_option maxHeartbeats 1000000 in
theorem MoveTakes_any (w : World) (v : Value) (len : Nat) (it : Nat → Pt21) (h : PtsAt w v len it) : Calls Try.prog 4 #[v] w fun e w' => e = .returned (.bool true) ∧ Kept NoB w w' := by
  obtain ⟨a, cap, rfl, hlen, hc⟩ := h
  have HC := Lib.hid hc
  obtain ⟨r0, hr0⟩ : ∃ r0, r0 = w.heap.size + 1 := ⟨_, rfl⟩
  clear hc
  go_enter Try.func4, Try.ntmps4
  go_wp2_with (go_at_call 15; refine (Begin_any w).mono ?_; rintro e w1 ⟨rfl, hI1, hw1⟩; have HI1 := Lib.hid hI1; have HW1 := Lib.hid hw1; clear hI1 hw1)
  have hz1 : w1.heap.size = r0 := by rw [HW1.out, hr0]; simp
  have hk1 : Kept NoB w w1 := by rw [HW1.out]; exact (Kept.refl _ _).alloc _
  have hst : TkSt w w.heap.size r0 0 ⟨0, 0, []⟩ none 0 0 (.slice none 0 0) (w1.alloc (.cells #[.int .u64 0, .int .i64 0, .slice none 0 0] 40)) := by
    have hk := (Kept.refl NoB w1).alloc (.cells #[.int .u64 0, .int .i64 0, .slice none 0 0] 40)
    refine ⟨⟨hk.heap (fun h => h) HI1.out.1, HI1.out.2.1, own_keptM HI1.out.2.2.1 hk (fun _ _ h => h), HI1.out.2.2.2⟩, fun k h => by simp [Value.ownBlock] at h, ?_, LsO.nil _ _, hk1.trans hk (fun _ _ h => h), Nat.le_refl _, by simp, by decide⟩
    rw [← hz1]; exact heap_alloc_new w1 _
  have HST := Lib.hid hst
  have hxr : w.heap.size < r0 := by omega
  rw [hz1]
  have HZ := Lib.hid hz1
  clear hst hz1 hk1 hr0
  go_loopw [5] (fun kv wr => ∃ (k : Nat) (R : Rm) (a : Option Addr) (c : Nat) (pp : Int) (lv : Value), kv = .int .i64 k ∧ k ≤ 60 ∧ TkSt w w.heap.size r0 k R a c pp lv wr) (fun kv _ => 60 - (intOf kv).toNat)
  case atStart => exact ⟨0, _, _, _, _, _, rfl, by omega, HST.out⟩
  case round =>
    obtain ⟨k, R, ra, rc, pp, lv, rfl, hk60, hS⟩ := hrel
    have HS := Lib.hid hS
    clear hS HST
    by_cases hlt : k < len ∧ k < 60
    · obtain ⟨hkl, hk6⟩ := hlt
      have hk1 : (k : Int) < len := by omega
      have hk2 : (k : Int) < 60 := by omega
      obtain ⟨pb, po, rfl, hpb, hcs⟩ := HC.out (by omega)
      obtain ⟨e0, e1, e2, ⟨u, e3, hbu⟩, hq0, hq1⟩ := hcs k hkl
      obtain ⟨q, hq⟩ : ∃ q : Nat, (it k).q = q := ⟨(it k).q.toNat, by omega⟩
      obtain ⟨pi, hpi⟩ : ∃ pi, pi = (it k).i := ⟨_, rfl⟩
      obtain ⟨pn, hpn⟩ : ∃ pn, pn = (it k).n := ⟨_, rfl⟩
      obtain ⟨b, hb⟩ : ∃ b, b = (it k).b := ⟨_, rfl⟩
      rw [hq] at e0
      rw [← hpi] at e1
      rw [← hpn] at e2
      rw [← hb] at hbu
      have hq2 : q < 18446744073709551616 := by omega
      obtain ⟨ua, uc, rfl, hbl1, hbl2, _⟩ := id hbu
      have hblm : b.length ≤ 9223372036854775807 := by unfold maxLen at hbl2; omega
      have HKW := Lib.hid HS.out.kp
      have f0 := HKW.out.cell (p := ⟨pb, po + k * 4, none⟩) (fun h => h) e0
      have f1 := HKW.out.cell (p := ⟨pb, po + k * 4 + 1, none⟩) (fun h => h) e1
      have f2 := HKW.out.cell (p := ⟨pb, po + k * 4 + 2, none⟩) (fun h => h) e2
      have f3 := HKW.out.cell (p := ⟨pb, po + k * 4 + 3, none⟩) (fun h => h) e3
      have HBU := Lib.hid hbu
      clear hcs e0 e1 e2 e3 hbu hq hpi hpn hb hq0 hq1 hbl1 hbl2
      by_cases hbig : (1100 : Int) < b.length
      · have hd : decide ((1100 : Int) < b.length) = true := decide_eq_true hbig
        go_wp2_with (go_at_call 7; refine (awake21_any _).mono ?_; rintro e w9 ⟨rfl, hk9⟩; have HK9 := Lib.hid hk9; clear hk9)
        go_ret
        exact ⟨rfl, (HKW.out.alloc _).trans HK9.out (fun _ _ h => h)⟩
      · have hd : decide ((1100 : Int) < b.length) = false := decide_eq_false hbig
        go_upto_region 9 with fail
        obtain ⟨W2, hW2⟩ : ∃ W2, W2 = wr.alloc (.cells #[.int .u64 q, .int .i64 pi, .int .i64 pn, .slice ua b.length uc] 42) := ⟨_, rfl⟩
        have hkW2 : Kept NoB wr W2 := by rw [hW2]; exact (Kept.refl _ _).alloc _
        have hp2 : W2.heap[wr.heap.size]? = some (.cells #[.int .u64 q, .int .i64 pi, .int .i64 pn, .slice ua b.length uc] 42 (0, 0)) := by rw [hW2]; exact heap_alloc_new wr _
        rw [← hW2]
        have HS2 := Lib.hid (HS.out.no hkW2)
        have HP2 := Lib.hid hp2
        have HB2 := Lib.hid (HBU.out.kept (HKW.out.trans hkW2 (fun _ _ h => h)) (fun _ _ h => h))
        have hks := HKW.out.size
        obtain ⟨pbx, hpx⟩ : ∃ pbx, pbx = wr.heap.size := ⟨_, rfl⟩
        rw [← hpx] at HP2 ⊢
        have hpw : w.heap.size ≤ pbx := by omega
        have g0 : W2.cell? ⟨pbx, 0, none⟩ = some (.int .u64 q) := cell_of_row _ _ 0 _ _ _ HP2.out
        have g1 : W2.cell? ⟨pbx, 1, none⟩ = some (.int .i64 pi) := cell_of_row _ _ 1 _ _ _ HP2.out
        have g2 : W2.cell? ⟨pbx, 2, none⟩ = some (.int .i64 pn) := cell_of_row _ _ 2 _ _ _ HP2.out
        have g3 : W2.cell? ⟨pbx, 3, none⟩ = some (.slice ua b.length uc) := cell_of_row _ _ 3 _ _ _ HP2.out
        have hnx : ¬ FtI w.heap.size ra R.L.flatten.length rc pbx := fun e => Or.elim e (fun e => by have := heap_lt HS.out.i.1; omega) (fun e => own_ne HS2.out.i.2.2.1 HP2.out (by decide) e)
        obtain ⟨T, hTT⟩ : ∃ T, T = takeM R q pi pn b := ⟨_, rfl⟩
        obtain ⟨R', o, ok⟩ := T
        have HTT := Lib.hid hTT.symm
        have HNX := Lib.hid hnx
        have HTK := Lib.hid (Take_any w.heap.size ra rc pp R q pi pn (.slice ua b.length uc) b (fun j => j < w.heap.size) W2 HS2.out.i HB2.out (fun j hj e => Or.elim e (fun e => by omega) (fun e => by have := HS2.out.g j e; omega)) hq2 (Nat.le_trans HS2.out.n (by omega)) (Nat.le_trans HS2.out.z (by omega)) hblm)
        clear hW2 hkW2 hp2 hpx f0 f1 f2 f3 hnx hTT HS HBU HKW
        go_upto_region 10 with (go_at_call 16; refine HTK.out.mono ?_; intro e w3 he; unfold TakeP at he; rw [HTT.out] at he; obtain ⟨a', c', tu, rfl, htu, ⟨pp', hI'⟩, ho, hk3⟩ := he; dsimp only at htu hI' ho; have HTU := Lib.hid htu; have HI' := Lib.hid hI'; have HO' := Lib.hid ho; have HK3 := Lib.hid hk3; clear htu hI' ho hk3)
        obtain ⟨t1, t2, t3, t4⟩ := HS2.out.take hxr (Nat.le_refl _) HI'.out HO'.out HK3.out
        have T2 := Lib.hid t2
        have hp3 := HK3.out.heap HNX.out HP2.out
        have HP3 := Lib.hid hp3
        have HBF := Lib.hid ((HB2.out.kept HK3.out (fun j hj e => Or.elim e (fun e => by omega) (fun e => by have := HS2.out.g j e; omega))).mono (G := Free w.heap.size r0 a' R'.L.flatten.length c') (fun j _ hj => ⟨by omega, by omega, fun e => by have := t1 j e; omega⟩))
        have HRT := Lib.hid (RTake_any lv R q pi pn (.slice ua b.length uc) b _ w3 t3 HBF.out hq2 (Nat.le_trans HS2.out.n (by omega)) (Nat.le_trans HS2.out.z (by omega)))
        obtain ⟨la, lc, hlv⟩ := t3.form
        subst hlv
        obtain ⟨Rq, hRq⟩ : ∃ x, x = R.q := ⟨_, rfl⟩
        obtain ⟨Rn, hRn⟩ : ∃ x, x = R.n := ⟨_, rfl⟩
        obtain ⟨Rl, hRl⟩ : ∃ x, x = R.L.length := ⟨_, rfl⟩
        rw [← hRq, ← hRn, ← hRl] at T2 HRT
        obtain ⟨g0, g1, g2, g3⟩ : w3.cell? ⟨pbx, 0, none⟩ = some (.int .u64 q) ∧ w3.cell? ⟨pbx, 1, none⟩ = some (.int .i64 pi) ∧ w3.cell? ⟨pbx, 2, none⟩ = some (.int .i64 pn) ∧ w3.cell? ⟨pbx, 3, none⟩ = some (.slice ua b.length uc) := ⟨cell_of_row _ _ 0 _ _ _ HP3.out, cell_of_row _ _ 1 _ _ _ HP3.out, cell_of_row _ _ 2 _ _ _ HP3.out, cell_of_row _ _ 3 _ _ _ HP3.out⟩
        obtain ⟨c0, c1, c2, z0, z1, z2⟩ := cells3m T2.out
        have HRE := Lib.hid (And.intro hRq (And.intro hRn hRl))
        clear hp3 t1 t2 t3 t4 hRq hRn hRl
        go_upto_region 11 with (go_at_call 17; refine HRT.out.mono ?_; intro e w4 he; unfold RTakeP at he; rw [HTT.out] at he; obtain ⟨lv2, ru, rfl, hl2, hru, hk4⟩ := he; dsimp only at hl2 hru; obtain ⟨la2, lc2, hlv2⟩ := hl2.form; subst hlv2; have HL2 := Lib.hid hl2; have HRU := Lib.hid hru; have HK4 := Lib.hid hk4; have HT4 := Lib.hid (hk4.heap (fun h => h) T2.out); clear hl2 hru hk4)
        obtain ⟨W6, hW6⟩ : ∃ W6, W6 = three21 (w4.alloc (.cells #[.int .u64 R'.q, .int .i64 R'.n, .slice la2 R'.L.length lc2] 40)) r0 (.int .u64 R'.q) (.int .i64 R'.n) (.slice la2 R'.L.length lc2) := ⟨_, rfl⟩
        have HTURN := Lib.hid (HS2.out.turn (T := 40) hxr HTT.out hq2 HI'.out HO'.out HK3.out HL2.out HK4.out HTU.out HRU.out)
        rw [← hW6] at HTURN
        have HW6 := Lib.hid hW6
        clear hW6
        have ha0 := heap_alloc_new w4 (.cells #[.int .u64 R'.q, .int .i64 R'.n, .slice la2 R'.L.length lc2] 40)
        have hr4 := ((Kept.refl NoB w4).alloc (.cells #[.int .u64 R'.q, .int .i64 R'.n, .slice la2 R'.L.length lc2] 40)).heap (fun h => h) HT4.out
        obtain ⟨W5, hW5⟩ : ∃ W5, W5 = w4.alloc (.cells #[.int .u64 R'.q, .int .i64 R'.n, .slice la2 R'.L.length lc2] 40) := ⟨_, rfl⟩
        rw [← hW5] at ha0 hr4 HW6 ⊢
        obtain ⟨a0, a1, a2, y0, y1, y2⟩ := cells3m ha0
        obtain ⟨b0, b1, b2, x0, x1, x2⟩ := cells3m hr4
        clear ha0 hr4 hW5 c0 c1 c2 z0 z1 z2 g0 g1 g2 g3
        go_upto_region 12 with fail
        have hW6 := HW6.out
        unfold three21 at hW6
        rw [← hW6]
        obtain ⟨hS6, htu6, hru6⟩ := HTURN.out
        have HS6 := Lib.hid hS6
        have HTU6 := Lib.hid htu6
        have HRU6 := Lib.hid hru6
        obtain ⟨ta, tc, hte⟩ : ∃ a c, tu = .slice a o.length c := by obtain ⟨a, c, h, _⟩ := htu6; exact ⟨a, c, h⟩
        obtain ⟨xa, xc, hxe⟩ : ∃ a c, ru = .slice a o.length c := by obtain ⟨a, c, h, _⟩ := hru6; exact ⟨a, c, h⟩
        subst hte hxe
        clear hS6 htu6 hru6 hW6 HTURN HW6 a0 a1 a2 y0 y1 y2 b0 b1 b2 x0 x1 x2 HK4 HT4 HL2 HRU HTU HI' HO' HK3 T2 HRT HBF HP3 HTK HNX HRE HB2 HP2
        go_upto_region 13 with (go_at_call 18; refine (Wants_any w.heap.size a' c' pp' R' W6 HS6.out.i).mono ?_; rintro e w7 ⟨rfl, hk7⟩; have HS7 := Lib.hid (HS6.out.no hk7); have HTU7 := Lib.hid (HTU6.out.kept hk7 (fun _ _ h => h)); have HRU7 := Lib.hid (HRU6.out.kept hk7 (fun _ _ h => h)); clear hk7)
        have hn2 : R'.L.length ≤ 1000 := Nat.le_trans HS7.out.n (by omega)
        have hz2 : R'.L.flatten.length ≤ 10000000 := Nat.le_trans HS7.out.z (by omega)
        obtain ⟨n2, hn2e⟩ : ∃ x, x = R'.L.length := ⟨_, rfl⟩
        obtain ⟨q2, hq2e⟩ : ∃ x, x = R'.q := ⟨_, rfl⟩
        obtain ⟨m2, hm2e⟩ : ∃ x, x = R'.L.flatten.length := ⟨_, rfl⟩
        have HTEN : Hid (∀ W, Kept NoB w7 W → W.cell? ⟨r0, 0, none⟩ = some (.int .u64 q2) ∧ W.cell? ⟨r0, 2, none⟩ = some (.slice la2 n2 lc2)) := Lib.hid (fun W hk => by rw [hq2e, hn2e]; exact ⟨cell_of_row _ _ 0 _ _ _ (hk.heap (fun h => h) HS7.out.r), cell_of_row _ _ 2 _ _ _ (hk.heap (fun h => h) HS7.out.r)⟩)
        have HC1 : Hid (∀ W, Kept NoB w7 W → Calls Try.prog 14 #[.slice ta o.length tc, .slice xa o.length xc] W fun e w' => e = .returned (.bool true) ∧ Kept NoB W w') := Lib.hid (fun W hk => Same_yes _ _ o _ _ W (HTU7.out.kept hk (fun _ _ h => h)) (HRU7.out.kept hk (fun _ _ h => h)))
        have HC2 : Hid (∀ W, Kept NoB w7 W → Calls Try.prog 19 #[.pointer (some ⟨w.heap.size, 0, none⟩)] W fun e w' => e = .returned (.int .i64 m2) ∧ W = w') := Lib.hid (fun W hk => by rw [hm2e]; exact Held_any w.heap.size a' c' pp' R' W (HS7.out.no hk).i)
        have HC3 : Hid (∀ W, Kept NoB w7 W → Calls Try.prog 20 #[.slice la2 n2 lc2] W fun e w' => ∃ a c, e = .returned (.slice a m2 c) ∧ Kept NoB W w') := Lib.hid (fun W hk => by
          rw [hm2e, hn2e]
          refine (RAll_any _ R'.L _ W (HS7.out.no hk).l (by omega) (by omega)).mono ?_
          rintro e w' ⟨u, rfl, ⟨a, c, rfl, _⟩, hk'⟩
          exact ⟨a, c, rfl, hk'⟩)
        rw [← hn2e, ← hq2e]
        have HKc := Lib.hid ((Kept.refl NoB w7).drew)
        have HT := Lib.hid (HTEN.out _ HKc.out)
        have HR2 := Lib.hid (And.intro hn2e (And.intro hq2e hm2e))
        clear hn2e hq2e hm2e hn2 hz2 HS6 HTU6 HRU6
        go_region_held3 (fun w' => w'.cell? ⟨r0, 0, none⟩ = some (.int .u64 q2) ∧ w'.cell? ⟨r0, 2, none⟩ = some (.slice la2 n2 lc2))
          (with_reducible exact HT.out)
          (first
          | (go_at_call 14; (with_reducible refine (HC1.out _ HKc.out).mono ?_); rintro e w8 ⟨rfl, hk8⟩; replace HKc := Lib.hid (HKc.out.trans hk8 (fun _ _ h => h)); replace HT := Lib.hid (HTEN.out _ HKc.out); clear hk8)
          | (go_at_call 19; (with_reducible refine (HC2.out _ HKc.out).mono ?_); rintro e w8 ⟨rfl, rfl⟩)
          | (go_at_call 20; (with_reducible refine (HC3.out _ HKc.out).mono ?_); rintro e w8 ⟨u8a, u8c, rfl, hk8⟩; replace HKc := Lib.hid (HKc.out.trans hk8 (fun _ _ h => h)); replace HT := Lib.hid (HTEN.out _ HKc.out); clear hk8))
        go_wp2
        go_roundw
        case rel => exact ⟨k + 1, R', a', c', pp', _, by go_num, by omega, HS7.out.no HKc.out⟩
        case measure => simp [intOf]; omega
    · by_cases hkl : k < len
      · have hk1 : (k : Int) < len := by omega
        have hk2 : ¬ (k : Int) < 60 := by omega
        have hk3 : ¬ k < 60 := by omega
        clear hlt
        go_wp2_with (go_at_call 7; refine (awake21_any _).mono ?_; rintro e w9 ⟨rfl, hk9⟩; have HK9 := Lib.hid hk9; clear hk9)
        go_ret
        exact ⟨rfl, HS.out.kp.trans HK9.out (fun _ _ h => h)⟩
      · have hk1 : ¬ (k : Int) < len := by omega
        clear hlt
        go_wp2_with (go_at_call 7; refine (awake21_any _).mono ?_; rintro e w9 ⟨rfl, hk9⟩; have HK9 := Lib.hid hk9; clear hk9)
        go_ret
        exact ⟨rfl, HS.out.kp.trans HK9.out (fun _ _ h => h)⟩
end Go.Proofs.Ytnamipgdclbkeaa
