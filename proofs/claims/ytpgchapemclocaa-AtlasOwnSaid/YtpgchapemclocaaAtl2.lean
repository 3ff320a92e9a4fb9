/-
  Layer 25: the low keys: what the function literal makes; the chapter's Low; two lists of numbers compared. Layer 25: the low keys, computed once; Low and Tables. The walk of AtlasLearns. The walk of AtlasOwn.
-/
import Derived.Test.YtpgchapemclocaaAtl1
import Derived.Laws.MakeOwn
import Derived.Test.YtpgchapemclocaaLat1
import Derived.Recover
import Derived.LoopTactic
import Derived.Deep.RegionHeld3
import Derived.Deep.DeepMust
namespace Go.Proofs.Ytpgchapemclocaa
open Go.RowKit
set_option linter.unusedVariables false
set_option linter.unusedSimpArgs false

/-- The keys below k of chain j, of n chains. -/
def lowL (n : Nat) (j : Nat) (k : Nat) : List Int := ((List.range k).filter (fun i : Nat => decide (chn (i : Int) n = (j : Int)))).map (fun i : Nat => (i : Int))
theorem lowL_zero (n j : Nat) : lowL n j 0 = [] := rfl
theorem lowL_yes {n j k : Nat} (h : chn (k : Int) n = (j : Int)) : lowL n j (k + 1) = lowL n j k ++ [(k : Int)] := by
  unfold lowL
  rw [List.range_succ, List.filter_append, List.map_append]
  simp [h]
theorem lowL_no {n j k : Nat} (h : chn (k : Int) n ≠ (j : Int)) : lowL n j (k + 1) = lowL n j k := by
  unfold lowL
  rw [List.range_succ, List.filter_append, List.map_append]
  simp [h]
theorem lowL_len (n j k : Nat) : (lowL n j k).length ≤ k := by
  unfold lowL
  rw [List.length_map]
  exact Nat.le_trans (List.length_filter_le _ _) (by simp)
theorem info_ints25 : (Try.prog.info? 31).map (fun i => (i.zero, i.size, i.bytes)) = some (some (.slice none 0 0), 1, 24) := by kernel_rfl
/-- A row of n slices of numbers, the lists ls. -/
structure RowL (w : World) (B r n k : Nat) (us : Nat → Value) : Prop where
  row : ∃ cs : Array Value, w.heap[r]? = some (.cells cs 31 (0, 0)) ∧ cs.size = n ∧ ∀ j, j < n → cs[j]? = some (us j)
  own : ∀ j, j < n → IOwn B w (us j) (lowL n j k)
  far : ∀ i j b, i < n → j < n → i ≠ j → (us i).ownBlock = some b → (us j).ownBlock ≠ some b
def upd25 (us : Nat → Value) (p : Nat) (v : Value) : Nat → Value := fun j => if j = p then v else us j
set_option maxRecDepth 100000 in
set_option maxHeartbeats 2000000 in
theorem KeysOf1_any (c n : Nat) (w : World) (hc : w.cell? ⟨c, 0, none⟩ = some (.int .i64 n)) (h1 : 1 ≤ n) (h4 : n ≤ 1000) :
    Calls Try.prog 51 #[.pointer (some ⟨c, 0, none⟩)] w fun e w' => ∃ us, e = .returned (.slice (some ⟨w.heap.size, 0, none⟩) n n) ∧ RowL w' w.heap.size w.heap.size n 256 us ∧ Kept NoB w w' := by
  obtain ⟨i0, hi0, hz0, hz1, hz2⟩ := info_parts info_ints25
  have hmk : ∀ W : World, (Instr.makeSlice 58 (.int .i64 (n : Int)) (.int .i64 (n : Int))).run Try.prog W = .ok (.slice (some ⟨W.heap.size, 0, none⟩) n n) (W.alloc (.cells (madeCells #[Value.slice none 0 0] n) 31)) := fun W => by
    have hr := run_make (P := Try.prog) W 58 31 i0 _ Try.underlying58 hi0 hz0 .i64 .i64 (n : Int) (n : Int) (by omega) (by omega) (by rw [hz2]; omega) (by omega)
    simp only [Int.toNat_natCast, hz1, Nat.mul_one] at hr
    exact hr
  have HC := Lib.hid hc
  clear hc
  have hK0 := (Kept.refl NoB w).alloc (.cells (madeCells #[Value.slice none 0 0] n) 31)
  have hB0 := heap_alloc_new w (.cells (madeCells #[Value.slice none 0 0] n) 31)
  have HRL : Hid (RowL (w.alloc (.cells (madeCells #[Value.slice none 0 0] n) 31)) w.heap.size w.heap.size n 0 (fun _ => .slice none 0 0)) := Lib.hid ⟨⟨_, hB0, by rw [size_madeCells], fun j hj => by
    unfold madeCells
    simp [Array.getElem?_map, Array.getElem?_range, hj, Nat.mod_one]⟩, fun j hj => IOwn.nil _ _, fun i j b _ _ _ h => by simp [Value.ownBlock] at h⟩
  have HK0 := Lib.hid hK0
  have c0 := HK0.out.cell (p := ⟨c, 0, none⟩) (fun h => h) HC.out
  have c00 := HC.out
  clear hK0 hB0
  go_enter Try.func51, Try.ntmps51
  go_wp2_with fail
  clear c0 c00
  go_loopw [3, 4, 7] (fun _ _ iv wr => ∃ (k : Nat) (us : Nat → Value), iv = .int .i64 k ∧ k ≤ 256 ∧ RowL wr w.heap.size w.heap.size n k us ∧ Kept NoB w wr) (fun _ _ iv _ => 256 - (RowKit.intOf iv).toNat)
  case atStart => exact ⟨0, _, rfl, by omega, HRL.out, HK0.out⟩
  case round =>
    obtain ⟨k, us, rfl, hk, hrl, hkk⟩ := hrel
    have HR := Lib.hid hrl
    have HK := Lib.hid hkk
    have c0 := hkk.cell (p := ⟨c, 0, none⟩) (fun h => h) HC.out
    clear hrl hkk
    by_cases hlt : k < 256
    · have hp0 := chn_ge (k : Int) (n : Int)
      have hp1 := chn_lt (k := (k : Int)) (n := (n : Int)) (by omega)
      obtain ⟨p, hp⟩ := Int.eq_ofNat_of_zero_le hp0
      have HP : Hid (chn (k : Int) (n : Int) = (p : Int)) := Lib.hid hp
      have HCH := Lib.hid (fun w' => Chain_any (k : Int) (n : Int) (by omega) (by omega) w')
      rw [hp] at HCH hp1
      have hpn : p < n := by omega
      have hpp0 : (0 : Int) ≤ (p : Int) := by omega
      obtain ⟨cs, hrow, hcs, hat⟩ := HR.out.row
      have e0 := (cell_of_row _ _ p _ _ _ hrow).trans (hat p hpn)
      have f0 : wr.frozen? ⟨w.heap.size, p, none⟩ = false := by simp [World.frozen?, hrow]
      have hgs := heap_lt hrow
      obtain ⟨ua, uc, hue⟩ := (HR.out.own p hpn).form
      obtain ⟨L, hL⟩ : ∃ L, L = lowL n p k := ⟨_, rfl⟩
      have HLL : Hid (L = lowL n p k) := Lib.hid hL
      have HLN : Hid (L.length ≤ 256) := Lib.hid (by rw [hL]; have := lowL_len n p k; omega)
      rw [← hL] at hue
      have HUE := Lib.hid hue
      rw [hue] at e0
      have HOP : Hid (IOwn w.heap.size wr (.slice ua L.length uc) L) := Lib.hid (by have h := HR.out.own p hpn; rw [hue, ← hL] at h; exact h)
      have hka := (Kept.refl NoB wr).alloc (.cells #[.int .i64 (k : Int)] 3)
      have HO1 := Lib.hid (row_keptI HOP.out hka (fun _ _ h => h))
      have HON := Lib.hid (nsl_one (heap_alloc_new wr (.cells #[.int .i64 (k : Int)] 3)))
      have HSZ : Hid (w.heap.size ≤ (wr.alloc (.cells #[.int .i64 (k : Int)] 3)).heap.size) := Lib.hid (by simp; omega)
      have HZ2 : Hid ((wr.alloc (.cells #[.int .i64 (k : Int)] 3)).heap.size = wr.heap.size + 1) := Lib.hid (by simp)
      have HROW := Lib.hid hrow
      have HCS : Hid (cs.size = n ∧ ∀ j, j < n → cs[j]? = some (us j)) := Lib.hid ⟨hcs, hat⟩
      have hwk : IntKind.u32.wrap (k : Int) = (k : Int) := by rw [IntKind.wrap_u32]; omega
      clear hp hp0 hL hue hka hcs hat hrow
      go_wp2_with (first
        | (go_at_call 21; refine (HCH.out _).mono ?_; rintro e w3 ⟨rfl, rfl⟩)
        | (at_builtin; refine wpList_append_nsl _ rfl (.tmp 19) (.tmp 21) rfl w.heap.size (.slice ua L.length uc) L rfl HO1.out (fun _ => True) (.slice (some ⟨wr.heap.size, 0, none⟩) 1 1) [(k : Int)] rfl HON.out (by have := HLN.out; simp; omega) HSZ.out ?_; intro a1 e1 w3 hown1 hg1 hat1; have hk3 : Kept (fun b => (Value.slice ua L.length uc).ownBlock = some b) wr w3 := ((Kept.refl _ wr).alloc _).grown hg1 (fun b hb => .inl hb); have hne : ¬ (Value.slice ua L.length uc).ownBlock = some w.heap.size := (fun h => own_ne HOP.out HROW.out (by decide) h.symm); have hrow3 := hk3.heap hne HROW.out; have HK3 := Lib.hid hk3; have HOWN1 := Lib.hid hown1; have HAT1 := Lib.hid hat1; have HROW3 := Lib.hid hrow3; have e0 := (cell_of_row _ _ p _ _ _ hrow3).trans (HCS.out.2 p hpn); have f0 : w3.frozen? ⟨w.heap.size, p, none⟩ = false := (by simp [World.frozen?, hrow3]); clear hown1 hg1 hat1 hk3 hrow3)
        | fail)
      have hset : Kept (fun i => i = w.heap.size) w3 (w3.setCell ⟨w.heap.size, p, none⟩ (.slice a1 (L.length + 1) e1)) := (Kept.refl (fun i => i = w.heap.size) w3).setCell (p := ⟨w.heap.size, p, none⟩) (.inl rfl) _
      have hue := HUE.out
      have hnw : ∀ b, (Value.slice a1 (L.length + 1) e1).ownBlock = some b → (us p).ownBlock = some b ∨ b = wr.heap.size + 1 := fun b hb => by
        have hat := HAT1.out
        rw [List.length_singleton] at hat
        rw [hb, HZ2.out] at hat
        rcases hat with h | h
        · left; rw [hue]; exact h.symm
        · injection h with h; exact .inr h
      refine ⟨⟨k + 1, upd25 us p (.slice a1 (L.length + 1) e1), by go_num, by omega, ⟨⟨_, bset1 HROW3.out p _, by rw [Array.size_setIfInBounds]; exact HCS.out.1, fun j hj => ?_⟩, fun j hj => ?_, fun i j b hi hj hij hb hb' => ?_⟩, ?_⟩, by simp [RowKit.intOf]; omega⟩
      · rw [Array.getElem?_setIfInBounds]
        unfold upd25
        by_cases e : p = j
        · subst e
          rw [if_pos rfl, if_pos (by rw [HCS.out.1]; exact hj), if_pos rfl]
        · rw [if_neg e, if_neg (fun h => e h.symm)]
          exact HCS.out.2 j hj
      · unfold upd25
        by_cases e : j = p
        · subst e
          rw [if_pos rfl, lowL_yes HP.out, ← HLL.out]
          have h := HOWN1.out
          exact row_keptI h hset (fun b hb h' => own_ne h HROW3.out (by decide) (h' ▸ hb).symm)
        · rw [if_neg e, lowL_no (fun h => e (by have := HP.out; omega))]
          have h := row_keptI (HR.out.own j hj) HK3.out (fun b hb h' => HR.out.far j p b hj hpn e hb (by rw [hue]; exact h'))
          exact row_keptI h hset (fun b hb h' => own_ne h HROW3.out (by decide) (h' ▸ hb).symm)
      · unfold upd25 at hb hb'
        by_cases e : i = p
        · rw [if_pos e] at hb
          rw [if_neg (by omega)] at hb'
          rcases hnw b hb with h | h
          · exact HR.out.far p j b hpn hj (by omega) h hb'
          · have := (World.ownsRow.lt (HR.out.own j hj) b hb').2
            omega
        · rw [if_neg e] at hb
          by_cases e2 : j = p
          · rw [if_pos e2] at hb'
            rcases hnw b hb' with h | h
            · exact HR.out.far i p b hi hpn e hb h
            · have := (World.ownsRow.lt (HR.out.own i hi) b hb).2
              omega
          · rw [if_neg e2] at hb'
            exact HR.out.far i j b hi hj hij hb hb'
      · have h := HK.out.trans HK3.out (fun i hi h => by have := (World.ownsRow.lt HOP.out i h).1; omega)
        exact h.trans hset (fun i hi h => by have h : i = w.heap.size := h; omega)
    · obtain rfl : k = 256 := by omega
      clear c0 hlt
      go_wp2
      go_ret
      exact ⟨us, rfl, HR.out, HK.out⟩
set_option maxRecDepth 100000 in
set_option maxHeartbeats 2000000 in
/-- The chapter's Low, of a chain that there is. -/
theorem RLow25_any (p n : Nat) (hpn : p < n) (h4 : n ≤ 1000) (w : World) : Calls Try.prog 27 #[.int .i64 p, .int .i64 n] w fun e w' => ∃ v, e = .returned v ∧ IOwn w.heap.size w' v (lowL n p 256) ∧ Kept NoB w w' := by
  have hd0 : decide ((0 : Int) ≤ (p : Int)) = true := decide_eq_true (by omega)
  have hd1 : decide ((p : Int) < (n : Int)) = true := decide_eq_true (by omega)
  go_enter Try.func27, Try.ntmps27
  go_wp2_with fail
  go_loopw [5, 6] (fun ov iv wr => ∃ (k : Nat), iv = .int .i64 k ∧ k ≤ 256 ∧ IOwn w.heap.size wr ov (lowL n p k) ∧ Kept NoB w wr) (fun _ iv _ => 256 - (RowKit.intOf iv).toNat)
  case atStart => exact ⟨0, rfl, by omega, IOwn.nil _ _, Kept.refl _ _⟩
  case round =>
    obtain ⟨k, rfl, hk, hio, hkk⟩ := hrel
    have HK := Lib.hid hkk
    obtain ⟨ua, uc, hue⟩ := hio.form
    obtain ⟨L, hL⟩ : ∃ L, L = lowL n p k := ⟨_, rfl⟩
    rw [← hL] at hue hio
    subst hue
    have HLL : Hid (L = lowL n p k) := Lib.hid hL
    have HLN : Hid (L.length ≤ 256) := Lib.hid (by rw [hL]; have := lowL_len n p k; omega)
    have HOP := Lib.hid hio
    clear hkk hio hL
    by_cases hlt : k < 256
    · have HCH := Lib.hid (fun w' => RChain_any (k : Int) (n : Int) (by omega) (by omega) (by omega) w')
      have hdk : decide ((k : Int) < 256) = true := decide_eq_true (by omega)
      have hwk : IntKind.u32.wrap (k : Int) = (k : Int) := by rw [IntKind.wrap_u32]; omega
      obtain ⟨q, hq⟩ : ∃ q, q = chn (k : Int) (n : Int) := ⟨_, rfl⟩
      have HQ : Hid (q = chn (k : Int) (n : Int)) := Lib.hid hq
      rw [← hq] at HCH
      clear hq
      by_cases he : q = (p : Int)
      · subst he
        have hka := (Kept.refl NoB wr).alloc (.cells #[.int .i64 (k : Int)] 3)
        have HO1 := Lib.hid (row_keptI HOP.out hka (fun _ _ h => h))
        have HON := Lib.hid (nsl_one (heap_alloc_new wr (.cells #[.int .i64 (k : Int)] 3)))
        have HSZ : Hid (w.heap.size ≤ (wr.alloc (.cells #[.int .i64 (k : Int)] 3)).heap.size) := Lib.hid (by have := HK.out.size; simp; omega)
        clear hka
        go_wp2_with (first
          | (go_at_call 14; refine (HCH.out _).mono ?_; rintro e w3 ⟨rfl, rfl⟩)
          | (at_builtin; refine wpList_append_nsl _ rfl (.tmp 26) (.tmp 28) rfl w.heap.size (.slice ua L.length uc) L rfl HO1.out (fun _ => True) (.slice (some ⟨wr.heap.size, 0, none⟩) 1 1) [(k : Int)] rfl HON.out (by have := HLN.out; simp; omega) HSZ.out ?_; intro a1 e1 w3 hown1 hg1 hat1; have hk3 : Kept (fun b => (Value.slice ua L.length uc).ownBlock = some b) wr w3 := ((Kept.refl _ wr).alloc _).grown hg1 (fun b hb => .inl hb); have HK3 := Lib.hid hk3; have HOWN1 := Lib.hid hown1; clear hown1 hg1 hat1 hk3)
          | fail)
        refine ⟨⟨k + 1, by go_num, by omega, ?_, HK.out.trans HK3.out (fun i hi h => by have := (World.ownsRow.lt HOP.out i h).1; omega)⟩, by simp [RowKit.intOf]; omega⟩
        rw [lowL_yes HQ.out.symm, ← HLL.out]
        exact HOWN1.out
      · have hqb : (q == (p : Int)) = false := beq_eq_false_iff_ne.2 he
        go_wp2_with (go_at_call 14; refine (HCH.out _).mono ?_; rintro e w3 ⟨rfl, rfl⟩)
        refine ⟨⟨k + 1, by go_num, by omega, ?_, HK.out⟩, by simp [RowKit.intOf]; omega⟩
        rw [lowL_no (fun h => he (HQ.out.trans h)), ← HLL.out]
        exact HOP.out
    · obtain rfl : k = 256 := by omega
      have hdk : decide ((256 : Int) < 256) = false := by decide
      clear hlt
      rw [HLL.out] at HOP
      go_wp2
      go_ret
      exact ⟨_, rfl, HLL.out ▸ HOP.out, HK.out⟩
set_option maxRecDepth 100000 in
set_option maxHeartbeats 2000000 in
/-- Two lists of numbers that are the same. -/
theorem Same04_any (v u : Value) (l : List Int) (F G : Nat → Prop) (w : World) (hv : NSl w F v l) (hu : NSl w G u l) (hl : l.length ≤ 1000) : Calls Try.prog 26 #[v, u] w (BoolE true w) := by
  obtain ⟨a, ac, rfl, ha1, ha2, _, _⟩ := id hv
  obtain ⟨b, bc, rfl, hb1, hb2, _, _⟩ := id hu
  have HV := Lib.hid hv
  have HU := Lib.hid hu
  obtain ⟨n, hn⟩ : ∃ n, n = l.length := ⟨_, rfl⟩
  have HN : Hid (n = l.length) := Lib.hid hn
  rw [← hn] at ha1 hb1 hl ⊢
  unfold maxLen at ha2 hb2
  have hnn : ((n : Int) != (n : Int)) = false := by simp
  clear hv hu hn
  go_enter Try.func26, Try.ntmps26
  go_wp2_with fail
  go_loopw [5] (fun iv wr => ∃ (k : Nat), iv = .int .i64 k ∧ k ≤ n ∧ Kept NoB w wr) (fun iv _ => n - (RowKit.intOf iv).toNat)
  case atStart => exact ⟨0, rfl, by omega, Kept.refl _ _⟩
  case round =>
    obtain ⟨k, rfl, hk, hkk⟩ := hrel
    have HK := Lib.hid hkk
    clear hkk
    by_cases hlt : k < n
    · obtain ⟨b1, o1, rfl, _, _, e1⟩ := (HV.out.kept HK.out (fun _ _ _ h => h)).at_ (j := k) (by rw [← HN.out]; exact hlt)
      obtain ⟨b2, o2, rfl, _, _, e2⟩ := (HU.out.kept HK.out (fun _ _ _ h => h)).at_ (j := k) (by rw [← HN.out]; exact hlt)
      obtain ⟨x, hx⟩ : ∃ x, x = l.getD k 0 := ⟨_, rfl⟩
      rw [← hx] at e1 e2
      have hk0 : (0 : Int) ≤ (k : Int) := by omega
      have hk1 : (k : Int) < (n : Int) := by omega
      have hxx : (x != x) = false := by simp
      clear hx
      go_wp2_with fail
      go_quiet (fail)
      go_wp2
      exact ⟨⟨k + 1, by go_num, by omega, HK.out.drewN nq⟩, by simp [RowKit.intOf]; omega⟩
    · obtain rfl : k = n := by omega
      go_wp2
      go_ret
      exact ⟨rfl, HK.out⟩
end Go.Proofs.Ytpgchapemclocaa
namespace Go.Proofs.Ytpgchapemclocaa
open Go.RowKit Go.MuLone
set_option linter.unusedVariables false
set_option linter.unusedSimpArgs false

theorem RowL.kept {S : Nat → Prop} {w w' : World} {B r n k : Nat} {us : Nat → Value} (h : RowL w B r n k us) (hk : Kept S w w') (hs : ∀ j, B ≤ j → ¬ S j) (hr : B ≤ r := by omega) : RowL w' B r n k us := by
  obtain ⟨⟨cs, h1, h2, h3⟩, h4, h5⟩ := h
  exact ⟨⟨cs, hk.heap (hs r hr) h1, h2, h3⟩, fun j hj => row_keptI (h4 j hj) hk (fun b hb => hs b (World.ownsRow.lt (h4 j hj) b hb).1), h5⟩
/-- What compute defers, where nothing panics. -/
theorem caught_idle (w : World) :
    CallsD Try.prog 64 #[] .returning w fun e u' w' => e = .returned (.tuple #[]) ∧ u' = .returning ∧ w' = w := by
  refine callsD_of_wpS Try.func64 rfl fun c₀ cs hu => ?_
  apply wpS_region
  simp [wpOpsS, go_sem, recoverD, hu, Try.ntmps64, bodyPostS, results, Try.results64]
  cases c₀
  simp_all
set_option maxRecDepth 100000 in
theorem comp_fn (g c n : Nat) (x : Value) (w : World) (hg : w.heap[g]? = some (.cells #[.int .u32 0, .int .i32 1, .int .u32 0, .int .u32 0, FnK c, x] 83 (0, 0))) (hc : w.cell? ⟨c, 0, none⟩ = some (.int .i64 n)) (hcg : c ≠ g) (h1 : 1 ≤ n) (h4 : n ≤ 1000) :
    Calls Try.prog 54 #[.pointer (some ⟨g, 0, none⟩)] w fun e w' => e = .returned (.tuple #[]) ∧ ∃ us w2, RowL w2 w.heap.size w.heap.size n 256 us ∧ Kept (One g) w w2 ∧ w2.heap[g]? = some (.cells #[.int .u32 0, .int .i32 1, .int .u32 0, .int .u32 1, .nilFunc, x] 83 (0, 0)) ∧ w' = w2.setCell ⟨g, 5, none⟩ (.slice (some ⟨w.heap.size, 0, none⟩) n n) := by
  have e4 : w.cell? ⟨g, 4, none⟩ = some (FnK c) := cell_of_row w g 4 _ _ _ hg
  have e3 : w.cell? ⟨g, 3, none⟩ = some (.int .u32 0) := cell_of_row w g 3 _ _ _ hg
  have z4 : w.frozen? ⟨g, 4, none⟩ = false := blk_frozen0 hg 4
  have z3 : w.frozen? ⟨g, 3, none⟩ = false := blk_frozen0 hg 3
  have c1 : (((w.setCell ⟨g, 4, none⟩ .nilFunc).drew).setCell ⟨g, 3, none⟩ (.int .u32 1)).cell? ⟨c, 0, none⟩ = some (.int .i64 n) := (World.cell?_setCell_other _ ⟨g, 3, none⟩ ⟨c, 0, none⟩ _ (by simp)).trans ((World.cell?_setCell_other w ⟨g, 4, none⟩ ⟨c, 0, none⟩ _ (by simp)).trans hc)
  have HF := Lib.hid (KeysOf1_any c n _ c1 h1 h4)
  have hsz : (((w.setCell ⟨g, 4, none⟩ .nilFunc).drew).setCell ⟨g, 3, none⟩ (.int .u32 1)).heap.size = w.heap.size := by simp [World.setCell, World.drew]
  rw [hsz] at HF
  have HB := Lib.hid (blk_set (w := (w.setCell ⟨g, 4, none⟩ .nilFunc).drew) (blk_set hg 4 .nilFunc) 3 (.int .u32 1))
  have HK := Lib.hid ((((Kept.refl (One g) w).one 4 .nilFunc).drew).one 3 (.int .u32 1))
  have HS := Lib.hid (Store_any ⟨g, 3, none⟩ (.int .u32 0) (w.setCell ⟨g, 4, none⟩ .nilFunc) ((World.cell?_setCell_other _ ⟨g, 4, none⟩ ⟨g, 3, none⟩ _ (by simp)).trans e3) (by go_simp))
  have hne : ∀ w : World, (binOp BinOp.eql 59 (FnK c) .nilFunc).run Try.prog w = .ok (.bool false) w := fun _ => rfl
  have hgl := heap_lt hg
  clear hg c1 hsz hc
  go_enter_defers Try.func54, Try.ntmps54
  go_wp2_with fail
  refine HS.out.mono ?_
  rintro e w1 ⟨rfl, rfl⟩
  go_wp2_with fail
  refine HF.out.mono ?_
  rintro e w2 ⟨us, rfl, hrl, hk2⟩
  have HR := Lib.hid hrl
  have HB2 := Lib.hid (hk2.heap (fun h => h) HB.out)
  have HK2 := Lib.hid (HK.out.trans hk2 (fun _ _ h => h.elim))
  have e5 : w2.cell? ⟨g, 5, none⟩ = some x := cell_of_row w2 g 5 _ _ _ HB2.out
  have z5 : w2.frozen? ⟨g, 5, none⟩ = false := blk_frozen0 HB2.out 5
  clear hrl hk2
  go_wp2
  refine leaves_cons (f := 64) (args := #[]) (by simp) (by simp [go_sem]) ?_
  refine (caught_idle _).mono ?_
  rintro e u' w'' ⟨rfl, rfl, rfl⟩
  simp [Leaves, settle, results, Try.results54]
  exact ⟨us, w2, HR.out, HK2.out, HB2.out, rfl⟩

set_option maxRecDepth 100000 in
set_option maxHeartbeats 1600000 in
/-- doSlow at a lazy value's compute: nothing has been done yet. -/
theorem slow_comp  (g : Nat) (w : World) (Q : World → Prop) (c0 : w.cell? ⟨g, 0, none⟩ = some (.int .u32 0)) (c1 : w.cell? ⟨g, 1, none⟩ = some (.int .i32 0)) (f0 : w.frozen? ⟨g, 0, none⟩ = false) (f1 : w.frozen? ⟨g, 1, none⟩ = false)
    (hf : Calls Try.prog 54 #[.pointer (some ⟨g, 0, none⟩)] (w.setCell ⟨g, 1, none⟩ (.int .i32 1)) fun e w' => e = .returned (.tuple #[]) ∧ w'.cell? ⟨g, 0, none⟩ = some (.int .u32 0) ∧ w'.cell? ⟨g, 1, none⟩ = some (.int .i32 1) ∧ w'.frozen? ⟨g, 0, none⟩ = false ∧ w'.frozen? ⟨g, 1, none⟩ = false ∧ Q w') :
    Calls Try.prog 62 #[.pointer (some ⟨g, 0, none⟩), .func (.func 54) #[.pointer (some ⟨g, 0, none⟩)] #[]] w fun e w' => e = .returned (.tuple #[]) ∧ ∃ w2, Q w2 ∧ w' = ((w2.drew).setCell ⟨g, 0, none⟩ (.int .u32 1)).setCell ⟨g, 1, none⟩ (.int .i32 0) := by
  have hl := run_call_load (P := Try.prog) Try.func65 (by kernel_rfl) (by kernel_rfl) (by kernel_rfl) .u32 (by kernel_rfl) (w := w.setCell ⟨g, 1, none⟩ (.int .i32 1)) (a := ⟨g, 0, none⟩) (x := 0) ((World.cell?_setCell_other _ ⟨g, 1, none⟩ ⟨g, 0, none⟩ _ (by simp)).trans c0)
  have hnot : ∀ (x : Bool) (w : World), (Op.unary .not (.bool x)).run Try.prog w = .ok (.bool (!x)) w := fun _ _ => rfl
  go_enter_defers Try.func62, Try.ntmps62
  go_wp2_with (go_at_call 68; refine (lock_free muLib ⟨g, 1, none⟩ _ (by go_simp) (by go_simp)).mono ?_; rintro e w' ⟨rfl, rfl⟩)
  go_in
  go_wp2_with fail
  refine hf.mono ?_
  rintro e w2 ⟨rfl, d0, d1, g0, g1, hq⟩
  go_wp2
  refine leaves_cons (f := 63) (args := #[.pointer (some ⟨g, 0, none⟩), .bool true]) (by simp) (by simp [go_sem]) ?_
  refine (store_done ⟨g, 0, none⟩ (.int .u32 0) .returning _ d0 g0).mono ?_
  rintro e u' w'' ⟨rfl, rfl, rfl⟩
  refine leaves_cons (f := 69) (args := #[.pointer (some ⟨g, 1, none⟩)]) (by simp [settle]) (by simp [go_sem]) ?_
  refine (unlock_deferred muLib ⟨g, 1, none⟩ _ _ ?_ (by simp [g1])).mono ?_
  · refine (World.cell?_setCell_other _ ⟨g, 0, none⟩ ⟨g, 1, none⟩ _ (by simp)).trans ?_
    rw [World.cell?_drew]
    exact d1
  rintro e u' w'' ⟨rfl, rfl, rfl⟩
  simp [Leaves, settle, results, Try.results62]
  exact ⟨w2, hq, rfl⟩
/-- Do at a lazy value's compute, nothing done yet. -/
theorem do_comp  (g : Nat) (w : World) (Q : World → Prop) (c0 : w.cell? ⟨g, 0, none⟩ = some (.int .u32 0)) (c1 : w.cell? ⟨g, 1, none⟩ = some (.int .i32 0)) (f0 : w.frozen? ⟨g, 0, none⟩ = false) (f1 : w.frozen? ⟨g, 1, none⟩ = false)
    (hf : Calls Try.prog 54 #[.pointer (some ⟨g, 0, none⟩)] (w.setCell ⟨g, 1, none⟩ (.int .i32 1)) fun e w' => e = .returned (.tuple #[]) ∧ w'.cell? ⟨g, 0, none⟩ = some (.int .u32 0) ∧ w'.cell? ⟨g, 1, none⟩ = some (.int .i32 1) ∧ w'.frozen? ⟨g, 0, none⟩ = false ∧ w'.frozen? ⟨g, 1, none⟩ = false ∧ Q w') :
    Calls Try.prog 53 #[.pointer (some ⟨g, 0, none⟩), .func (.func 54) #[.pointer (some ⟨g, 0, none⟩)] #[]] w fun e w' => e = .returned (.tuple #[]) ∧ ∃ w2, Q w2 ∧ w' = ((w2.drew).setCell ⟨g, 0, none⟩ (.int .u32 1)).setCell ⟨g, 1, none⟩ (.int .i32 0) := by
  have HS := Lib.hid (slow_comp g w Q c0 c1 f0 f1 hf)
  have HL := Lib.hid (Load_any ⟨g, 0, none⟩ false w c0)
  clear hf c1 f0 f1 c0
  go_enter Try.func53, Try.ntmps53
  go_wp2_with fail
  refine HL.out.mono ?_
  rintro e w1 ⟨rfl, rfl⟩
  go_wp2_with fail
  refine HS.out.mono ?_
  rintro e w' ⟨rfl, w2, hq, rfl⟩
  have HQ := Lib.hid hq
  clear hq
  go_wp2
  go_end0
  exact ⟨rfl, w2, HQ.out, rfl⟩

set_option maxRecDepth 100000 in
/-- Get of a value that is done. -/
theorem GetL_done (g : Nat) (how v : Value) (w : World) (h : Lz25 w g true how v) :
    Calls Try.prog 43 #[.pointer (some ⟨g, 0, none⟩)] w fun e w' => e = .returned v ∧ w = w' := by
  have c5 : w.cell? ⟨g, 5, none⟩ = some v := cell_of_row w g 5 _ _ _ h
  have HD := Lib.hid (cell_of_row w g 0 _ _ _ h)
  have hmf : ∀ (fn : Fn) (first cap : Array Value) (w : World), (Instr.makeFunc fn first cap).run Try.prog w = .ok (.func fn first cap) w := fun _ _ _ _ => rfl
  clear h
  go_enter Try.func43, Try.ntmps43
  go_wp2_with fail
  refine (do_done g _ _ HD.out).mono ?_
  rintro e w' ⟨rfl, rfl⟩
  go_wp2
  go_ret
  exact ⟨rfl, rfl⟩
set_option maxRecDepth 100000 in
/-- Get for the first time. -/
theorem GetL_fn (B g n : Nat) (w : World) (h : LzNew w B g n) (h1 : 1 ≤ n) (h4 : n ≤ 1000) :
    Calls Try.prog 43 #[.pointer (some ⟨g, 0, none⟩)] w fun e w' => ∃ us, e = .returned (.slice (some ⟨w.heap.size, 0, none⟩) n n) ∧ RowL w' w.heap.size w.heap.size n 256 us ∧ Lz25 w' g true .nilFunc (.slice (some ⟨w.heap.size, 0, none⟩) n n) ∧ Kept (One g) w w' := by
  obtain ⟨c, _, hcg, hc, h⟩ := h
  unfold Lz25 at h
  simp only [if_false, Bool.false_eq_true] at h
  have hmf : ∀ (fn : Fn) (first cap : Array Value) (w : World), (Instr.makeFunc fn first cap).run Try.prog w = .ok (.func fn first cap) w := fun _ _ _ _ => rfl
  have hgl := heap_lt h
  have hl := blk_set h 1 (.int .i32 1)
  have hc1 : (w.setCell ⟨g, 1, none⟩ (.int .i32 1)).cell? ⟨c, 0, none⟩ = some (.int .i64 n) := (World.cell?_setCell_other w ⟨g, 1, none⟩ ⟨c, 0, none⟩ _ (by simp)).trans (cell_of_row _ _ 0 _ _ _ hc)
  have hsz : (w.setCell ⟨g, 1, none⟩ (.int .i32 1)).heap.size = w.heap.size := by simp [World.setCell]
  have HD := Lib.hid (do_comp g w (fun w2 => ∃ us, RowL w2 w.heap.size w.heap.size n 256 us ∧ w2.heap[g]? = some (.cells #[.int .u32 0, .int .i32 1, .int .u32 0, .int .u32 1, .nilFunc, .slice (some ⟨w.heap.size, 0, none⟩) n n] 83 (0, 0)) ∧ Kept (One g) w w2) (cell_of_row w g 0 _ _ _ h) (cell_of_row w g 1 _ _ _ h) (blk_frozen0 h 0) (blk_frozen0 h 1)
    ((comp_fn g c n _ _ hl hc1 hcg h1 h4).mono (by
      rintro e w' ⟨rfl, us, w2, hr, hk, hb, rfl⟩
      rw [hsz] at hr ⊢
      have hb2 := blk_set hb 5 (.slice (some ⟨w.heap.size, 0, none⟩) n n)
      have hk2 := ((Kept.refl (One g) w).one 1 (.int .i32 1)).trans hk (fun _ _ h => h)
      have hset : Kept (One g) w2 (w2.setCell ⟨g, 5, none⟩ (.slice (some ⟨w.heap.size, 0, none⟩) n n)) := (Kept.refl (One g) w2).one 5 _
      refine ⟨rfl, cell_of_row _ _ 0 _ _ _ hb2, cell_of_row _ _ 1 _ _ _ hb2, blk_frozen0 hb2 0, blk_frozen0 hb2 1, us, hr.kept hset (fun k hk h => by have h : k = g := h; omega), hb2, hk2.trans hset (fun _ _ h => h)⟩)))
  clear h hl hc1 hc hsz
  go_enter Try.func43, Try.ntmps43
  go_wp2_with fail
  refine HD.out.mono ?_
  rintro e w' ⟨rfl, w2, ⟨us, hr, hl, hk⟩, rfl⟩
  have hl3 := blk_set (blk_set (w := w2.drew) hl 0 (.int .u32 1)) 1 (.int .i32 0)
  have hkk := ((((Kept.refl (One g) w2).drew).one 0 (.int .u32 1)).one 1 (.int .i32 0))
  have hk3 := hk.trans hkk (fun _ _ h => h)
  have hr3 := hr.kept hkk (fun k hk h => by have h : k = g := h; omega)
  obtain ⟨W, hW⟩ : ∃ W, W = ((w2.drew).setCell ⟨g, 0, none⟩ (.int .u32 1)).setCell ⟨g, 1, none⟩ (.int .i32 0) := ⟨_, rfl⟩
  rw [← hW] at hl3 hk3 hr3 ⊢
  have c5 : W.cell? ⟨g, 5, none⟩ = some (.slice (some ⟨w.heap.size, 0, none⟩) n n) := cell_of_row _ g 5 _ _ _ hl3
  have HL := Lib.hid hl3
  have HK := Lib.hid hk3
  have HR := Lib.hid hr3
  clear hW hl3 hk3 hr3 hl hk hr hkk
  go_wp2
  go_ret
  exact ⟨us, rfl, HR.out, HL.out, HK.out⟩
/-- What Low reads: slice j of the row r. -/
def LowR (w : World) (r n T : Nat) : Prop := ∃ us : Nat → Value, r < T ∧ ∀ j, j < n → w.cell? ⟨r, j, none⟩ = some (us j) ∧ NSl w (fun k => k < T) (us j) (lowL n j 256)
theorem LowR.kept {S : Nat → Prop} {w w' : World} {r n T : Nat} (h : LowR w r n T) (hk : Kept S w w') (hs : ∀ k, k < T → ¬ S k) : LowR w' r n T := by
  obtain ⟨us, h1, h2⟩ := h
  exact ⟨us, h1, fun j hj => ⟨hk.cell (p := ⟨r, j, none⟩) (hs r h1) (h2 j hj).1, (h2 j hj).2.kept hk (fun k _ h => hs k h)⟩⟩
theorem RowL.low {w : World} {B r n : Nat} {us : Nat → Value} (h : RowL w B r n 256 us) : LowR w r n w.heap.size := by
  obtain ⟨cs, h1, h2, h3⟩ := h.row
  exact ⟨us, heap_lt h1, fun j hj => ⟨(cell_of_row _ _ _ _ _ _ h1).trans (h3 j hj), (h.own j hj).nsl (fun k hk => (World.ownsRow.lt (h.own j hj) k hk).2)⟩⟩
set_option maxRecDepth 100000 in
/-- Low of a chain that there is, where the keys are known. -/
theorem Low25_done (w : World) (B g r z : Nat) (l : List Cf) (h : AtAt w B g r z l) (p : Nat) (hp : p < l.length) (rr T : Nat) (hz : Lz25 w z true .nilFunc (.slice (some ⟨rr, 0, none⟩) l.length l.length)) (hr : LowR w rr l.length T) :
    Calls Try.prog 24 #[.pointer (some ⟨g, 0, none⟩), .int .i64 p] w fun e w' => ∃ v, e = .returned v ∧ IOwn w.heap.size w' v (lowL l.length p 256) ∧ Kept NoB w w' := by
  have HH := Lib.hid (Has25_any w B g r z l h p)
  rw [decide_eq_true (by omega)] at HH
  obtain ⟨cap, h1, _⟩ := h.cfs
  have c1 := cell_of_row _ _ 1 _ _ _ h1
  have HG := Lib.hid (GetL_done z _ _ w hz)
  obtain ⟨us, hrt, hus⟩ := hr
  obtain ⟨e0, hn⟩ := hus p hp
  have HC := Lib.hid (CloneN_any _ _ _ w hn (by have := lowL_len l.length p 256; omega))
  obtain ⟨ua, uc, hu, _⟩ := id hn
  rw [hu] at e0 HC
  obtain ⟨L, hL⟩ : ∃ L, L = lowL l.length p 256 := ⟨_, rfl⟩
  rw [← hL] at e0 HC ⊢
  obtain ⟨n, hnn⟩ : ∃ n, n = l.length := ⟨_, rfl⟩
  rw [← hnn] at HG hp
  have hp0 : (0 : Int) ≤ (p : Int) := by omega
  have hp1 : (p : Int) < (n : Int) := by omega
  clear h h1 hz hus hn hu hL hnn
  go_enter Try.func24, Try.ntmps24
  go_wp2_with fail
  refine HH.out.mono ?_
  rintro e w1 ⟨rfl, rfl⟩
  go_wp2_with fail
  refine HG.out.mono ?_
  rintro e w1 ⟨rfl, rfl⟩
  go_wp2_with fail
  refine HC.out.mono ?_
  rintro e w1 ⟨v, rfl, ho, hk⟩
  have HO := Lib.hid ho
  have HK := Lib.hid hk
  obtain ⟨va, vc, rfl⟩ := ho.form
  clear hk
  go_wp2
  go_ret
  exact ⟨_, rfl, HO.out, HK.out⟩
set_option maxRecDepth 100000 in
/-- Low for the first time. -/
theorem Low25_first (w : World) (B g r z : Nat) (l : List Cf) (h : AtAt w B g r z l) (p : Nat) (hp : p < l.length) (hl : l.length ≤ 1000) (hz : LzNew w B z l.length) (hBw : B ≤ w.heap.size) :
    Calls Try.prog 24 #[.pointer (some ⟨g, 0, none⟩), .int .i64 p] w fun e w' => ∃ v T, e = .returned v ∧ w.heap.size ≤ T ∧ IOwn T w' v (lowL l.length p 256) ∧ Lz25 w' z true .nilFunc (.slice (some ⟨w.heap.size, 0, none⟩) l.length l.length) ∧ LowR w' w.heap.size l.length T ∧ Kept (One z) w w' := by
  have HH := Lib.hid (Has25_any w B g r z l h p)
  rw [decide_eq_true (by omega)] at HH
  obtain ⟨cap, h1, _⟩ := h.cfs
  have c1 := cell_of_row _ _ 1 _ _ _ h1
  have HG := Lib.hid (GetL_fn B z l.length w hz (by omega) hl)
  have HPP : Hid (p < l.length) := Lib.hid hp
  obtain ⟨n, hnn⟩ : ∃ n, n = l.length := ⟨_, rfl⟩
  rw [← hnn] at HG hp HPP ⊢
  obtain ⟨L, hL⟩ : ∃ L, L = lowL n p 256 := ⟨_, rfl⟩
  have HLL : Hid (L = lowL n p 256) := Lib.hid hL
  rw [← hL]
  have hp0 : (0 : Int) ≤ (p : Int) := by omega
  have hp1 : (p : Int) < (n : Int) := by omega
  clear h h1 hz hnn hl hL
  go_enter Try.func24, Try.ntmps24
  go_wp2_with fail
  refine HH.out.mono ?_
  rintro e w1 ⟨rfl, rfl⟩
  go_wp2_with fail
  refine HG.out.mono ?_
  rintro e w1 ⟨us, rfl, hr, hlz, hk⟩
  have HK := Lib.hid hk
  have HZ := Lib.hid hlz
  have HLW := Lib.hid hr.low
  obtain ⟨cs, g1, g2, g3⟩ := hr.row
  have e0 := (cell_of_row _ _ p _ _ _ g1).trans (g3 p HPP.out)
  have hn := (hr.own p HPP.out).nslB
  have HC := Lib.hid (CloneN_any _ _ _ w1 hn (by have := lowL_len n p 256; omega))
  obtain ⟨ua, uc, hu, _⟩ := id hn
  rw [hu] at e0 HC
  rw [← HLL.out] at e0 HC
  clear hr hlz hk g1 g3 hn hu
  go_wp2_with fail
  refine HC.out.mono ?_
  rintro e w2 ⟨v, rfl, ho, hk⟩
  have HO := Lib.hid ho
  have HK2 := Lib.hid hk
  obtain ⟨va, vc, rfl⟩ := ho.form
  clear hk
  go_wp2
  go_ret
  exact ⟨_, w1.heap.size, rfl, HK.out.size, HO.out, HK2.out.heap (fun h => h) HZ.out, HLW.out.kept HK2.out (fun _ _ h => h), HK.out.trans HK2.out (fun _ _ h => h.elim)⟩
end Go.Proofs.Ytpgchapemclocaa
namespace Go.Proofs.Ytpgchapemclocaa
open Go.RowKit
set_option linter.unusedVariables false
set_option linter.unusedSimpArgs false

theorem lrn_ep (l : List Cf) (c : Cf) (j : Nat) : (nthC l j).ep ≤ (nthC (lrnL l c) j).ep := by
  unfold lrnL
  split
  · rename_i h
    unfold lrnB at h
    simp only [Bool.and_eq_true, decide_eq_true_eq] at h
    rw [nthC_set (by omega)]
    split
    · rename_i e
      have h2 := h.2
      unfold newB at h2
      simp only [Bool.and_eq_true, decide_eq_true_eq] at h2
      rw [e]
      omega
    · exact Int.le_refl _
  · exact Int.le_refl _
theorem CopyEnd.cfs25 {l : List Cf} {w : World} {e : Ending} {w' : World} (h : CopyEnd l w e w') : ∃ v, e = .returned v ∧ CfsAt w' (fun k => w.heap.size ≤ k) v l ∧ Kept NoB w w' := by
  obtain ⟨hk, ⟨rfl, a, c, rfl, hc, hn⟩ | ⟨r, cap, us, rfl, hr, hrow, hown⟩⟩ := h
  · exact ⟨_, rfl, ⟨a, c, rfl, Nat.zero_le _, hc, hn, fun h => absurd h (by simp)⟩, hk⟩
  · exact ⟨_, rfl, hrow.cfs hown.nodes hr, hk⟩
theorem fld25_ep (a b c d : Value) (e : Int) (w : World) : (Instr.field 33 (.agg #[a, .int .u64 e, b, c, d]) 1).run Try.prog w = .ok (.int .u64 e) w := by kernel_rfl
set_option maxRecDepth 100000 in
set_option maxHeartbeats 4000000 in
theorem AtlasLearns_any (x y : Value) (l m : List Cf) (k : Int) (hk0 : 0 ≤ k) (hk1 : k ≤ 4294967295) (w : World) (hx : CfsR w AnyC x l) (hy : CfsR w AnyC y m) :
    Calls Try.prog 3 #[x, y, .int .u32 k] w (BoolE true w) := by
  have HAW := Lib.hid (fun w' => awake25_any w')
  have HX := Lib.hid hx
  have HY := Lib.hid hy
  obtain ⟨xa, xc, rfl, hx1, hx2, _⟩ := hx
  obtain ⟨ya, yc, rfl, hy1, hy2, _⟩ := hy
  unfold maxLen at hx2 hy2
  obtain ⟨n, hn⟩ : ∃ n, n = l.length := ⟨_, rfl⟩
  obtain ⟨q, hq⟩ : ∃ q, q = m.length := ⟨_, rfl⟩
  have HN := Lib.hid hn
  have HQ := Lib.hid hq
  rw [← hn] at hx1 HX ⊢
  rw [← hq] at hy1 HY ⊢
  clear hn hq
  by_cases hbig : 6 < n ∨ 40 < q
  · go_enter Try.func3, Try.ntmps3
    by_cases h6 : 6 < n
    · have hd : decide (6 < (n : Int)) = true := decide_eq_true (by omega)
      clear hbig
      go_wp2_with fail
      refine (HAW.out _).mono ?_
      rintro e w1 ⟨rfl, hk⟩
      have HK := Lib.hid hk
      clear hk
      go_wp2
      go_ret
      exact ⟨rfl, HK.out⟩
    · have hd : decide (6 < (n : Int)) = false := decide_eq_false (by omega)
      have hd2 : decide (40 < (q : Int)) = true := decide_eq_true (by omega)
      clear hbig
      go_wp2_with fail
      refine (HAW.out _).mono ?_
      rintro e w1 ⟨rfl, hk⟩
      have HK := Lib.hid hk
      clear hk
      go_wp2
      go_ret
      exact ⟨rfl, HK.out⟩
  · have hd : decide (6 < (n : Int)) = false := decide_eq_false (by omega)
    have hd2 : decide (40 < (q : Int)) = false := decide_eq_false (by omega)
    have hn6 : n ≤ 6 := by omega
    have hq40 : q ≤ 40 := by omega
    clear hbig
    have HNW := Lib.hid (New25_any _ l AnyC w (HN.out ▸ HX.out) (by rw [← HN.out]; omega))
    have HRA := Lib.hid (fun w' (hk : Kept NoB w w') => RAll25_any _ l AnyC w' ((HN.out ▸ HX.out : CfsR w AnyC (.slice xa l.length xc) l).kept hk (fun _ _ _ h => h)) (by rw [← HN.out]; omega))
    rw [← HN.out] at HNW HRA
    cases hb : allB l with
    | false =>
      rw [hb] at HNW HRA
      clear hb
      go_enter Try.func3, Try.ntmps3
      go_wp2_with fail
      refine HNW.out.mono ?_
      rintro e w1 ⟨hk, h⟩
      obtain rfl : e = .returned (.tuple #[.pointer none, .int .i64 1]) := by
        rcases h with ⟨_, h⟩ | ⟨h, _⟩
        · exact h
        · cases h
      have HK := Lib.hid hk
      clear hk h
      go_wp2_with fail
      refine (HRA.out _ HK.out).mono ?_
      rintro e w2 ⟨rfl, hk⟩
      have HK2 := Lib.hid (HK.out.trans hk (fun _ _ h => h))
      clear hk
      go_wp2_with fail
      refine (HAW.out _).mono ?_
      rintro e w3 ⟨rfl, hk⟩
      have HK3 := Lib.hid (HK2.out.trans hk (fun _ _ h => h))
      clear hk
      go_wp2
      go_ret
      exact ⟨rfl, HK3.out⟩
    | true =>
      rw [hb] at HNW HRA
      have HCS := Lib.hid ((HN.out ▸ HX.out : CfsR w AnyC (.slice xa l.length xc) l).small hb)
      rw [← HN.out] at HCS
      have hl1 : 1 ≤ n := by have := (of_decide_eq_true hb : AllC l).1; rw [HN.out]; exact this
      clear hb
      go_enter Try.func3, Try.ntmps3
      go_wp2_with fail
      refine HNW.out.mono ?_
      rintro e w1 ⟨hk, ⟨h, _⟩ | ⟨_, g, r, z, rfl, hat, _⟩⟩
      · cases h
      have HK := Lib.hid hk
      have HA := Lib.hid hat
      clear hk hat
      go_wp2_with fail
      refine (HRA.out _ HK.out).mono ?_
      rintro e w2 ⟨rfl, hk⟩
      have HK2 := Lib.hid (HK.out.trans hk (fun _ _ h => h))
      have HA2 := Lib.hid (HA.out.no hk)
      clear hk
      have hbr := HA.out.br
      have HC2 := Lib.hid ((HCS.out.mono (G := fun b => b ≠ r) (fun b hb _ => by omega)).kept HK2.out (fun _ _ _ h => h))
      go_wp2_with fail
      go_loopw [9, 10, 11, 12, 13] (fun rv iv _ _ _ wr => ∃ (i : Nat) (L : List Cf), iv = .int .i64 i ∧ i ≤ q ∧ L.length = n ∧ CfsAt wr (fun b => b ≠ r) rv L ∧ AtAt wr w.heap.size g r z L ∧ Kept NoB w wr) (fun _ iv _ _ _ _ => q - (intOf iv).toNat)
      case atStart => exact ⟨0, l, rfl, Nat.zero_le _, HN.out.symm, HC2.out, HA2.out, HK2.out⟩
      case round =>
        obtain ⟨i, L, rfl, hi, hL, hcl, hat, hkk⟩ := hrel
        have HKW := Lib.hid hkk
        have HAT := Lib.hid hat
        have HLL := Lib.hid hL
        obtain ⟨ra, rcp, rfl, hrc, hrm, _⟩ := id hcl
        have HCL : Hid (CfsAt wr (fun b => b ≠ r) (.slice ra n rcp) L) := Lib.hid (hL ▸ hcl)
        rw [hL] at hrc ⊢
        unfold maxLen at hrm
        have hgr : g ≠ r := fun e => hat.rg e.symm
        have hrl : r < wr.heap.size := by obtain ⟨_, _, _, h, _⟩ := hat.at_; exact h.lt
        have HPL : Hid (1 ≤ L.length) := Lib.hid (by rw [hL]; exact hl1)
        have HPM : Hid (L.length ≤ 1000) := Lib.hid (by rw [hL]; omega)
        clear hkk hat hL hcl HK HA HA2 HC2 HCS HK2
        by_cases hlt : i < q
        · obtain ⟨b, o, rfl, _, hbs, u, e0, e1, e2, e3, e4, hns, hep, htop⟩ := HY.out.at_ (by rw [← HQ.out]; exact hlt)
          obtain ⟨c, hc⟩ : ∃ c, c = nthC m i := ⟨_, rfl⟩
          rw [← hc] at e0 e1 e3 e4 hns hep htop
          have hns := hns.mono (G := fun b => b < w.heap.size) (fun _ h _ => h)
          obtain ⟨ua, uc, rfl, hu1, hu2, _⟩ := id hns
          unfold maxLen at hu2
          obtain ⟨t, ht⟩ : ∃ t, t = c.ns.length := ⟨_, rfl⟩
          rw [← ht] at e2 hu1
          have HT := Lib.hid ht
          have HCV : Hid (∀ w', Kept NoB w w' → c.ns.length ≤ 1000 → CfV w' (fun b => b < w.heap.size) (.agg #[.int .i64 c.ch, .int .u64 c.ep, .slice ua t uc, .bool c.fr, .int .i64 c.jn]) c) := Lib.hid (fun w' hk h => ⟨_, by rw [ht], hns.kept hk (fun _ _ _ h => h), hep, htop, h⟩)
          have HTEN : Hid (∀ w', Kept NoB w w' → w'.cell? ⟨b, o + i * 5, none⟩ = some (.int .i64 c.ch) ∧ w'.cell? ⟨b, o + i * 5 + 1, none⟩ = some (.int .u64 c.ep) ∧ w'.cell? ⟨b, o + i * 5 + 2, none⟩ = some (.slice ua t uc) ∧ w'.cell? ⟨b, o + i * 5 + 3, none⟩ = some (.bool c.fr) ∧ w'.cell? ⟨b, o + i * 5 + 4, none⟩ = some (.int .i64 c.jn)) := Lib.hid (fun w' hk =>
            ⟨hk.cell (p := ⟨b, o + i * 5, none⟩) (fun h => h) e0, hk.cell (p := ⟨b, o + i * 5 + 1, none⟩) (fun h => h) e1, hk.cell (p := ⟨b, o + i * 5 + 2, none⟩) (fun h => h) e2, hk.cell (p := ⟨b, o + i * 5 + 3, none⟩) (fun h => h) e3, hk.cell (p := ⟨b, o + i * 5 + 4, none⟩) (fun h => h) e4⟩)
          have hi1 : (i : Int) < (q : Int) := by omega
          clear hns hep htop ht hc e0 e1 e2 e3 e4 hbs
          obtain ⟨ch, ep, ns, fr, jn⟩ := c
          simp only at HCV HTEN HT
          obtain ⟨e0, e1, e2, e3, e4⟩ := HTEN.out _ HKW.out
          by_cases h30 : 30 < t
          · have hd3 : decide (30 < (t : Int)) = true := decide_eq_true (by omega)
            go_wp2_with fail
            refine (HAW.out _).mono ?_
            rintro e w3 ⟨rfl, hk⟩
            have HK3 := Lib.hid (HKW.out.trans hk (fun _ _ h => h))
            clear hk
            go_wp2
            go_ret
            exact ⟨rfl, HK3.out⟩
          · have hd3 : decide (30 < (t : Int)) = false := decide_eq_false (by omega)
            have HCV2 : Hid (∀ w', Kept NoB w w' → CfV w' (fun b => b < w.heap.size) (.agg #[.int .i64 ch, .int .u64 ep, .slice ua t uc, .bool fr, .int .i64 jn]) ⟨ch, ep, ns, fr, jn⟩) := Lib.hid (fun w' hk => HCV.out w' hk (by rw [← HT.out]; omega))
            have HOF := Lib.hid (Of25_any wr _ g r z L HAT.out HPL.out HPM.out k hk0 hk1)
            obtain ⟨E, hE⟩ : ∃ E, E = (nthC L (plc25 k L)).ep := ⟨_, rfl⟩
            have HE := Lib.hid hE
            clear HCV
            go_wp2_with fail
            refine HOF.out.mono ?_
            rintro e w3 ⟨v3, rfl, hv3, hk3⟩
            obtain ⟨u3, rfl, hn3, _⟩ := hv3
            obtain ⟨ua3, uc3, rfl, _⟩ := hn3
            rw [← hE]
            clear hE
            have HK3 := Lib.hid (HKW.out.trans hk3 (fun _ _ h => h))
            have HA3 := Lib.hid (HAT.out.no hk3)
            have hsz3 := hk3.size
            have HRL := Lib.hid (RLearn25_any w3 (fun b => b ≠ r) (.slice ra n rcp) L (HCL.out.kept hk3 (fun _ _ _ h => h)) HPM.out _ ⟨ch, ep, ns, fr, jn⟩ ((HCV2.out w3 HK3.out).mono (fun k _ hk => by omega)) (fun k hk => by omega))
            obtain ⟨e0, e1, e2, e3, e4⟩ := HTEN.out _ HK3.out
            have hfld := fld25_ep
            clear hk3
            go_wp2_with fail
            refine HRL.out.mono ?_
            rintro e w4 ⟨x4, rfl, hx4, hk4⟩
            have HX4 := Lib.hid hx4
            have HK4 := Lib.hid (HK3.out.trans hk4 (fun _ _ h => h))
            have HA4 := Lib.hid (HA3.out.no hk4)
            obtain ⟨xa4, xc4, rfl, _⟩ := hx4
            rw [lrnL_len, HLL.out] at HX4 ⊢
            obtain ⟨e0, e1, e2, e3, e4⟩ := HTEN.out _ HK4.out
            have HLN := Lib.hid (Learn25_any w4 _ g r z L HA4.out HPM.out _ _ ((HCV2.out w4 HK4.out).mono (fun _ _ _ => trivial)) HK4.out.size)
            obtain ⟨lb, hlb⟩ : ∃ lb, lb = lrnB L ⟨ch, ep, ns, fr, jn⟩ := ⟨_, rfl⟩
            rw [← hlb] at HLN ⊢
            have hsz4 := hk4.size
            have hbb : (lb != lb) = false := by simp
            clear hk4 hlb
            go_wp2_with fail
            refine HLN.out.mono ?_
            rintro e w5 ⟨rfl, hat5, hk5⟩
            have HK5 : Hid (Kept NoB w w5) := Lib.hid (by
              have h := (HK4.out.mono (T := fun b => b = r) (fun _ _ h => h.elim)).trans hk5 (fun _ _ h => h)
              exact ⟨h.os, h.tape, h.output, h.size, fun i hi _ => h.block i hi (fun e => by have e : i = r := e; omega)⟩)
            have HX5 := Lib.hid (HX4.out.kept hk5 (fun _ _ h e => h e))
            have HA5 := Lib.hid hat5
            have HEP : Hid (E ≤ (nthC (lrnL L ⟨ch, ep, ns, fr, jn⟩) (plc25 k (lrnL L ⟨ch, ep, ns, fr, jn⟩))).ep) := Lib.hid (by
              rw [HE.out]
              have h : plc25 k (lrnL L ⟨ch, ep, ns, fr, jn⟩) = plc25 k L := by unfold plc25; rw [lrnL_len]
              rw [h]
              exact lrn_ep _ _ _)
            have HL2 : Hid ((lrnL L ⟨ch, ep, ns, fr, jn⟩).length = n) := Lib.hid ((lrnL_len _ _).trans HLL.out)
            obtain ⟨M, hM⟩ : ∃ M, M = lrnL L ⟨ch, ep, ns, fr, jn⟩ := ⟨_, rfl⟩
            rw [← hM] at HX5 HA5 HEP HL2
            have HOF2 := Lib.hid (Of25_any w5 _ g r z M HA5.out (by rw [HL2.out]; exact hl1) (by rw [HL2.out]; omega) k hk0 hk1)
            obtain ⟨E2, hE2⟩ : ∃ E, E = (nthC M (plc25 k M)).ep := ⟨_, rfl⟩
            rw [← hE2] at HEP
            have hlt2 : decide (E2 < E) = false := decide_eq_false (by have := HEP.out; omega)
            clear hat5 hk5 hM
            go_wp2_with fail
            refine HOF2.out.mono ?_
            rintro e w6 ⟨v6, rfl, hv6, hk6⟩
            obtain ⟨u6, rfl, hn6, _⟩ := hv6
            obtain ⟨ua6, uc6, rfl, _⟩ := hn6
            rw [← hE2]
            have HK6 := Lib.hid (HK5.out.trans hk6 (fun _ _ h => h))
            have HA6 := Lib.hid (HA5.out.no hk6)
            have HX6 := Lib.hid (HX5.out.kept hk6 (fun _ _ _ h => h))
            have HCF := Lib.hid (Confs25_any w6 _ g r z M HA6.out (by rw [HL2.out]; omega))
            clear hk6 hE2
            go_wp2_with fail
            refine HCF.out.mono ?_
            rintro e w7 h7
            obtain ⟨v7, rfl, hv7, hk7⟩ := h7.cfs25
            have HSA := Lib.hid (SameAll_any v7 (.slice xa4 n xc4) M M _ _ w7 hv7 (HX6.out.kept hk7 (fun _ _ _ h => h)))
            rw [decide_eq_true rfl] at HSA
            have HK7 := Lib.hid (HK6.out.trans hk7 (fun _ _ h => h))
            have HA7 := Lib.hid (HA6.out.no hk7)
            have HX7 := Lib.hid (HX6.out.kept hk7 (fun _ _ _ h => h))
            obtain ⟨va7, vc7, rfl, _⟩ := hv7
            clear hk7 h7
            go_wp2_with fail
            refine HSA.out.mono ?_
            rintro e w8 ⟨rfl, hk8⟩
            have HK8 := Lib.hid (HK7.out.trans hk8 (fun _ _ h => h))
            have HA8 := Lib.hid (HA7.out.no hk8)
            have HX8 := Lib.hid (HX7.out.kept hk8 (fun _ _ _ h => h))
            clear hk8
            go_wp2
            exact ⟨⟨i + 1, M, by go_num, by omega, HL2.out, HX8.out, HA8.out, HK8.out⟩, by simp [intOf]; omega⟩
        · obtain rfl : i = q := by omega
          clear hi hlt
          have hpl := plc25_lt (k := k) HPL.out
          have hpe := plc25_eq k L
          rw [HLL.out] at hpe
          obtain ⟨p, hp⟩ : ∃ p, p = plc25 k L := ⟨_, rfl⟩
          rw [← hp] at hpl hpe
          have HRC := Lib.hid (fun w' => RChain_any k n hk0 hk1 (by omega) w')
          rw [hpe] at HRC
          obtain ⟨b, o, rfl, hbr2, hbs, u, e0, e1, e2, e3, e4, hns, hep, htop, hnl⟩ := HCL.out.at_ hpl
          obtain ⟨y, hy⟩ : ∃ y, y = nthC L p := ⟨_, rfl⟩
          rw [← hy] at e0 e1 e3 e4 hns hep htop hnl
          obtain ⟨ua, uc, rfl, hu1, hu2, _⟩ := id hns
          have HOF := Lib.hid (fun w' (hk : Kept NoB wr w') => Of25_any w' _ g r z L (HAT.out.no hk) HPL.out HPM.out k hk0 hk1)
          have HHD := Lib.hid (fun w' (hk : Kept NoB wr w') => Head25_any w' _ g r z L (HAT.out.no hk) HPL.out HPM.out k hk0 hk1)
          have HRD := Lib.hid (fun w' (hk : Kept NoB wr w') => Reader25_any w' _ g r z L (HAT.out.no hk) HPL.out HPM.out k k hk0 hk1 (by omega))
          have HCN := Lib.hid (fun w' (hk : Kept NoB wr w') => Chains25_any w' _ g r z L (HAT.out.no hk))
          rw [← hp, ← hy] at HOF HHD HRD
          rw [HLL.out] at HCN hpl
          have HYV : Hid (∀ w', Kept NoB wr w' → CfV w' (fun b => b ≠ r) (.agg #[.int .i64 y.ch, .int .u64 y.ep, .slice ua y.ns.length uc, .bool y.fr, .int .i64 y.jn]) y) := Lib.hid (fun w' hk => ⟨_, rfl, hns.kept hk (fun _ _ _ h => h), hep, htop, hnl⟩)
          have HSM := Lib.hid (fun w' v (hk : Kept NoB wr w') (hv : CfV w' (fun _ => True) v y) => RSame_any v _ y y _ _ w' hv (HYV.out w' hk))
          rw [show sameC y y = true from decide_eq_true rfl] at HSM
          have HRH := Lib.hid (fun w' (hk : Kept NoB wr w') => RHead19 _ y _ w' (HYV.out w' hk).r25)
          have HRR := Lib.hid (fun w' (hk : Kept NoB wr w') => RReader19 _ y k (by omega) _ w' (HYV.out w' hk).r25)
          obtain ⟨h1, hh1⟩ : ∃ h1, h1 = headN y := ⟨_, rfl⟩
          obtain ⟨h2, hh2⟩ : ∃ h2, h2 = readN y k := ⟨_, rfl⟩
          rw [← hh1] at HHD HRH
          rw [← hh2] at HRD HRR
          have hq1 : (h1 == h1) = true := by simp
          have hq2 : (h2 == h2) = true := by simp
          have hq3 : ((n : Int) == (n : Int)) = true := by simp
          have hwk : IntKind.i64.wrap k = k := IntWalk.i64_in _ (by omega)
          obtain ⟨ych, yep, yns, yfr, yjn⟩ := y
          simp only at e0 e1 e2 e3 e4 HSM HRH HRR HOF
          have hpl1 : (p : Int) < (n : Int) := by omega
          have hpl0 : (0 : Int) ≤ (p : Int) := by omega
          have HBL := Lib.hid (heap_alloc_new wr (.cells #[.int .i64 ych, .int .u64 yep, .slice ua yns.length uc, .bool yfr, .int .i64 yjn] 33))
          have HKB := Lib.hid ((Kept.refl NoB wr).alloc (.cells #[.int .i64 ych, .int .u64 yep, .slice ua yns.length uc, .bool yfr, .int .i64 yjn] 33))
          obtain ⟨W, hW⟩ : ∃ W, W = wr.alloc (.cells #[.int .i64 ych, .int .u64 yep, .slice ua yns.length uc, .bool yfr, .int .i64 yjn] 33) := ⟨_, rfl⟩
          rw [← hW] at HBL HKB
          have HWW := Lib.hid hW
          have HTEN : Hid (∀ w', Kept NoB W w' → w'.cell? ⟨wr.heap.size, 0, none⟩ = some (.int .i64 ych) ∧ w'.cell? ⟨wr.heap.size, 1, none⟩ = some (.int .u64 yep) ∧ w'.cell? ⟨wr.heap.size, 2, none⟩ = some (.slice ua yns.length uc) ∧ w'.cell? ⟨wr.heap.size, 3, none⟩ = some (.bool yfr) ∧ w'.cell? ⟨wr.heap.size, 4, none⟩ = some (.int .i64 yjn)) := Lib.hid (fun w' hk => cells5 (hk.heap (fun h => h) HBL.out))
          have HKe := Lib.hid (Kept.refl NoB W).drew
          have HT := Lib.hid (HTEN.out _ HKe.out)
          clear hns hep htop hnl hh1 hh2 hy hp hpe hbs hW
          go_wp2_with (go_at_call 14; refine (HRC.out _).mono ?_; rintro e w3 ⟨rfl, rfl⟩)
          clear e0 e1 e2 e3 e4
          rw [← HWW.out]
          go_region_held3 (fun w' => w'.cell? ⟨wr.heap.size, 0, none⟩ = some (.int .i64 ych) ∧ w'.cell? ⟨wr.heap.size, 1, none⟩ = some (.int .u64 yep) ∧ w'.cell? ⟨wr.heap.size, 2, none⟩ = some (.slice ua yns.length uc) ∧ w'.cell? ⟨wr.heap.size, 3, none⟩ = some (.bool yfr) ∧ w'.cell? ⟨wr.heap.size, 4, none⟩ = some (.int .i64 yjn))
            (with_reducible exact HT.out)
            ((first
              | (go_at_call 9; (with_reducible refine (HOF.out _ (HKB.out.trans HKe.out (fun _ _ h => h))).mono ?_); rintro e w1 ⟨v1, rfl, hv1, hk1⟩; have HV1 := Lib.hid (hv1.mono (G := fun _ => True) (fun _ _ _ => trivial)); obtain ⟨u1, rfl, hn1, _⟩ := hv1; obtain ⟨ua1, uc1, rfl, _⟩ := hn1; replace HKe := Lib.hid (HKe.out.trans hk1 (fun _ _ h => h)); replace HT := Lib.hid (HTEN.out _ HKe.out); clear hk1)
              | (go_at_call 15; (with_reducible refine (HSM.out _ _ (HKB.out.trans HKe.out (fun _ _ h => h)) (by first | exact HV1.out | exact HV1.out.kept ((Kept.refl NoB _).drew) (fun _ _ _ h => h))).mono ?_); rintro e w1 ⟨rfl, hk1⟩; replace HKe := Lib.hid (HKe.out.trans hk1 (fun _ _ h => h)); replace HT := Lib.hid (HTEN.out _ HKe.out); clear hk1)
              | (go_at_call 16; (with_reducible refine (HHD.out _ (HKB.out.trans HKe.out (fun _ _ h => h))).mono ?_); rintro e w1 ⟨rfl, hk1⟩; replace HKe := Lib.hid (HKe.out.trans hk1 (fun _ _ h => h)); replace HT := Lib.hid (HTEN.out _ HKe.out); clear hk1)
              | (go_at_call 17; (with_reducible refine (HRH.out _ (HKB.out.trans HKe.out (fun _ _ h => h))).mono ?_); rintro e w1 ⟨rfl, hk1⟩; replace HKe := Lib.hid (HKe.out.trans hk1 (fun _ _ h => h)); replace HT := Lib.hid (HTEN.out _ HKe.out); clear hk1)
              | (go_at_call 18; (with_reducible refine (HRD.out _ (HKB.out.trans HKe.out (fun _ _ h => h))).mono ?_); rintro e w1 ⟨rfl, hk1⟩; replace HKe := Lib.hid (HKe.out.trans hk1 (fun _ _ h => h)); replace HT := Lib.hid (HTEN.out _ HKe.out); clear hk1)
              | (go_at_call 19; (with_reducible refine (HRR.out _ (HKB.out.trans HKe.out (fun _ _ h => h))).mono ?_); rintro e w1 ⟨rfl, hk1⟩; replace HKe := Lib.hid (HKe.out.trans hk1 (fun _ _ h => h)); replace HT := Lib.hid (HTEN.out _ HKe.out); clear hk1)
              | (go_at_call 20; (with_reducible refine (HCN.out _ (HKB.out.trans HKe.out (fun _ _ h => h))).mono ?_); rintro e w1 ⟨rfl, rfl⟩)
              | (go_at_call 6; (with_reducible refine (HAW.out _).mono ?_); rintro e w1 ⟨rfl, hk1⟩; replace HKe := Lib.hid (HKe.out.trans hk1 (fun _ _ h => h)); replace HT := Lib.hid (HTEN.out _ HKe.out); clear hk1)
              | fail))
          go_wp2
          go_ret
          exact ⟨rfl, HKW.out.trans (HKB.out.trans HKe.out (fun _ _ h => h)) (fun _ _ h => h)⟩
end Go.Proofs.Ytpgchapemclocaa
namespace Go.Proofs.Ytpgchapemclocaa
open Go.RowKit
set_option linter.unusedVariables false
set_option linter.unusedSimpArgs false

theorem fld25_ns (a b c d : Value) (u : Value) (w : World) : (Instr.field 33 (.agg #[a, b, u, c, d]) 2).run Try.prog w = .ok u w := by kernel_rfl
theorem beg_ns1000 {chains per : Int} (h : begB chains per = true) : allB (begC chains per) = true ∧ ((begC chains per).length : Int) = chains ∧ 1 ≤ (begC chains per).length ∧ (begC chains per).length ≤ 4 := by
  have hb : 1 ≤ chains ∧ chains ≤ 4 ∧ 1 ≤ per ∧ per ≤ 5 := of_decide_eq_true h
  have ha : AllC (begC chains per) := by
    unfold begC
    rw [h]
    exact begL_all (by omega) (by omega) (by omega) (by omega)
  have hl : (begC chains per).length = chains.toNat := by unfold begC; rw [h]; exact begL_len _ _
  exact ⟨decide_eq_true ha, by omega, by omega, by omega⟩
theorem kept_far25 {S : Nat → Prop} {a b c : World} (h : Kept NoB a b) (k : Kept S b c) (hs : ∀ i, S i → a.heap.size ≤ i) : Kept NoB a c := h.trans k (fun i hi h => by have := hs i h; omega)
set_option maxRecDepth 100000 in
set_option maxHeartbeats 4000000 in
theorem AtlasOwn_any (chains per k : Int) (hk0 : 0 ≤ k) (hk1 : k ≤ 4294967295) (w : World) : Calls Try.prog 5 #[.int .i64 chains, .int .i64 per, .int .u32 k] w (BoolE true w) := by
  have HAW := Lib.hid (fun w' => awake25_any w')
  cases hbg : begB chains per with
  | false =>
    have HB := Lib.hid (RBegin_any chains per w)
    have hx : begX chains per = 1 := by unfold begX; rw [hbg]; rfl
    clear hbg
    go_enter Try.func5, Try.ntmps5
    go_wp2_with fail
    refine HB.out.mono ?_
    rintro e w1 ⟨v, rfl, hc, hk⟩
    rw [hx]
    have HK := Lib.hid hk
    obtain ⟨a, c, rfl, _⟩ := hc
    clear hk
    go_wp2_with fail
    refine (HAW.out _).mono ?_
    rintro e w2 ⟨rfl, hk⟩
    have HK2 := Lib.hid (HK.out.trans hk (fun _ _ h => h))
    clear hk
    go_wp2
    go_ret
    exact ⟨rfl, HK2.out⟩
  | true =>
    have HB := Lib.hid (fun w' => RBeginW_any chains per w' hbg)
    have hx : begX chains per = 0 := by unfold begX; rw [hbg]; rfl
    obtain ⟨hall, hlen, hl1, hl4⟩ := beg_ns1000 hbg
    obtain ⟨l, hl⟩ : ∃ l, l = begC chains per := ⟨_, rfl⟩
    have HBB : Hid (∀ w', Calls Try.prog 22 #[.int .i64 chains, .int .i64 per] w' fun e w'' => ∃ a c, e = .returned (.tuple #[.slice a l.length c, .int .i64 0]) ∧ CfsAt w'' (NwW25 w'.heap.size w'') (.slice a l.length c) l ∧ Kept NoB w' w'') := Lib.hid (fun w' => (HB.out w').mono (by
      rintro e w1 ⟨v, rfl, hc, hk⟩
      rw [hx]
      rw [← hl] at hc
      obtain ⟨a, c, rfl, _⟩ := id hc
      exact ⟨a, c, rfl, hc, hk⟩))
    rw [← hl] at hall hlen hl1 hl4
    obtain ⟨n, hn⟩ : ∃ n, n = l.length := ⟨_, rfl⟩
    have HN : Hid (n = l.length) := Lib.hid hn
    have HALL := Lib.hid hall
    rw [← hn] at hlen hl1 hl4 HBB
    subst hlen
    clear hbg hx hl HB hn hall
    have HS0 : Hid (∀ j, j < l.length → (nthC l j).ns.length ≤ 1000) := Lib.hid (fun j hj => all_small HALL.out j hj)
    go_enter Try.func5, Try.ntmps5
    go_wp2_with fail
    refine (HBB.out _).mono ?_
    rintro e w1 ⟨a1, c1, rfl, hc1, hk1⟩
    have HK1 := Lib.hid hk1
    have HC1 := Lib.hid hc1
    clear hk1 hc1
    go_wp2_with fail
    refine (HBB.out _).mono ?_
    rintro e w2 ⟨a2, c2, rfl, hc2, hk2⟩
    have HK2 := Lib.hid hk2
    have HC2 := Lib.hid hc2
    have HNW := Lib.hid (New25_any (.slice a1 n c1) l _ w2 (HC1.out.kept hk2 (fun _ _ _ h => h)).r25 (by rw [← HN.out]; omega))
    rw [HALL.out] at HNW
    clear hk2 hc2
    go_wp2_with fail
    refine HNW.out.mono ?_
    rintro e w3 ⟨hk3, ⟨h, _⟩ | ⟨_, g, r, z, rfl, hat, hlz⟩⟩
    · cases h
    have HK3 := Lib.hid hk3
    have HA3 := Lib.hid hat
    have HZ3 := Lib.hid hlz
    obtain ⟨s1, hs1⟩ : ∃ s, s = w1.heap.size := ⟨_, rfl⟩
    obtain ⟨s2, hs2⟩ : ∃ s, s = w2.heap.size := ⟨_, rfl⟩
    obtain ⟨s3, hs3⟩ : ∃ s, s = w3.heap.size := ⟨_, rfl⟩
    have z01 := HK1.out.size
    have z12 := HK2.out.size
    have z23 := hk3.size
    rw [← hs2] at HA3
    rw [← hs1] at HC2
    have HL3 : Hid (CfsAt w3 (fun b => (w.heap.size ≤ b ∧ b < s1) ∧ Wr25 w3 b) (.slice a1 n c1) l) := Lib.hid ((((HC1.out.mono (G := fun b => (w.heap.size ≤ b ∧ b < s1) ∧ Wr25 w1 b) (fun b hb h => ⟨⟨h.1, by omega⟩, h.2⟩)).kept HK2.out (fun _ _ _ h => h)).kept hk3 (fun _ _ _ h => h)).mono (fun b _ h => ⟨h.1, (h.2.kept HK2.out (fun h => h)).kept hk3 (fun h => h)⟩))
    have HQ3 : Hid (CfsAt w3 (fun b => s1 ≤ b ∧ b < s2) (.slice a2 n c2) l) := Lib.hid ((HC2.out.mono (G := fun b => s1 ≤ b ∧ b < s2) (fun b hb h => ⟨h.1, by omega⟩)).kept hk3 (fun _ _ _ h => h))
    have HKW : Hid (Kept NoB w w3) := Lib.hid ((HK1.out.trans HK2.out (fun _ _ h => h)).trans hk3 (fun _ _ h => h))
    clear hk3 hat hlz
    -- spoil what was handed in
    obtain ⟨b1, o1, rfl, hF1, hb1, u1, _, _, e2, _, _, hn1, _, _, hsm1⟩ := HL3.out.at_ (j := 0) (by rw [← HN.out]; omega)
    have HSP1 := Lib.hid (Spoil25_any w3 _ u1 _ hn1 (fun k h => h.2) hsm1)
    obtain ⟨ua1, uc1, rfl, _⟩ := id hn1
    simp only [Nat.zero_mul, Nat.add_zero] at e2
    clear hn1 hF1 hb1
    go_wp2_with fail
    refine HSP1.out.mono ?_
    rintro e w4 ⟨rfl, hk4⟩
    have HS4 : Hid (Kept (fun b => b < s1 ∨ s3 ≤ b ∨ b = z) w3 w4) := Lib.hid (hk4.mono (fun b _ h => .inl h.1.2))
    have HN4 : Hid (Kept (fun b => b < s1 ∨ s3 ≤ b) w3 w4) := Lib.hid (hk4.mono (fun b _ h => .inl h.1.2))
    have HW4 := Lib.hid (kept_far25 HKW.out hk4 (fun i h => h.1.1))
    have hgl : g < s3 := by obtain ⟨cap, us, h1, _⟩ := HA3.out.at_; rw [hs3]; exact heap_lt h1
    have hrl : r < s3 := by obtain ⟨cap, us, _, h1, _⟩ := HA3.out.at_; rw [hs3]; exact h1.lt
    have hzl : z < s3 := by rw [hs3]; exact HA3.out.zl
    have hgb := HA3.out.bg
    have hrb := HA3.out.br
    have hzb := HA3.out.bz
    have hzg := HA3.out.zg
    have hzr := HA3.out.zr
    have HAT : Hid (∀ w', Kept (fun b => b < s1 ∨ s3 ≤ b ∨ b = z) w3 w' → AtAt w' s2 g r z l) := Lib.hid (fun w' hk => HA3.out.kept hk (by omega) (by omega) (fun k hk hb h1 h2 h3 => by omega))
    have HQT : Hid (∀ w', Kept (fun b => b < s1 ∨ s3 ≤ b ∨ b = z) w3 w' → CfsAt w' (fun b => s1 ≤ b ∧ b < s2) (.slice a2 n c2) l) := Lib.hid (fun w' hk => HQ3.out.kept hk (fun k hk h h' => by omega))
    have HZT : Hid (∀ w', Kept (fun b => b < s1 ∨ s3 ≤ b) w3 w' → LzNew w' s2 z l.length) := Lib.hid (fun w' hk => by
      obtain ⟨c, q1, q2, q3, q4⟩ := HZ3.out
      have := heap_lt q3
      rw [← hs2] at q1
      exact ⟨c, q1, q2, hk.heap (by omega) q3, hk.heap (by omega) q4⟩)
    have HF := Lib.hid fld25_ns
    have hfld := HF.out
    have z34 := hk4.size
    rw [← hs3] at z34
    have HP1 : Hid (1 ≤ l.length) := Lib.hid (by rw [← HN.out]; exact hl1)
    have HP2 : Hid (l.length ≤ 1000) := Lib.hid (by rw [← HN.out]; omega)
    have HO4 := Lib.hid (Of25_any w4 _ g r z l (HAT.out _ HS4.out) HP1.out HP2.out k hk0 hk1)
    have HSM := Lib.hid (plc25_lt (k := k) HP1.out)
    clear hk4 e2
    go_wp2_with fail
    refine HO4.out.mono ?_
    rintro e w5 ⟨v5, rfl, hv5, hk5⟩
    obtain ⟨u5, rfl, hn5, _, _, hsm5⟩ := hv5
    have HSP5 := Lib.hid (Spoil25_any w5 _ u5 _ hn5 (fun k h => h.2.2) hsm5)
    obtain ⟨ua5, uc5, rfl, _⟩ := id hn5
    have HS5 := Lib.hid (HS4.out.trans hk5 (fun _ _ h => h.elim))
    have HW5 := Lib.hid (HW4.out.trans hk5 (fun _ _ h => h))
    have HN5 := Lib.hid (HN4.out.trans hk5 (fun _ _ h => h.elim))
    clear hn5 hk5
    go_wp2_with fail
    refine HSP5.out.mono ?_
    rintro e w6 ⟨rfl, hk6⟩
    have HS6 := Lib.hid (HS5.out.trans hk6 (fun b _ h => .inr (.inl (by omega))))
    have HN6 := Lib.hid (HN5.out.trans hk6 (fun b _ h => .inr (by omega)))
    have HW6 := Lib.hid (kept_far25 HW5.out hk6 (fun b h => by omega))
    have HC6 := Lib.hid (Confs25_any w6 _ g r z l (HAT.out _ HS6.out) HP2.out)
    have z6 : s3 ≤ w6.heap.size := by rw [hs3]; exact HN6.out.size
    clear hk6
    go_wp2_with fail
    refine HC6.out.mono ?_
    rintro e w7 ⟨hk7, ⟨h, _⟩ | ⟨r7, c7, us7, rfl, hr7, hrow7, hown7⟩⟩
    · exact absurd h (fun e => by have := HP1.out; rw [e] at this; simp at this)
    have HS7 := Lib.hid (HS6.out.trans hk7 (fun _ _ h => h.elim))
    have HW7 := Lib.hid (HW6.out.trans hk7 (fun _ _ h => h))
    have HN7 := Lib.hid (HN6.out.trans hk7 (fun _ _ h => h.elim))
    have e2 := (hrow7.cell (m := 0 * 5 + 2) (by have := HP1.out; omega)).1
    rw [cellC2] at e2
    have ho7 := (hown7.1 0 (by have := HP1.out; omega)).1
    have hsm7 := HS0.out 0 (by have := HP1.out; omega)
    have HSP7 := Lib.hid (Spoil25_any w7 (fun b => (us7 0).ownBlock = some b) (us7 0) _ (ho7.nsl (fun k hk => hk)) (fun k h => (own_wr25 ho7 h).2) hsm7)
    have HO7 := Lib.hid (fun b (h : (us7 0).ownBlock = some b) => (World.ownsRow.lt ho7 b h).1)
    obtain ⟨ua7, uc7, hu7⟩ := ho7.form
    rw [hu7] at e2 HSP7 HO7
    simp only [Nat.zero_mul, Nat.zero_add] at e2
    rw [← HN.out]
    have hnn : ((n : Int) != (n : Int)) = false := by simp
    have hn0 : (0 : Int) < (n : Int) := by omega
    clear hrow7 hown7 hk7 ho7 hu7
    go_wp2_with fail
    refine HSP7.out.mono ?_
    rintro e w8 ⟨rfl, hk8⟩
    have HS8 := Lib.hid (HS7.out.trans hk8 (fun b _ h => .inr (.inl (by have := HO7.out b h; omega))))
    have HN8 := Lib.hid (HN7.out.trans hk8 (fun b _ h => .inr (by have := HO7.out b h; omega)))
    have HW8 := Lib.hid (kept_far25 HW7.out hk8 (fun b h => by have := HO7.out b h; omega))
    have z8 : s3 ≤ w8.heap.size := by rw [hs3]; exact HN8.out.size
    have HL8 := Lib.hid (Low25_first w8 _ g r z l (HAT.out _ HS8.out) 0 (by have := HP1.out; omega) HP2.out (HZT.out _ HN8.out) (by omega))
    clear hk8 e2
    go_wp2_with fail
    refine HL8.out.mono ?_
    rintro e w9 ⟨v9, T9, rfl, hT9, ho9, hz9, hlr9, hk9⟩
    have HS9 := Lib.hid (HS8.out.trans hk9 (fun b _ h => .inr (.inr h)))
    have HW9 := Lib.hid (kept_far25 HW8.out hk9 (fun b h => by have h : b = z := h; omega))
    have HZ9 := Lib.hid hz9
    have HLR9 := Lib.hid hlr9
    have HSP9 := Lib.hid (Spoil25_any w9 (fun b => v9.ownBlock = some b) v9 _ (ho9.nsl (fun k hk => hk)) (fun k h => (own_wr25 ho9 h).2) (by have := lowL_len l.length 0 256; omega))
    have HO9 := Lib.hid (fun b (h : v9.ownBlock = some b) => (World.ownsRow.lt ho9 b h).1)
    obtain ⟨ua9, uc9, rfl⟩ := ho9.form
    obtain ⟨q9, hq9⟩ : ∃ q, q = (lowL l.length 0 256).length := ⟨_, rfl⟩
    rw [← hq9] at HSP9 HO9 ⊢
    clear hk9 hz9 hlr9 ho9 hq9
    go_wp2_with fail
    refine HSP9.out.mono ?_
    rintro e w10 ⟨rfl, hk10⟩
    have HS10 := Lib.hid (HS9.out.trans hk10 (fun b _ h => .inr (.inl (by have := HO9.out b h; omega))))
    have HW10 := Lib.hid (kept_far25 HW9.out hk10 (fun b h => by have := HO9.out b h; omega))
    have HZ10 : Hid (Lz25 w10 z true .nilFunc (.slice (some ⟨w8.heap.size, 0, none⟩) l.length l.length)) := Lib.hid (hk10.heap (fun h => by have := HO9.out z h; omega) HZ9.out)
    have HLR10 := Lib.hid (HLR9.out.kept hk10 (fun b hb h => by have := HO9.out b h; omega))
    clear hk10
    obtain ⟨b2, o2, rfl, _, hb2, u2, e0, e1, e2, e3, e4, hn2, hep2, htop2, hsm2⟩ := (HQT.out _ HS10.out).at_ (j := 0) (by have := HP1.out; omega)
    simp only [Nat.zero_mul, Nat.add_zero] at e0 e1 e2 e3 e4
    have HV2 : Hid (CfV w10 (fun b => s1 ≤ b ∧ b < s2) (.agg #[.int .i64 (nthC l 0).ch, .int .u64 (nthC l 0).ep, u2, .bool (nthC l 0).fr, .int .i64 (nthC l 0).jn]) (nthC l 0)) := Lib.hid ⟨u2, rfl, hn2, hep2, htop2, hsm2⟩
    obtain ⟨ua2, uc2, rfl, _⟩ := id hn2
    obtain ⟨y, hy⟩ : ∃ y, y = nthC l 0 := ⟨_, rfl⟩
    rw [← hy] at e0 e1 e2 e3 e4 HV2
    have HLN := Lib.hid (Learn25_nil w10 _ y _ HV2.out)
    obtain ⟨ych, yep, yns, yfr, yjn⟩ := y
    simp only at e0 e1 e2 e3 e4 HLN
    clear hn2 hep2 htop2 hsm2 hy hb2
    go_wp2_with fail
    refine HLN.out.mono ?_
    rintro e w11 ⟨rfl, hk11⟩
    have HS11 := Lib.hid (HS10.out.trans hk11 (fun _ _ h => h.elim))
    have HW11 := Lib.hid (HW10.out.trans hk11 (fun _ _ h => h))
    have HKZ11 := Lib.hid hk11
    clear hk11 e0 e1 e2 e3 e4
    go_wp2_with fail
    refine (Of25_nil w11 k).mono ?_
    rintro e w12 ⟨v12, rfl, hv12, hk12⟩
    have HS12 := Lib.hid (HS11.out.trans hk12 (fun _ _ h => h.elim))
    have HW12 := Lib.hid (HW11.out.trans hk12 (fun _ _ h => h))
    have HKZ12 := Lib.hid (HKZ11.out.trans hk12 (fun _ _ h => h))
    have HSA := Lib.hid (RSame_any v12 _ cf0 cf0 _ _ w12 hv12 (cfv0_25 w12 (fun _ => True)))
    rw [show sameC cf0 cf0 = true by decide] at HSA
    obtain ⟨u12, rfl, hn12, _⟩ := hv12
    obtain ⟨ua12, uc12, rfl, _⟩ := id hn12
    clear hk12 hn12
    go_wp2_with fail
    refine HSA.out.mono ?_
    rintro e w13 ⟨rfl, hk13⟩
    have HS13 := Lib.hid (HS12.out.trans hk13 (fun _ _ h => h.elim))
    have HW13 := Lib.hid (HW12.out.trans hk13 (fun _ _ h => h))
    have HKZ13 := Lib.hid (HKZ12.out.trans hk13 (fun _ _ h => h))
    clear hk13
    go_wp2_with fail
    refine (Head25_nil w13 k).mono ?_
    rintro e w14 ⟨rfl, hk14⟩
    have HS14 := Lib.hid (HS13.out.trans hk14 (fun _ _ h => h.elim))
    have HW14 := Lib.hid (HW13.out.trans hk14 (fun _ _ h => h))
    have HKZ14 := Lib.hid (HKZ13.out.trans hk14 (fun _ _ h => h))
    clear hk14
    go_wp2_with fail
    refine (Reader25_nil w14 k).mono ?_
    rintro e w15 ⟨rfl, hk15⟩
    have HS15 := Lib.hid (HS14.out.trans hk15 (fun _ _ h => h.elim))
    have HW15 := Lib.hid (HW14.out.trans hk15 (fun _ _ h => h))
    have HKZ15 := Lib.hid (HKZ14.out.trans hk15 (fun _ _ h => h))
    clear hk15
    go_wp2_with fail
    refine (Chains25_nil w15).mono ?_
    rintro e w16 ⟨rfl, rfl⟩
    go_wp2_with fail
    refine (Confs25_nil w15).mono ?_
    rintro e w16 ⟨rfl, rfl⟩
    go_wp2_with fail
    refine (Low25_nil w15 0).mono ?_
    rintro e w16 ⟨rfl, rfl⟩
    go_wp2_with fail
    refine (Tables25_nil w15).mono ?_
    rintro e w16 ⟨rfl, rfl⟩
    go_wp2_with fail
    refine (Confs25_any w15 _ g r z l (HAT.out _ HS15.out) HP2.out).mono ?_
    rintro e w16 h16
    obtain ⟨v16, rfl, hv16, hk16⟩ := h16.cfs25
    have HS16 := Lib.hid (HS15.out.trans hk16 (fun _ _ h => h.elim))
    have HW16 := Lib.hid (HW15.out.trans hk16 (fun _ _ h => h))
    have HKZ16 := Lib.hid (HKZ15.out.trans hk16 (fun _ _ h => h))
    have HSL := Lib.hid (SameAll_any v16 (.slice (some ⟨b2, o2, none⟩) n c2) l l _ _ w16 hv16 (HQT.out _ HS16.out))
    rw [decide_eq_true rfl] at HSL
    obtain ⟨ua16, uc16, rfl, _⟩ := hv16
    rw [← HN.out] at HSL ⊢
    clear hk16 h16
    go_wp2_with fail
    refine HSL.out.mono ?_
    rintro e w17 ⟨rfl, hk17⟩
    have HS17 := Lib.hid (HS16.out.trans hk17 (fun _ _ h => h.elim))
    have HW17 := Lib.hid (HW16.out.trans hk17 (fun _ _ h => h))
    have HKZ17 := Lib.hid (HKZ16.out.trans hk17 (fun _ _ h => h))
    have HLD := Lib.hid (Low25_done w17 _ g r z l (HAT.out _ HS17.out) 0 (by have := HP1.out; omega) _ _ (HKZ17.out.heap (fun h => h) HZ10.out) (HLR10.out.kept HKZ17.out (fun _ _ h => h)))
    clear hk17
    go_wp2_with fail
    refine HLD.out.mono ?_
    rintro e w18 ⟨v18, rfl, ho18, hk18⟩
    have HS18 := Lib.hid (HS17.out.trans hk18 (fun _ _ h => h.elim))
    have HW18 := Lib.hid (HW17.out.trans hk18 (fun _ _ h => h))
    have HRL := Lib.hid (RLow25_any 0 n (by omega) (by omega) w18)
    have HO18 := Lib.hid ho18.nslB
    obtain ⟨ua18, uc18, rfl⟩ := ho18.form
    rw [← HN.out] at HO18 ⊢
    clear hk18 ho18
    go_wp2_with fail
    refine HRL.out.mono ?_
    rintro e w19 ⟨v19, rfl, ho19, hk19⟩
    have HS19 := Lib.hid (HS18.out.trans hk19 (fun _ _ h => h.elim))
    have HW19 := Lib.hid (HW18.out.trans hk19 (fun _ _ h => h))
    have HS4 := Lib.hid (Same04_any _ v19 _ _ _ w19 (HO18.out.kept hk19 (fun _ _ _ h => h)) ho19.nslB (by have := lowL_len n 0 256; omega))
    obtain ⟨ua19, uc19, rfl⟩ := ho19.form
    clear hk19 ho19
    go_wp2_with fail
    refine HS4.out.mono ?_
    rintro e w20 ⟨rfl, hk20⟩
    have HS20 := Lib.hid (HS19.out.trans hk20 (fun _ _ h => h.elim))
    have HW20 := Lib.hid (HW19.out.trans hk20 (fun _ _ h => h))
    clear hk20
    go_wp2_with fail
    refine (HAW.out _).mono ?_
    rintro e w21 ⟨rfl, hk21⟩
    have HS21 := Lib.hid (HS20.out.trans hk21 (fun _ _ h => h.elim))
    have HW21 := Lib.hid (HW20.out.trans hk21 (fun _ _ h => h))
    clear hk21
    go_wp2
    go_ret
    exact ⟨rfl, HW21.out⟩
end Go.Proofs.Ytpgchapemclocaa
