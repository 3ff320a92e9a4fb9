/-
  The chapter's Begin.
-/
import Derived.Test.YtlnfbfdmicmafaaDoorCnfAI
import Derived.Test.YtlnfbfdmicmafaaDoorCnfAQ
import Derived.Test.YtlnfbfdmicmafaaDoorCnfAC
namespace Go.Proofs.YtlnfbfdmicmafaaDoor
open Go.RowKit
set_option linter.unusedVariables false
set_option linter.unusedSimpArgs false

theorem RBegin_bad (chains per : Int) (w : World) (h : begB chains per = false) : Calls Tryd.prog 29 #[.int .i64 chains, .int .i64 per] w (BegE chains per w) := by
  have HBX : Hid (begC chains per = [] ∧ begX chains per = 1) := Lib.hid (by unfold begC begX; rw [h]; exact ⟨rfl, rfl⟩)
  have hb : ¬ (1 ≤ chains ∧ chains ≤ 4 ∧ 1 ≤ per ∧ per ≤ 5) := of_decide_eq_false h
  have hfin : BegE chains per w (.returned (.tuple #[.slice none 0 0, .int .i64 1])) w := by
    exact ⟨.slice none 0 0, (by rw [HBX.out.2] <;> rfl), (by rw [HBX.out.1]; exact CfsAt.nil _ _), Kept.refl _ _⟩
  have HF := Lib.hid hfin
  clear h hfin HBX
  by_cases h1 : chains < 1
  · clear hb
    go_enter Tryd.func29, Tryd.ntmps29
    go_wp2
    go_ret2
    exact HF.out
  · have b1 : decide (chains < 1) = false := decide_eq_false h1
    by_cases h2 : 4 < chains
    · clear hb
      go_enter Tryd.func29, Tryd.ntmps29
      go_wp2
      go_ret2
      exact HF.out
    · have b2 : decide (4 < chains) = false := decide_eq_false h2
      by_cases h3 : per < 1
      · clear hb
        go_enter Tryd.func29, Tryd.ntmps29
        go_wp2
        go_ret2
        exact HF.out
      · have b3 : decide (per < 1) = false := decide_eq_false h3
        have h4 : 5 < per := by omega
        clear hb
        go_enter Tryd.func29, Tryd.ntmps29
        go_wp2
        go_ret2
        exact HF.out
/-- What stands behind k chains. -/
def BegK (B k per : Nat) (q : Value) (ps : List (Cf × Value)) (w0 wr : World) : Prop :=
  ps.map Prod.fst = (List.range k).map (beg1 per) ∧ KOwn B wr q ps ∧ (∀ p ∈ ps, NSl wr (fun b => B ≤ b ∧ q.ownBlock ≠ some b) p.2 p.1.ns) ∧ Kept NoB w0 wr
set_option maxRecDepth 100000 in
set_option maxHeartbeats 2000000 in
theorem RBegin_good (chains per : Nat) (w : World) (h1 : 1 ≤ chains) (h4 : chains ≤ 4) (p1 : 1 ≤ per) (p5 : per ≤ 5) :
    Calls Tryd.prog 29 #[.int .i64 chains, .int .i64 per] w (BegE chains per w) := by
  have hmul : ∀ k : Nat, k ≤ 4 → k * per ≤ 20 := fun k hk => by have := Nat.mul_le_mul hk p5; omega
  have HM := Lib.hid hmul
  have hc1 : decide ((chains : Int) < 1) = false := decide_eq_false (by omega)
  have hc4 : decide (4 < (chains : Int)) = false := decide_eq_false (by omega)
  have hp1 : decide ((per : Int) < 1) = false := decide_eq_false (by omega)
  have hp5 : decide (5 < (per : Int)) = false := decide_eq_false (by omega)
  have HBX : Hid (begC chains per = begL chains per ∧ begX chains per = 0) := Lib.hid (by
    have hb : begB chains per = true := decide_eq_true (by omega)
    unfold begC begX
    rw [hb, Int.toNat_natCast, Int.toNat_natCast]
    exact ⟨rfl, rfl⟩)
  clear hmul
  go_enter Tryd.func29, Tryd.ntmps29
  go_wp2_with fail
  go_loopw [6, 7, 8] (fun q n i wr => ∃ (k : Nat) (ps : List (Cf × Value)), i = .int .i64 k ∧ k ≤ chains ∧ n = .int .i64 ((k * per : Nat) : Int) ∧ BegK w.heap.size k per q ps w wr) (fun _ _ i _ => chains - (intOf i).toNat)
  case atStart => exact ⟨0, [], rfl, Nat.zero_le _, by rw [Nat.zero_mul]; rfl, rfl, KOwn.nil _ _, (fun _ h => by cases h), Kept.refl _ _⟩
  case round =>
    obtain ⟨k, ps, rfl, hk, rfl, hmap, hown, hns, hkk⟩ := hrel
    have HMAP := Lib.hid hmap
    have HO := Lib.hid hown
    have HN := Lib.hid hns
    have HK := Lib.hid hkk
    have hpl : ps.length = k := by have := congrArg List.length hmap; simpa using this
    obtain ⟨qa, qc, rfl⟩ := hown.form
    have HPL := Lib.hid hpl
    clear hmap hown hns hkk hpl
    have hkp := HM.out k (by omega)
    obtain ⟨kp, hkpe⟩ : ∃ kp, kp = k * per := ⟨_, rfl⟩
    have HKP := Lib.hid hkpe
    rw [← hkpe] at hkp
    rw [← hkpe]
    clear hkpe
    by_cases hlt : k < chains
    · have hk1 : (k : Int) < (chains : Int) := by omega
      go_wp2_with fail
      obtain ⟨wo, rfl⟩ : ∃ wo : World, wo = wr := ⟨_, rfl⟩
      have HB0 := Lib.hid (heap_alloc_new wo (.cells #[.int .i64 (k : Int), .int .u64 1, .slice none 0 0, .bool false, .int .i64 0] 26))
      have HK0 := Lib.hid ((Kept.refl NoB wo).alloc (.cells #[.int .i64 (k : Int), .int .u64 1, .slice none 0 0, .bool false, .int .i64 0] 26))
      go_loopw [7, 10] (fun n i wr => ∃ (m : Nat) (qb : Option Addr) (qd : Nat), i = .int .i64 m ∧ m ≤ per ∧ n = .int .i64 ((kp + m : Nat) : Int) ∧ wr.heap[wo.heap.size]? = some (.cells #[.int .i64 (k : Int), .int .u64 1, .slice qb m qd, .bool false, .int .i64 0] 26 (0, 0)) ∧ IOwn (wo.heap.size + 1) wr (.slice qb m qd) ((beg1 per k).ns.take m) ∧ Kept NoB wo wr) (fun _ i _ => per - (intOf i).toNat)
      case atStart => exact ⟨0, none, 0, rfl, Nat.zero_le _, rfl, HB0.out, IOwn.nil _ _, HK0.out⟩
      case round =>
        obtain ⟨m, qb, qd, rfl, hm, rfl, hrow, hio, hkw⟩ := hrel
        have HROW := Lib.hid hrow
        have HIO := Lib.hid hio
        have HKW := Lib.hid hkw
        have hln : ((beg1 per k).ns.take m).length = m := by rw [List.length_take, beg1_ns]; omega
        have HLN := Lib.hid hln
        have hgs := heap_lt hrow
        clear hio hkw hln
        by_cases hml : m < per
        · have hm1 : (m : Int) < (per : Int) := by omega
          have HTK : Hid ((beg1 per k).ns.take (m + 1) = (beg1 per k).ns.take m ++ [(((kp + m : Nat) : Int) + 1)]) := Lib.hid (by rw [take_one (by rw [beg1_ns]; exact hml), beg1_at hml, ← HKP.out]; rfl)
          obtain ⟨M, hM⟩ : ∃ M, M = (beg1 per k).ns.take m := ⟨_, rfl⟩
          rw [← hM] at HIO HLN HTK
          clear hM
          obtain ⟨n0, hn0⟩ : ∃ n0, n0 = kp + m := ⟨_, rfl⟩
          rw [← hn0] at HTK ⊢
          have hn0b : n0 ≤ 25 := by omega
          have HN0 := Lib.hid hn0
          clear hn0
          have HO1 := Lib.hid (row_keptI HIO.out ((Kept.refl NoB wr).alloc (.cells #[.int .i64 ((n0 : Int) + 1)] 3)) (fun _ _ h => h))
          have HON := Lib.hid (nsl_one (heap_alloc_new wr (.cells #[.int .i64 ((n0 : Int) + 1)] 3)))
          have HSZ : Hid (wo.heap.size + 1 ≤ (wr.alloc (.cells #[.int .i64 ((n0 : Int) + 1)] 3)).heap.size) := Lib.hid (by simp; omega)
          obtain ⟨c0, c1, c2, c3, c4⟩ := cells5 hrow
          have HM5 : Hid (M.length + 1 ≤ 100000) := Lib.hid (by rw [HLN.out]; omega)
          rw [← HLN.out] at HO1
          clear hrow
          go_wp2_with (at_builtin; refine wpList_append_nsl _ rfl (.tmp 40) (.tmp 42) rfl (wo.heap.size + 1) (.slice qb M.length qd) M (by rw [HLN.out] <;> rfl) HO1.out (fun _ => True) (.slice (some ⟨wr.heap.size, 0, none⟩) 1 1) [(n0 : Int) + 1] rfl HON.out (by simpa using HM5.out) HSZ.out ?_; intro a1 e1 w3 hown1 hg1 hat1; have hk3 : Kept (fun b => (Value.slice qb M.length qd).ownBlock = some b) wr w3 := ((Kept.refl _ wr).alloc _).grown hg1 (fun b hb => .inl hb); have hrow3 := hk3.heap (fun h => by have := (World.ownsRow.lt HO1.out _ h).1; omega) HROW.out; obtain ⟨d0, d1, d2, d3, d4⟩ := cells5 hrow3; have z2 : w3.frozen? ⟨wo.heap.size, 2, none⟩ = false := (by simp [World.frozen?, hrow3]); have HOWN1 := Lib.hid hown1; have HROW3 := Lib.hid hrow3; have HKW3 := Lib.hid ((HKW.out.alloc (.cells #[.int .i64 ((n0 : Int) + 1)] 3)).grown hg1 (fun b hb => .inr (by have := (World.ownsRow.lt HO1.out _ hb).1; omega))); clear hown1 hg1 hat1 hk3 hrow3 c0 c1 c2 c3 c4)
          rw [List.length_singleton, HLN.out] at HOWN1
          go_roundw
          case rel =>
            refine ⟨m + 1, a1, e1, by go_num, by omega, by rw [show kp + (m + 1) = n0 + 1 by rw [HN0.out]; omega]; go_num, by rw [HLN.out]; exact bset1 HROW3.out 2 _, ?_, HKW3.out.setCell (p := ⟨wo.heap.size, 2, none⟩) (.inr (Nat.le_refl _)) _⟩
            rw [HTK.out]
            exact row_keptI HOWN1.out ((Kept.refl (fun i => i = wo.heap.size) w3).setCell (p := ⟨wo.heap.size, 2, none⟩) (.inl rfl) _) (fun b hb h => by have := (World.ownsRow.lt HOWN1.out b hb).1; omega)
          case measure => simp [intOf]; omega
        · obtain rfl : m = per := by omega
          have HNS : Hid ((beg1 m k).ns.take m = (beg1 m k).ns) := Lib.hid (List.take_of_length_le (by rw [beg1_ns]; omega))
          rw [HNS.out] at HIO HLN
          obtain ⟨c0, c1, c2, c3, c4⟩ := cells5 hrow
          have HKA := Lib.hid (HKW.out.alloc (.cells #[.int .i64 (k : Int), .int .u64 1, .slice qb m qd, .bool false, .int .i64 0] 26))
          have HKO := Lib.hid (HO.out.kept HKA.out (fun _ _ h => h))
          have HBB : Hid ((wr.alloc (.cells #[.int .i64 (k : Int), .int .u64 1, .slice qb m qd, .bool false, .int .i64 0] 26)).heap[wr.heap.size]? = some (.cells #[.int .i64 (beg1 m k).ch, .int .u64 (beg1 m k).ep, .slice qb m qd, .bool (beg1 m k).fr, .int .i64 (beg1 m k).jn] 26 (0, 0))) := Lib.hid (heap_alloc_new wr _)
          have HSZ : Hid (w.heap.size ≤ (wr.alloc (.cells #[.int .i64 (k : Int), .int .u64 1, .slice qb m qd, .bool false, .int .i64 0] 26)).heap.size) := Lib.hid (by have := HK.out.size; simp; omega)
          clear hrow
          go_wp2_with (at_builtin; refine wpList_append_kc _ rfl (.tmp 45) (.tmp 47) rfl w.heap.size (.slice qa ps.length qc) ps rfl HKO.out wr.heap.size (beg1 m k) (.slice qb m qd) rfl HBB.out rfl (by have := HPL.out; omega) HSZ.out ?_; intro a1 e1 w3 hown1 hg1 hat1; have HOWN1 := Lib.hid hown1; have HG1 := Lib.hid hg1; have HAT1 := Lib.hid hat1; clear hown1 hg1 hat1)
          refine ⟨⟨k + 1, ps ++ [(beg1 m k, .slice qb m qd)], by go_num, by omega, ?_, ?_, ?_, ?_, ?_⟩, by simp [intOf]; omega⟩
          · rw [Nat.add_mul, ← HKP.out, Nat.one_mul]; go_num
          · rw [List.map_append, HMAP.out, List.range_succ, List.map_append]; rfl
          · exact HOWN1.out
          · have hks : Kept (fun b => (Value.slice qa ps.length qc).ownBlock = some b) wo w3 := (HKA.out.mono (fun _ _ h => absurd h (fun h => h))).grown HG1.out (fun b hb => .inl hb)
            have hks2 : Kept (fun b => (Value.slice qa ps.length qc).ownBlock = some b) wr w3 := ((Kept.refl _ wr).alloc _).grown HG1.out (fun b hb => .inl hb)
            have hlo : ∀ b, (Value.slice qa ps.length qc).ownBlock = some b → b < wo.heap.size := fun b hb => (World.ownsRow.lt HO.out b hb).2
            have hnw : ∀ b, b < wr.heap.size → (Value.slice qa ps.length qc).ownBlock ≠ some b → (Value.slice a1 (ps.length + 1) e1).ownBlock ≠ some b := fun b hb hne he => by
              rcases HAT1.out with h | h
              · exact hne (h ▸ he)
              · rw [h] at he
                injection he with he
                have : (wr.alloc (.cells #[.int .i64 (k : Int), .int .u64 1, .slice qb m qd, .bool false, .int .i64 0] 26)).heap.size = wr.heap.size + 1 := by simp
                omega
            intro p hp
            rcases List.mem_append.1 hp with hp | hp
            · have hz := HKW.out.size
              exact (((HN.out p hp).mono (G := fun b => (w.heap.size ≤ b ∧ (Value.slice a1 (ps.length + 1) e1).ownBlock ≠ some b) ∧ (Value.slice qa ps.length qc).ownBlock ≠ some b) (fun b hb h => ⟨⟨h.1, hnw b (by omega) h.2⟩, h.2⟩)).kept hks (fun b _ h => h.2)).mono (fun _ _ h => h.1)
            · obtain rfl : p = (beg1 m k, .slice qb m qd) := by simpa using hp
              have hz := HK.out.size
              refine ((HIO.out.nsl (F := fun b => (w.heap.size ≤ b ∧ (Value.slice a1 (ps.length + 1) e1).ownBlock ≠ some b) ∧ (Value.slice qa ps.length qc).ownBlock ≠ some b) (fun b hb => ?_)).kept hks2 (fun b _ h => h.2)).mono (fun _ _ h => h.1)
              have hbb := World.ownsRow.lt HIO.out b hb
              have hne : (Value.slice qa ps.length qc).ownBlock ≠ some b := fun h => by have := hlo b h; omega
              exact ⟨⟨by omega, hnw b hbb.2 hne⟩, hne⟩
          · exact (HK.out.trans HKA.out (fun _ _ h => h)).grown HG1.out (fun b hb => .inr (World.ownsRow.lt HO.out b hb).1)
    · obtain rfl : k = chains := by omega
      have h24 : decide (24 < (kp : Int)) = false := decide_eq_false (by omega)
      have hcf : CfsAt wr (fun b => w.heap.size ≤ b) (.slice qa ps.length qc) (ps.map Prod.fst) := HO.out.cfs (fun b hb => (World.ownsRow.lt HO.out b hb).1) (fun p hp => by
        have hp1 : p.1 ∈ (List.range k).map (beg1 per) := HMAP.out ▸ List.mem_map_of_mem hp
        obtain ⟨j, _, hj⟩ := List.mem_map.1 hp1
        refine ⟨(HN.out p hp).mono (fun _ _ h => h.1), ?_⟩
        rw [← hj]
        exact ⟨by show (0 : Int) ≤ 1; omega, by show (1 : Int) ≤ topE; unfold topE; omega, by rw [beg1_ns]; omega⟩)
      rw [HMAP.out] at hcf
      have HC := Lib.hid hcf
      clear hcf
      go_wp2
      go_ret2
      exact ⟨_, (by rw [HBX.out.2] <;> rfl), (by rw [HBX.out.1]; exact HC.out), HK.out⟩
end Go.Proofs.YtlnfbfdmicmafaaDoor
