/-
  Package ballot and its answer: List, Meet.
-/
import Derived.Test.YtidhaofojcdbaaaBalD
namespace Go.Proofs.Ytidhaofojcdbaaa
open Go.RowKit
set_option linter.unusedVariables false

theorem Try.info3 : (Try.prog.info? 3).map (fun i => (i.zero, i.size, i.bytes)) = some (some (.int .i64 0), 1, 8) := by kernel_rfl
/-- Numbers as cells. -/
def iv (l : List Nat) : List Value := l.map fun (i : Nat) => Value.int .i64 (i : Int)
theorem iv_len (l : List Nat) : (iv l).length = l.length := by simp [iv]
theorem iv_app (l m : List Nat) : iv (l ++ m) = iv l ++ iv m := by simp [iv]
/-- A slice of the call's own, from block B on, that reads as these numbers. -/
def LOwn (B : Nat) (w : World) (v : Value) (l : List Nat) : Prop := w.ownsRow B 3 1 v l.length (iv l)
theorem LOwn.low {B C : Nat} {w : World} {v : Value} {l : List Nat} (h : LOwn B w v l) (hC : C ≤ B) : LOwn C w v l := by
  refine ⟨h.1, ?_⟩
  rcases h.2 with hn | ⟨g, cap, cur, hv, hb, rest⟩
  · exact .inl hn
  · exact .inr ⟨g, cap, cur, hv, by omega, rest⟩
/-- What a list of numbers tells. -/
def Lists (w : World) (l : List Nat) (e : Ending) (w' : World) : Prop := ∃ v, e = .returned v ∧ LOwn w.heap.size w' v l ∧ Kept NoB w w'
theorem Lists.mk {w : World} {l : List Nat} {v : Value} {w' : World} (h : LOwn w.heap.size w' v l) (hk : Kept NoB w w') : Lists w l (.returned v) w' := ⟨v, rfl, h, hk⟩
/-- One number more. -/
theorem put_own {w0 w w1 : World} {v v' : Value} {l : List Nat} {k : Nat} (h : LOwn w0.heap.size w v l) (hk : Kept NoB w0 w) (o : Obj) (hown : w1.ownsRow w0.heap.size 3 1 v' (l.length + 1) (iv l ++ [.int .i64 (k : Int)])) (hg : (w.alloc o).grownBy w1 v.ownBlock) :
    LOwn w0.heap.size w1 v' (l ++ [k]) ∧ Kept NoB w0 w1 := by
  refine ⟨?_, ?_⟩
  · unfold LOwn
    rw [List.length_append, iv_app]
    simpa [iv] using hown
  · refine (hk.alloc o).grown hg (fun k hk => .inr ?_)
    exact (World.ownsRow.lt h k hk).1

theorem one_fine (k : Nat) : ∀ u ∈ [Value.int .i64 (k : Int)], u.oneCell' = true := by simp [Value.oneCell']
theorem news_one (w : World) (k : Nat) : ∀ j u, [Value.int .i64 (k : Int)][j]? = some u → (w.alloc (.cells #[.int .i64 (k : Int)] 3)).cell? ((⟨w.heap.size, 0, none⟩ : Addr).add j) = some u :=
  World.news_of_block (cs := #[_]) (t := 3) (fr := (0, 0)) (heap_alloc_new w _)
theorem size_one (w : World) {n : Nat} (h : n ≤ w.heap.size) (k : Nat) : n ≤ (w.alloc (.cells #[.int .i64 (k : Int)] 3)).heap.size := by simp; omega
set_option maxRecDepth 100000 in
theorem bList_any (s : Nat) (w : World) (hs : s < 18446744073709551616) : Calls Try.prog 98 #[.int .u64 s] w (Lists w (below s 64)) := by
  obtain ⟨i0, hi, hz0, hz1, hz2⟩ := info_parts Try.info3
  have HC := Lib.hid (Count_any s w hs)
  have hl := below_len s 64
  obtain ⟨n, hn⟩ : ∃ n, n = (below s 64).length := ⟨_, rfl⟩
  rw [← hn] at HC hl
  clear hn
  go_enter Try.func98, Try.ntmps98
  go_wp2_with fail
  refine HC.out.mono ?_
  rintro e w' ⟨rfl, rfl⟩
  go_wp2_with (at_make; refine wpList_make_own _ rfl _ _ 82 rfl w.heap.size 3 i0 (.int .i64 0) 1 Try.underlying82 hi hz0 hz1 _ _ _ n rfl rfl (by omega) (by rw [hz2]; omega) (by unfold maxLen; omega) (Nat.le_refl _) ?_; intro w1 hown1 hg1)
  have hst : LOwn w.heap.size w1 (.slice (some ⟨w.heap.size, 0, none⟩) 0 n) [] := hown1
  have hsk : Kept NoB w w1 := (Kept.refl NoB w).grown hg1 (fun k hk => by cases hk)
  clear HC hl hown1 hg1
  go_loopw [3, 8] (fun v i wr => ∃ k : Nat, k ≤ 64 ∧ i = .int .i64 k ∧ LOwn w.heap.size wr v (below s k) ∧ Kept NoB w wr) (fun _ i _ => 64 - (intOf i).toNat)
  case atStart => exact ⟨0, by omega, rfl, hst, hsk⟩
  case round =>
    obtain ⟨k, hk, rfl, hown, hkk⟩ := hrel
    have HO := Lib.hid hown
    have HK := Lib.hid hkk
    have hsz := hkk.size
    have hl := below_len s k
    obtain ⟨l, hl2⟩ : ∃ l, l = below s k := ⟨_, rfl⟩
    rw [← hl2] at HO hl
    have HL := Lib.hid hl2
    clear hown hkk hl2 hst hsk
    by_cases hlt : k < 64
    · have HH := Lib.hid (bHas_mem s k wr hs (by omega))
      cases hm : mem s k with
      | true =>
        rw [hm] at HH
        have HM := Lib.hid hm
        have HO1 := Lib.hid (World.ownsRow.alloc (w := wr) HO.out (.cells #[.int .i64 (k : Int)] 3))
        have HA1 := Lib.hid (news_one wr k)
        have HB1 := Lib.hid (size_one wr hsz k)
        clear hm
        go_wp2_with fail
        refine HH.out.mono ?_
        rintro e w' ⟨rfl, rfl⟩
        go_wp2_with (at_builtin; refine (wpList_append_own _ rfl _ _ 82 rfl w.heap.size 3 i0 (.int .i64 0) 1 8 Try.underlying82 hi hz0 hz1 hz2 rfl (by decide) u3 l.length (iv l) rfl HO1.out ⟨wr.heap.size, 0, none⟩ 1 1 [.int .i64 (k : Int)] rfl rfl HA1.out (one_fine k) (by unfold maxLen; omega) (by omega) HB1.out ?_); intro v' w2 hown2 hg2 _; have HP := Lib.hid (put_own (k := k) HO.out HK.out (.cells #[.int .i64 (k : Int)] 3) hown2 hg2); clear hown2 hg2)
        go_roundw
        case rel => exact ⟨k + 1, by omega, by go_num, by rw [below_yes HM.out, ← HL.out]; exact HP.out.1, HP.out.2⟩
        case measure => simp [intOf]; omega
      | false =>
        rw [hm] at HH
        have HM := Lib.hid hm
        clear hm
        go_wp2_with fail
        refine HH.out.mono ?_
        rintro e w' ⟨rfl, rfl⟩
        go_wp2
        go_roundw
        case rel => exact ⟨k + 1, by omega, by go_num, by rw [below_no HM.out, ← HL.out]; exact HO.out, HK.out⟩
        case measure => simp [intOf]; omega
    · obtain rfl : k = 64 := by omega
      go_wp2
      go_ret
      exact Lists.mk (HL.out ▸ HO.out) HK.out

theorem mem_and (a b k : Nat) : mem (a &&& b) k = (mem a k && mem b k) := by
  unfold mem
  rw [Nat.testBit_and]
  cases decide (1 ≤ k) <;> cases a.testBit k <;> cases b.testBit k <;> rfl
end Go.Proofs.Ytidhaofojcdbaaa
