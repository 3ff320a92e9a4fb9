/-
  Package inode: Blocks (what the function literal does, and the whole).
-/
import Derived.Test.YtbacnkndllifaaaInoC
namespace Go.Proofs.Ytbacnkndllifaaa
open Go.RowKit
set_option linter.unusedVariables false

theorem bset28 {w : World} {b : Nat} {v u : Value} {t : TypeId} (h : w.heap[b]? = some (.cells #[v] t (0, 0))) : (w.setCell ⟨b, 0, none⟩ u).heap[b]? = some (.cells #[u] t (0, 0)) := by
  rw [heap_setCell_same w b 0 _ _ _ h]; rfl
/-- The cell c holds a slice of numbers of the call's own. -/
def LAt (B : Nat) (w : World) (c : Nat) (a : Option Addr) (d : Nat) (L : List Int) : Prop := w.heap[c]? = some (.cells #[.slice a L.length d] 32 (0, 0)) ∧ IOwn B w (.slice a L.length d) L
def ColE (B c : Nat) (L : List Int) (w : World) (e : Ending) (w' : World) : Prop := e = .returned (.tuple #[]) ∧ (∃ a d, LAt B w' c a d L) ∧ Kept (fun k => B ≤ k) w w'
set_option maxRecDepth 100000 in
theorem Collect_any (B c : Nat) (a : Option Addr) (d : Nat) (L : List Int) (s : Int) (n : Nat) (w : World) (h : LAt B w c a d L) (hc : B ≤ c) (hL : L.length ≤ 10000) (hn : n ≤ 8) :
    Calls Try.prog 64 #[.agg #[.int .i64 s, .int .i64 (n : Int)], .pointer (some ⟨c, 0, none⟩)] w (ColE B c (L ++ run28 s n) w) := by
  have hcl := heap_lt h.1
  have hz := heap_alloc_new w (.cells #[.int .i64 s, .int .i64 (n : Int)] 81)
  have HZ := Lib.hid hz
  have HH0 := Lib.hid (((Kept.refl NoB w).alloc (.cells #[.int .i64 s, .int .i64 (n : Int)] 81)).heap (fun h => h) h.1)
  have HO0 := Lib.hid (row_keptI h.2 ((Kept.refl NoB w).alloc (.cells #[.int .i64 s, .int .i64 (n : Int)] 81)) (fun _ _ h => h))
  have HK0 := Lib.hid ((Kept.refl (fun k => B ≤ k) w).alloc (.cells #[.int .i64 s, .int .i64 (n : Int)] 81))
  have c1 : (w.alloc (.cells #[.int .i64 s, .int .i64 (n : Int)] 81)).cell? ⟨w.heap.size, 1, none⟩ = some (.int .i64 (n : Int)) := cell_of_row _ _ 1 _ _ _ hz
  clear h hz
  go_enter Try.func64, Try.ntmps64
  go_wp2
  clear c1
  go_loopw [6] (fun i wr => ∃ (j : Nat) (a : Option Addr) (d : Nat), j ≤ n ∧ i = .int .i64 j ∧ LAt B wr c a d (L ++ run28 s j) ∧ wr.heap[w.heap.size]? = some (.cells #[.int .i64 s, .int .i64 (n : Int)] 81 (0, 0)) ∧ Kept (fun k => B ≤ k) w wr) (fun i _ => n - (intOf i).toNat)
  case atStart => exact ⟨0, a, d, by omega, rfl, by rw [show run28 s 0 = [] from rfl, List.append_nil]; exact ⟨HH0.out, HO0.out⟩, HZ.out, HK0.out⟩
  case round =>
    obtain ⟨j, a, d, hj, rfl, ⟨hh, ho⟩, hbox, hkk⟩ := hrel
    have HBOX := Lib.hid hbox
    have HK := Lib.hid hkk
    have hsz := hkk.size
    by_cases hlt : j < n
    · obtain ⟨M, hM⟩ : ∃ M, M = L ++ run28 s j := ⟨_, rfl⟩
      rw [← hM] at hh ho
      have hml : M.length ≤ 10008 := by rw [hM, List.length_append, run28_len]; omega
      obtain ⟨y, hy⟩ : ∃ y, y = IntKind.i64.wrap (s + (j : Int)) := ⟨_, rfl⟩
      have HM : Hid (L ++ run28 s (j + 1) = M ++ [y]) := Lib.hid (by rw [run28_succ, hM, hy, List.append_assoc])
      have hy' := hy.symm
      have HH := Lib.hid hh
      have HO := Lib.hid ho
      have e0 := cell_of_row _ _ 0 _ _ _ hbox
      have l0 := cell_of_row _ _ 0 _ _ _ hh
      have f0 : wr.frozen? ⟨c, 0, none⟩ = false := by simp [World.frozen?, hh]
      have HO1 := Lib.hid (row_keptI ho ((Kept.refl NoB wr).alloc (.cells #[.int .i64 y] 3)) (fun _ _ h => h))
      have HON := Lib.hid (nsl_one (heap_alloc_new wr (.cells #[.int .i64 y] 3)))
      have hb1 : B ≤ (wr.alloc (.cells #[.int .i64 y] 3)).heap.size := by simp; omega
      have HSZ := Lib.hid hb1
      have hcw : c < wr.heap.size := by omega
      have hcb : c ≠ w.heap.size := by omega
      clear hbox hkk hM hy hh ho hb1
      go_wp2_with (at_builtin; refine wpList_append_nsl _ rfl (.tmp 9) (.tmp 14) rfl B (.slice a M.length d) M rfl HO1.out (fun _ => True) (.slice (some ⟨wr.heap.size, 0, none⟩) 1 1) [y] rfl HON.out (by simp; omega) HSZ.out ?_; intro a1 d1 w3 hown1 hg1 _; (have hk3 : Kept (fun b => (Value.slice a M.length d).ownBlock = some b) wr w3 := ((Kept.refl _ wr).alloc _).grown hg1 (fun b hb => .inl hb)); (have hne : ¬ (Value.slice a M.length d).ownBlock = some c := (fun h => own_ne HO.out HH.out (by decide) h.symm)); (have hne2 : ¬ (Value.slice a M.length d).ownBlock = some w.heap.size := (fun h => own_ne HO.out HBOX.out (by decide) h.symm)); have hh3 := hk3.heap hne HH.out; have hb3 := hk3.heap hne2 HBOX.out; have HK3 := Lib.hid (HK.out.trans hk3 (fun i _ hi => (World.ownsRow.lt HO.out i hi).1)); have HOWN1 := Lib.hid hown1; have HH3 := Lib.hid hh3; have HB3 := Lib.hid hb3; (have l0 := cell_of_row _ _ 0 _ _ _ hh3); (have f0 : w3.frozen? ⟨c, 0, none⟩ = false := (by simp [World.frozen?, hh3])); clear hown1 hg1 hk3 hh3 hb3 hne hne2)
      have hset : Kept (fun i => i = c) w3 (w3.setCell ⟨c, 0, none⟩ (.slice a1 (M.length + 1) d1)) := (Kept.refl (fun i => i = c) w3).setCell (p := ⟨c, 0, none⟩) (.inl rfl) _
      have hl1 : (M ++ [y]).length = M.length + 1 := by simp
      refine ⟨⟨j + 1, a1, d1, by omega, by go_num, ?_, ?_, ?_⟩, by simp [intOf]; omega⟩
      · rw [HM.out]
        refine ⟨?_, ?_⟩
        · rw [hl1]; exact bset28 HH3.out
        · rw [hl1]
          have h := HOWN1.out
          exact row_keptI h hset (fun b hb h' => own_ne h HH3.out (by decide) (h' ▸ hb).symm)
      · exact hset.heap (fun h => hcb h.symm) HB3.out
      · exact HK3.out.trans hset (fun i _ hi => by rw [hi]; exact hc)
    · obtain rfl : j = n := by omega
      have HHO : Hid (LAt B wr c a d (L ++ run28 s j)) := Lib.hid ⟨hh, ho⟩
      have e1 := cell_of_row _ _ 1 _ _ _ hbox
      clear hh ho hbox hkk
      go_wp2
      go_end0
      exact ⟨rfl, ⟨a, d, HHO.out⟩, HK.out⟩

theorem ent_collect : ∀ (args : Array Value) (w : World), Sem.run Try.prog (callFunc 64 args) w = .ok (.enter 64 args) w := fun args w => by kernel_rfl
set_option maxRecDepth 100000 in
theorem iBlocks_any (m s : Int) (u : Value) (l : List Xt) (F : Nat → Prop) (w : World) (h : XSl w F u l) (hl : l.length ≤ 1000) :
    Calls Try.prog 37 #[iv28 m s u] w (ListE (blk l) w) := by
  obtain ⟨a, cap, rfl, hca, hcm, _⟩ := id h
  have HX := Lib.hid h
  have hent := ent_collect
  have HKS := Lib.hid (((Kept.refl NoB w).alloc (.cells #[.int .i64 m, .int .i64 s, .slice a l.length cap] 47)).alloc (.cells #[.slice none 0 0] 32))
  have hz2 := heap_alloc_new (w.alloc (.cells #[.int .i64 m, .int .i64 s, .slice a l.length cap] 47)) (.cells #[.slice none 0 0] 32)
  rw [show (w.alloc (.cells #[.int .i64 m, .int .i64 s, .slice a l.length cap] 47)).heap.size = w.heap.size + 1 by simp] at hz2
  have HLA : Hid (LAt w.heap.size ((w.alloc (.cells #[.int .i64 m, .int .i64 s, .slice a l.length cap] 47)).alloc (.cells #[.slice none 0 0] 32)) (w.heap.size + 1) none 0 (blk (l.take 0))) := Lib.hid ⟨hz2, IOwn.nil _ _⟩
  obtain ⟨_, _, c2⟩ := box3 (w := w) (x := .int .i64 m) (y := .int .i64 s) (z := .slice a l.length cap) (t := 47)
  have c2 := cell_alloc c2 (.cells #[.slice none 0 0] 32)
  have hlm : l.length ≤ 9223372036854775807 := by omega
  clear h hz2
  go_enter Try.func37, Try.ntmps37
  go_wp2
  clear c2
  go_loopw [11] (fun i wr => ∃ (j : Nat) (a : Option Addr) (d : Nat), j ≤ l.length ∧ i = .int .i64 j ∧ LAt w.heap.size wr (w.heap.size + 1) a d (blk (l.take j)) ∧ Kept NoB w wr) (fun i _ => l.length - (intOf i).toNat)
  case atStart => exact ⟨0, none, 0, by omega, rfl, HLA.out, HKS.out⟩
  case round =>
    obtain ⟨j, ra, rd, hj, rfl, hla, hkk⟩ := hrel
    have HK := Lib.hid hkk
    have HL := Lib.hid hla
    have hbl := blk_take_len l j
    obtain ⟨M, hM⟩ : ∃ M, M = blk (l.take j) := ⟨_, rfl⟩
    rw [← hM] at HL hbl
    have HM := Lib.hid hM
    have hcl := heap_lt hla.1
    clear hla hkk hM
    by_cases hlt : j < l.length
    · obtain ⟨b, o, rfl, _, hb, e0, e1⟩ := (HX.out.no HK.out).at_ hlt
      obtain ⟨x, hx⟩ : ∃ x, x = xth l j := ⟨_, rfl⟩
      rw [← hx] at e0 e1
      have HS : Hid (blk (l.take (j + 1)) = M ++ eblk x) := Lib.hid (by rw [xtake_snoc hlt, blk_snoc, ← HM.out, hx])
      obtain ⟨xs, xn⟩ := x
      simp only at e0 e1
      have hj0 : (0 : Int) ≤ (j : Int) := by omega
      have hj1 : (j : Int) < (l.length : Int) := by omega
      have HKA := Lib.hid (HK.out.alloc (.cells #[.int .i64 xs, .int .i64 xn] 81))
      have HLA2 : Hid (LAt w.heap.size (wr.alloc (.cells #[.int .i64 xs, .int .i64 xn] 81)) (w.heap.size + 1) ra rd M) := Lib.hid ⟨((Kept.refl NoB wr).alloc _).heap (fun h => h) HL.out.1, row_keptI HL.out.2 ((Kept.refl NoB wr).alloc _) (fun _ _ h => h)⟩
      clear hx
      by_cases hv : 1 ≤ xn ∧ xn ≤ 8
      · obtain ⟨k, rfl⟩ := Int.eq_ofNat_of_zero_le (show 0 ≤ xn by omega)
        have HS2 : Hid (blk (l.take (j + 1)) = M ++ run28 xs k) := Lib.hid (by rw [HS.out]; unfold eblk; rw [if_pos hv, Int.toNat_natCast])
        have HC := Lib.hid (Collect_any w.heap.size (w.heap.size + 1) ra rd M xs k _ HLA2.out (by omega) (by omega) (by omega))
        have d1 : decide ((1 : Int) ≤ (k : Int)) = true := decide_eq_true hv.1
        have d2 : decide ((k : Int) ≤ 8) = true := decide_eq_true hv.2
        have d3 : decide (1 ≤ k) = true := decide_eq_true (by omega)
        have d4 : decide (k ≤ 8) = true := decide_eq_true (by omega)
        clear hv
        go_wp2_with fail
        refine HC.out.mono ?_
        rintro e w2 ⟨rfl, ⟨a2, d2', hl2⟩, hk2⟩
        have HL2 := Lib.hid hl2
        have HK2 := Lib.hid (HKA.out.trans hk2 (fun i hi hi2 => absurd hi (by omega)))
        clear hl2 hk2
        go_wp2
        go_roundw
        case rel => exact ⟨j + 1, a2, d2', by omega, by go_num, by rw [HS2.out]; exact HL2.out, HK2.out⟩
        case measure => simp [intOf]; omega
      · have HS2 : Hid (blk (l.take (j + 1)) = M) := Lib.hid (by rw [HS.out]; unfold eblk; rw [if_neg hv, List.append_nil])
        by_cases h1 : 1 ≤ xn
        · have d1 : decide ((1 : Int) ≤ xn) = true := decide_eq_true h1
          have d2 : decide (xn ≤ 8) = false := decide_eq_false (by omega)
          clear hv
          go_wp2
          go_roundw
          case rel => exact ⟨j + 1, ra, rd, by omega, by go_num, by rw [HS2.out]; exact HLA2.out, HKA.out⟩
          case measure => simp [intOf]; omega
        · have d1 : decide ((1 : Int) ≤ xn) = false := decide_eq_false h1
          clear hv h1
          go_wp2
          go_roundw
          case rel => exact ⟨j + 1, ra, rd, by omega, by go_num, by rw [HS2.out]; exact HLA2.out, HKA.out⟩
          case measure => simp [intOf]; omega
    · obtain rfl : j = l.length := by omega
      have HE := Lib.hid (ListE.mk HL.out.2 HK.out)
      have l0 := cell_of_row _ _ 0 _ _ _ HL.out.1
      rw [HM.out, List.take_length] at HE l0
      go_wp2
      go_ret
      exact HE.out
end Go.Proofs.Ytbacnkndllifaaa
