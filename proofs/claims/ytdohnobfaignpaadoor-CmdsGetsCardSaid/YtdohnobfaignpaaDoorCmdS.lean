/-
  The answer's Decode.
-/
import Derived.Test.YtdohnobfaignpaaDoorCmdR
namespace Go.Proofs.YtdohnobfaignpaaDoor
open Go.RowKit Go.Sort Go.Lib
set_option linter.unusedVariables false

set_option maxRecDepth 100000 in
set_option maxHeartbeats 2000000 in
theorem CRDecode_any (v : Value) (l : List Int) (F : Nat → Prop) (w : World) (h : BSl w F v l) (hF : ∀ k, F k → k < w.heap.size) :
    Calls Tryd.prog 20 #[v] w (DecEnd l w) := by
  have HB := Lib.hid h
  have HF := Lib.hid hF
  obtain ⟨va, vc, rfl, _⟩ := h
  clear hF
  obtain ⟨n0, hn0⟩ : ∃ n0, n0 = l.length := ⟨_, rfl⟩
  have HN0 := Lib.hid hn0
  rw [← hn0] at HB ⊢
  clear hn0
  have HRG : Hid (∀ w, RAt w F (.agg #[.slice va n0 vc, .int .i64 0]) ⟨l, 0⟩ → (∀ k, F k → k < w.heap.size) → Calls Tryd.prog 25 #[.agg #[.slice va n0 vc, .int .i64 0]] w (RGetEnd ⟨l, 0⟩ F w)) := Lib.hid (fun w h1 h2 => CRGet_any _ _ F w h1 h2)
  go_enter Tryd.func20, Tryd.ntmps20
  go_wp2_with fail
  have HK0 := Lib.hid ((Kept.refl NoB w).alloc (.cells #[.int .i64 0, .int .i64 0, .int .u64 0, .int .i64 0] 24))
  have HR0 := Lib.hid (heap_alloc_new w (.cells #[.int .i64 0, .int .i64 0, .int .u64 0, .int .i64 0] 24))
  refine (HRG.out _ ⟨⟨fun h => absurd rfl h, Int.le_refl _, by show (0 : Int) < 100; omega⟩, _, rfl, HB.out.kept HK0.out (fun _ _ h => h)⟩ (fun k hk => by have := HF.out k hk; simp; omega)).mono ?_
  rintro e w1 ⟨v', k, ch, ep, nd, x, hG, hx, rfl, hv', hk⟩
  have HR1 := Lib.hid (hk.heap (fun h => h) HR0.out)
  have HK1 := Lib.hid (HK0.out.trans hk (fun _ _ h => h))
  have HV := Lib.hid hv'
  have HG := Lib.hid hG
  obtain ⟨hk4, hc3, hep, hnd⟩ := hG.le
  obtain ⟨_, jb, rfl, hjb⟩ := hv'
  obtain ⟨ja, jc, rfl, _⟩ := hjb
  obtain ⟨n1, hn1⟩ : ∃ n1, n1 = (ISt.raw ⟨l, 0⟩ 11).1.l.length := ⟨_, rfl⟩
  have HN1 := Lib.hid hn1
  rw [← hn1]
  generalize (ISt.raw ⟨l, 0⟩ 11).1.err = y
  clear hk hG HRG HV hn1
  obtain ⟨r0, r1, r2, r3, g0, g1, g2, g3⟩ := cells4 HR1.out
  have hlr := heap_lt HR1.out
  by_cases hx0 : x = 0
  · subst hx0
    have hd := (HG.out.len rfl).2.2.2
    have h11 := (HG.out.len rfl).1
    have HNN : Hid (n1 = l.length - 11) := Lib.hid (by rw [HN1.out, hd]; show (l.drop 11).length = _; rw [List.length_drop])
    have H11 := Lib.hid h11
    clear hd h11
    by_cases hz : n1 = 0
    · have H1 : Hid (l.length = 11) := Lib.hid (by have := HNN.out; have := H11.out; omega)
      clear HNN HN1
      subst hz
      go_wp2
      generalize hW : World.alloc (World.alloc _ _) _ = W2
      have hfin : W2.heap[w.heap.size]? = some (.cells #[.int .i64 (k : Int), .int .i64 (ch : Int), .int .u64 (ep : Int), .int .i64 (nd : Int)] 24 (0, 0)) := by rw [← hW]; exact balloc (balloc (cmd_cells HR1.out) _) _
      have hkf : Kept NoB w W2 := by rw [← hW]; exact ((cmd_kept HK1.out (Nat.le_refl _)).alloc _).alloc _
      clear r0 r1 r2 r3
      obtain ⟨r0, r1, r2, r3, _⟩ := cells4 hfin
      exact bodyPost_ret (v := .tuple #[.agg #[.int .i64 k, .int .i64 ch, .int .u64 ep, .int .i64 nd], .int .i64 0]) (by simp [results, Tryd.results20, go_sem, r0, r1, r2, r3]) rfl ⟨k, ch, ep, nd, 0, ⟨k, ch, ep, nd, 0, HG.out, .inl ⟨rfl, H1.out, rfl, rfl, rfl, rfl, rfl⟩⟩, by decide, rfl, hkf⟩
    · have hpos : (0 : Int) < (n1 : Int) := by omega
      have H1 : Hid (11 < l.length) := Lib.hid (by have := HNN.out; omega)
      clear hz
      go_wp2
      generalize hW : World.alloc (World.alloc _ _) _ = W2
      have hfin : W2.heap[w.heap.size]? = some (.cells #[.int .i64 (0 : Int), .int .i64 (0 : Int), .int .u64 (0 : Int), .int .i64 (0 : Int)] 24 (0, 0)) := by rw [← hW]; exact balloc (balloc (cmd_cells HR1.out) _) _
      have hkf : Kept NoB w W2 := by rw [← hW]; exact ((cmd_kept HK1.out (Nat.le_refl _)).alloc _).alloc _
      clear r0 r1 r2 r3
      obtain ⟨r0, r1, r2, r3, _⟩ := cells4 hfin
      exact bodyPost_ret (v := .tuple #[.agg #[.int .i64 0, .int .i64 0, .int .u64 0, .int .i64 0], .int .i64 4]) (by simp [results, Tryd.results20, go_sem, r0, r1, r2, r3]) rfl ⟨0, 0, 0, 0, 4, ⟨k, ch, ep, nd, 0, HG.out, .inr (.inl ⟨rfl, H1.out, rfl, rfl, rfl, rfl, rfl⟩)⟩, by decide, rfl, hkf⟩
  · have hxb : ((x : Int) != 0) = true := by simpa using hx0
    have HX0 := Lib.hid hx0
    clear hx0
    go_wp2
    generalize hW : World.alloc (World.alloc _ _) _ = W2
    have hfin : W2.heap[w.heap.size]? = some (.cells #[.int .i64 (0 : Int), .int .i64 (0 : Int), .int .u64 (0 : Int), .int .i64 (0 : Int)] 24 (0, 0)) := by rw [← hW]; exact balloc (balloc (cmd_cells HR1.out) _) _
    have hkf : Kept NoB w W2 := by rw [← hW]; exact ((cmd_kept HK1.out (Nat.le_refl _)).alloc _).alloc _
    clear r0 r1 r2 r3
    obtain ⟨r0, r1, r2, r3, _⟩ := cells4 hfin
    exact bodyPost_ret (v := .tuple #[.agg #[.int .i64 0, .int .i64 0, .int .u64 0, .int .i64 0], .int .i64 x]) (by simp [results, Tryd.results20, go_sem, r0, r1, r2, r3]) rfl ⟨0, 0, 0, 0, x, ⟨k, ch, ep, nd, x, HG.out, .inr (.inr ⟨HX0.out, rfl, rfl, rfl, rfl, rfl⟩)⟩, hx, rfl, hkf⟩
end Go.Proofs.YtdohnobfaignpaaDoor
