/-
  Package update: Copy, Batch, Fits, Runs.
-/
import Derived.Test.YtabjpmkkigflmaaGreatDoorUpdD
namespace Go.Proofs.YtabjpmkkigflmaaGreatDoor
open Go.RowKit
set_option linter.unusedVariables false
set_option linter.unusedSimpArgs false

/-- What Copy, Batch and Fits tell. -/
def OwnEnd (w : World) (out : List Up) (e : Ending) (w' : World) : Prop :=
  ∃ a c ps, e = .returned (.slice a out.length c) ∧ UOw 34 w.heap.size w' (.slice a out.length c) ps ∧ ps.map Prod.fst = out ∧ DatO w' (fun k => w.heap.size ≤ k) ps ∧ Kept NoB w w'
theorem OwnEnd.of {w w1 w' : World} {T : Nat → Prop} {St : Int → World → Prop} {s : Int} {out : List Up} {e : Ending} (h : SelEnd w1 T St s out e w') (hk : Kept NoB w w1) (hT : ∀ k, T k → w.heap.size ≤ k) : OwnEnd w out e w' := by
  obtain ⟨a, c, ps, h1, h2, h3, h4, _, h5⟩ := h
  exact ⟨a, c, ps, h1, h2.mono hk.size, h3, h4.mono (fun k _ h => by have := hk.size; omega), hk.trans h5 (fun i hi ht => by have := hT i ht; omega)⟩
theorem OwnEnd.us {w w' : World} {out : List Up} {e : Ending} (h : OwnEnd w out e w') : ∃ a c, e = .returned (.slice a out.length c) ∧ UsAt w' (fun k => w.heap.size ≤ k) (.slice a out.length c) out ∧ Kept NoB w w' := by
  obtain ⟨a, c, ps, h1, h2, h3, h4, h5⟩ := h
  exact ⟨a, c, h1, h3 ▸ h2.us (fun k hk => (h2.base k hk).1) h4.u, h5⟩
theorem seq_new (w : World) (s : Int) (h0 : 0 ≤ s) (h1 : s ≤ 18446744073709551615) : SeqSt w.heap.size s (w.alloc (.cells #[.int .u64 s] 22)) := ⟨heap_alloc_new w _, h0, h1⟩
set_option maxRecDepth 100000 in
theorem Copy_any17 (w : World) (v : Value) (l : List Up) (F : Nat → Prop) (h : UsAt w F v l) (hF : ∀ k, F k → k < w.heap.size) (hfit : FitsU l) (hl : l.length ≤ 5000) (hd : ∀ x ∈ l, x.d.length ≤ 1000000) : Calls Tryz.prog 78 #[v] w (OwnEnd w l) := by
  have HC := Lib.hid (selected_any w v l F NoB 151 #[] anyU (fun _ _ => True) 0 h (copy_takes w F l hF hfit) trivial hl hd)
  rw [selU_any] at HC
  clear h hF hfit hl hd
  go_enter Tryz.func78, Tryz.ntmps78
  go_wp2_with fail
  refine HC.out.mono ?_
  intro e w1 h1
  have h2 := OwnEnd.of h1 (Kept.refl _ _) (fun _ h => absurd h (fun h => h))
  clear h1
  obtain ⟨a, c, ps, rfl, r⟩ := h2
  have HR := Lib.hid r
  clear r
  go_wp2
  go_ret
  exact ⟨a, c, ps, rfl, HR.out⟩
set_option maxRecDepth 100000 in
theorem Batch_any (w : World) (v : Value) (l : List Up) (after most : Int) (F : Nat → Prop) (h : UsAt w F v l) (hF : ∀ k, F k → k < w.heap.size) (hfit : FitsU l) (hl : l.length ≤ 5000) (hd : ∀ x ∈ l, x.d.length ≤ 1000000) : Calls Tryz.prog 82 #[v, .int .u64 after, .int .i64 most] w (OwnEnd w (selU (batU after most) 0 l)) := by
  have hmf : ∀ (fn : Fn) (first cap : Array Value) (w : World), (Instr.makeFunc fn first cap).run Tryz.prog w = .ok (.func fn first cap) w := fun _ _ _ _ => rfl
  obtain ⟨wa, hwa⟩ : ∃ x, x = w.alloc (.cells #[.int .u64 after] 22) := ⟨_, rfl⟩
  obtain ⟨wb, hwb⟩ : ∃ x, x = wa.alloc (.cells #[.int .i64 most] 3) := ⟨_, rfl⟩
  obtain ⟨wc, hwc⟩ : ∃ x, x = wb.alloc (.cells #[.int .i64 0] 3) := ⟨_, rfl⟩
  have s1 : wa.heap.size = w.heap.size + 1 := by rw [hwa]; simp
  have s2 : wb.heap.size = w.heap.size + 2 := by rw [hwb]; simp [s1]
  have s3 : wc.heap.size = w.heap.size + 3 := by rw [hwc]; simp [s2]
  have n1 : NumAt 22 w.heap.size (.int .u64 after) wa := by rw [hwa]; exact heap_alloc_new w _
  have n2 : NumAt 3 (w.heap.size + 1) (.int .i64 most) wb := by rw [hwb, ← s1]; exact heap_alloc_new wa _
  have n3 : NumAt 3 (w.heap.size + 2) (.int .i64 0) wc := by rw [hwc, ← s2]; exact heap_alloc_new wb _
  have k1 : Kept NoB w wa := by rw [hwa]; exact (Kept.refl _ _).alloc _
  have k2 : Kept NoB wa wb := by rw [hwb]; exact (Kept.refl _ _).alloc _
  have k3 : Kept NoB wb wc := by rw [hwc]; exact (Kept.refl _ _).alloc _
  have k23 := k2.trans k3 (fun _ _ h => h)
  have k13 := k1.trans k23 (fun _ _ h => h)
  have n1' := n1.keep k23 (fun h => h)
  have n2' := n2.keep k3 (fun h => h)
  have HC := Lib.hid (selected_any wc v l F (fun k => k = w.heap.size + 2) 152 #[.pointer (some ⟨w.heap.size, 0, none⟩), .pointer (some ⟨w.heap.size + 2, 0, none⟩), .pointer (some ⟨w.heap.size + 1, 0, none⟩)] (batU after most) (BatSt (w.heap.size + 2) w.heap.size (w.heap.size + 1) after most) 0 (h.kept k13 (fun _ _ h => h)) (bat_takes wc F l (w.heap.size + 2) w.heap.size (w.heap.size + 1) after most (fun k hk => by have := hF k hk; omega) (by omega) (by omega) (by omega) hfit hl) ⟨n3, n1', n2', Int.le_refl _, by omega, by omega, by omega⟩ hl hd)
  have HK := Lib.hid k13
  have HA := Lib.hid hwa
  have HB := Lib.hid hwb
  have HZ := Lib.hid (show wb.alloc (.cells #[.int .i64 0] 3) = wc from hwc.symm)
  have HS := Lib.hid (And.intro s1 s2)
  clear h hF hfit hl hd hwa hwb hwc s1 s2 s3 n1 n2 n3 k1 k2 k3 k23 k13 n1' n2'
  go_enter Tryz.func82, Tryz.ntmps82
  go_wp2_with fail
  rw [← HA.out, ← HB.out, HZ.out]
  go_wp2_with fail
  refine HC.out.mono ?_
  intro e w1 h1
  have h2 := OwnEnd.of h1 HK.out (fun k h => by omega)
  clear h1
  obtain ⟨a, c, ps, rfl, r⟩ := h2
  have HR := Lib.hid r
  clear r
  go_wp2
  go_ret
  exact ⟨a, c, ps, rfl, HR.out⟩
def RunRel (w : World) (l : List Up) (b : Nat) (s0 : Int) (iv : Value) (wr : World) : Prop :=
  ∃ k : Nat, k ≤ l.length ∧ iv = .int .i64 k ∧ allU seqU s0 (l.take k) = true ∧ SeqSt b (endU seqU s0 (l.take k)) wr ∧ Kept (fun k => k = b) w wr
end Go.Proofs.YtabjpmkkigflmaaGreatDoor
