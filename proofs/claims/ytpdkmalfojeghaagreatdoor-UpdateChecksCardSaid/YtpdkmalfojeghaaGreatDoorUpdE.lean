/-
  Package update: Copy, Batch, Fits, Runs.
-/
import Derived.Test.YtpdkmalfojeghaaGreatDoorUpdD
namespace Go.Proofs.YtpdkmalfojeghaaGreatDoor
open Go.RowKit
set_option linter.unusedVariables false
set_option linter.unusedSimpArgs false

/-- What Copy, Batch and Fits tell. -/
def OwnEnd (w : World) (out : List Up) (e : Ending) (w' : World) : Prop :=
  ∃ a c ps, e = .returned (.slice a out.length c) ∧ UOw 43 w.heap.size w' (.slice a out.length c) ps ∧ ps.map Prod.fst = out ∧ DatO w' (fun k => w.heap.size ≤ k) ps ∧ Kept NoB w w'
theorem OwnEnd.of {w w1 w' : World} {T : Nat → Prop} {St : Int → World → Prop} {s : Int} {out : List Up} {e : Ending} (h : SelEnd w1 T St s out e w') (hk : Kept NoB w w1) (hT : ∀ k, T k → w.heap.size ≤ k) : OwnEnd w out e w' := by
  obtain ⟨a, c, ps, h1, h2, h3, h4, _, h5⟩ := h
  exact ⟨a, c, ps, h1, h2.mono hk.size, h3, h4.mono (fun k _ h => by have := hk.size; omega), hk.trans h5 (fun i hi ht => by have := hT i ht; omega)⟩
theorem OwnEnd.us {w w' : World} {out : List Up} {e : Ending} (h : OwnEnd w out e w') : ∃ a c, e = .returned (.slice a out.length c) ∧ UsAt w' (fun k => w.heap.size ≤ k) (.slice a out.length c) out ∧ Kept NoB w w' := by
  obtain ⟨a, c, ps, h1, h2, h3, h4, h5⟩ := h
  exact ⟨a, c, h1, h3 ▸ h2.us (fun k hk => (h2.base k hk).1) h4.u, h5⟩
set_option maxRecDepth 100000 in
theorem sequence_any (w : World) (s : Int) : Calls Tryz.prog 141 #[.int .u64 s] w fun e w' => e = .returned (.func (.func 222) #[] #[.pointer (some ⟨w.heap.size, 0, none⟩)]) ∧ w' = w.alloc (.cells #[.int .u64 s] 22) := by
  have hmf : ∀ (fn : Fn) (first cap : Array Value) (w : World), (Instr.makeFunc fn first cap).run Tryz.prog w = .ok (.func fn first cap) w := fun _ _ _ _ => rfl
  go_enter Tryz.func141, Tryz.ntmps141
  go_wp2
  go_ret
  exact ⟨rfl, rfl⟩
theorem seq_new (w : World) (s : Int) (h0 : 0 ≤ s) (h1 : s ≤ 18446744073709551615) : SeqSt w.heap.size s (w.alloc (.cells #[.int .u64 s] 22)) := ⟨heap_alloc_new w _, h0, h1⟩
def RunRel (w : World) (l : List Up) (b : Nat) (s0 : Int) (iv : Value) (wr : World) : Prop :=
  ∃ k : Nat, k ≤ l.length ∧ iv = .int .i64 k ∧ allU seqU s0 (l.take k) = true ∧ SeqSt b (endU seqU s0 (l.take k)) wr ∧ Kept (fun k => k = b) w wr
set_option maxRecDepth 100000 in
set_option maxHeartbeats 1000000 in
theorem Runs_any (w : World) (v : Value) (l : List Up) (s : Int) (F : Nat → Prop) (h : UsAt w F v l) (hF : ∀ k, F k → k < w.heap.size) (hfit : FitsU l) (hl : l.length ≤ 1000) (h0 : 0 ≤ s) (h1 : s ≤ 18446744073709551615) : Calls Tryz.prog 79 #[v, .int .u64 s] w fun e w' => e = .returned (.bool (allU seqU s l)) ∧ Kept NoB w w' := by
  obtain ⟨a, c, rfl⟩ := h.form
  have hk := (Kept.refl NoB w).alloc (.cells #[.int .u64 s] 22)
  have hsz : w.heap.size < (w.alloc (.cells #[.int .u64 s] 22)).heap.size := by simp
  obtain ⟨W, hW⟩ : ∃ W, W = w.alloc (.cells #[.int .u64 s] 22) := ⟨_, rfl⟩
  have hsn := seq_new w s h0 h1
  rw [← hW] at hk hsz hsn
  have HQ := Lib.hid ((sequence_any w s).mono fun e w' h => show e = .returned (.func (.func 222) #[] #[.pointer (some ⟨w.heap.size, 0, none⟩)]) ∧ w' = W from ⟨h.1, h.2.trans hW.symm⟩)
  have HU := Lib.hid (h.kept hk (fun _ _ h => h))
  have HT := Lib.hid (seq_takes W F l w.heap.size s hF hsz hfit)
  have HS := Lib.hid hsn
  have HK := Lib.hid hk
  have hll : (l.length : Int) ≤ 1000 := by omega
  have hent : ∀ (args : Array Value) (w : World), Sem.run Tryz.prog (callFunc 222 args) w = .ok (.enter 222 args) w := ent_seq
  clear h hF hfit hl h0 h1 hk hsz hW hsn
  go_enter Tryz.func79, Tryz.ntmps79
  go_wp2_with fail
  refine HQ.out.mono ?_
  rintro e w1 ⟨rfl, rfl⟩
  go_wp2
  go_loopw [12] (RunRel w1 l w.heap.size s) (fun i _ => l.length - (RowKit.intOf i).toNat)
  case atStart => exact ⟨0, Nat.zero_le _, rfl, rfl, HS.out, Kept.refl _ _⟩
  case round =>
    obtain ⟨k, hk, rfl, hall, hst, hK⟩ := hrel
    have HA := Lib.hid hall
    have HST := Lib.hid hst
    have HKR := Lib.hid hK
    have hk0 : (0 : Int) ≤ (k : Int) := by omega
    have hur := HU.out.kept hK (fun k hf => (HT.out.far k hf).1)
    clear hall hst hK
    by_cases hlt : k < l.length
    · have hk1 : (k : Int) < (l.length : Int) := by omega
      have HSS := Lib.hid (takeU hlt)
      have HM : Hid (nthU l k ∈ l) := Lib.hid (by rw [nthU_at hlt]; exact List.getElem_mem _)
      obtain ⟨b, o, rfl, hFb, hb, u, e0, e1, e2, e3, e4, e5, e6, hdd⟩ := hur.at_ hlt
      obtain ⟨⟨y0, y1, y2, y3, y4, y5, y6⟩, hy⟩ : ∃ y, y = nthU l k := ⟨_, rfl⟩
      rw [← hy] at e0 e1 e2 e3 e4 e5 hdd HSS HM
      simp only at e0 e1 e2 e3 e4 e5 hdd
      have HDD := Lib.hid hdd
      obtain ⟨va, vc, rfl, _⟩ := hdd
      clear hur hy hFb hb
      have hka := (Kept.refl NoB wr).alloc (.cells #[.int .u64 y0, .int .i64 y1, .int .u64 y2, .int .i64 y3, .int .u32 y4, .int .u64 y5, .slice va y6.length vc] 43)
      have HB := Lib.hid (heap_alloc_new wr (.cells #[.int .u64 y0, .int .i64 y1, .int .u64 y2, .int .i64 y3, .int .u32 y4, .int .u64 y5, .slice va y6.length vc] 43))
      have HUV := Lib.hid (show UpV (wr.alloc (.cells #[.int .u64 y0, .int .i64 y1, .int .u64 y2, .int .i64 y3, .int .u32 y4, .int .u64 y5, .slice va y6.length vc] 43)) F (.agg #[.int .u64 y0, .int .i64 y1, .int .u64 y2, .int .i64 y3, .int .u32 y4, .int .u64 y5, .slice va y6.length vc]) ⟨y0, y1, y2, y3, y4, y5, y6⟩ from ⟨_, rfl, HDD.out.kept hka (fun _ _ h => h)⟩)
      have HST2 := Lib.hid (HT.out.keep _ _ _ NoB HST.out hka (fun _ _ h => h))
      have HKT := Lib.hid (HKR.out.trans hka (fun _ _ h => absurd h (fun h => h)))
      have HC := Lib.hid (HT.out.call _ _ _ _ ⟨k, hlt, rfl⟩ HM.out HUV.out HST2.out HKT.out)
      have HSN := Lib.hid (allU_snoc seqU s (l.take k) ⟨y0, y1, y2, y3, y4, y5, y6⟩)
      have HEN := Lib.hid (endU_snoc seqU s (l.take k) ⟨y0, y1, y2, y3, y4, y5, y6⟩)
      obtain ⟨⟨tb, tn⟩, ht⟩ : ∃ r, r = seqU (endU seqU s (l.take k)) ⟨y0, y1, y2, y3, y4, y5, y6⟩ := ⟨_, rfl⟩
      rw [← ht] at HC HSN HEN
      clear ht hka
      go_wp2_with fail
      refine HC.out.mono ?_
      rintro e w2 ⟨rfl, hs2, hk2⟩
      have HS2 := Lib.hid hs2
      have HK2 := Lib.hid (HKT.out.trans hk2 (fun _ _ h => h))
      clear hs2 hk2
      cases tb with
      | false =>
        go_wp2
        go_ret
        have hno : allU seqU s l = false := allU_no seqU s l k hlt (by rw [HSS.out, HSN.out, HA.out]; rfl)
        exact ⟨by rw [hno]; rfl, HK.out.trans HK2.out (fun i hi h => by omega)⟩
      | true =>
        go_wp2
        exact ⟨⟨k + 1, by omega, by go_num, by rw [HSS.out, HSN.out, HA.out]; rfl, by rw [HSS.out, HEN.out]; exact HS2.out, HK2.out⟩, by simp [RowKit.intOf]; omega⟩
    · obtain rfl : k = l.length := by omega
      clear hur
      go_wp2
      go_ret
      have hA := HA.out
      rw [List.take_length] at hA
      exact ⟨by rw [hA]; rfl, HK.out.trans HKR.out (fun i hi h => by omega)⟩
end Go.Proofs.YtpdkmalfojeghaaGreatDoor
