/-
  What bytes.Equal and Fits do.
-/
import Derived.Test.YtpcacndbagiajaaCrcS
import Derived.Laws.BytesArg
import Derived.Lib.Bytes
namespace Go.Proofs.Ytpcacndbagiajaa
open Go.RowKit

theorem BSl.conv {P : Program} {w : World} {F : Nat → Prop} {v : Value} {l : List Int} (h : BSl w F v l) (src e dst : TypeId) (hs : P.underlying src = some (.slice e)) (he : P.underlying e = some (.int .u8)) (hd : P.underlying dst = some .string) :
    (convert src dst v).run P w = .ok (.string (strOfNums l)) w := by
  obtain ⟨a, cap, rfl, hc, hm, hn, hr⟩ := h
  by_cases hl : l.length = 0
  · obtain rfl : l = [] := List.eq_nil_of_length_eq_zero hl
    show (convert src dst (.slice a 0 cap)).run P w = .ok (.string ByteArray.empty) w
    rw [run_convert_bytes_string w src dst e _ 0 cap hs he hd]
    cases a <;> simp [Conv.bytesToString, loadCells]
    all_goals rfl
  · obtain ⟨b, o, rfl, _⟩ := hr.at_ (j := 0) (by omega)
    exact run_convert_bytes_arg (P := P) w src e hs he b o l.length cap l rfl (fun i hi => by obtain ⟨b', o', e1, _, _, hc⟩ := hr.at_ hi; cases e1; exact hc) dst hd
theorem bytesOf_inj : ∀ l m : List Int, IsB l → IsB m → Lib.bytesOf l = Lib.bytesOf m → l = m
  | [], [], _, _, _ => rfl
  | [], y :: m, _, _, h => by simp [Lib.bytesOf] at h
  | x :: l, [], _, _, h => by simp [Lib.bytesOf] at h
  | x :: l, y :: m, h1, h2, h => by
    simp only [Lib.bytesOf, List.map_cons, List.cons.injEq] at h
    have hx := h1 x (by simp)
    have hy := h2 y (by simp)
    have e := congrArg UInt8.toNat h.1
    simp at e
    have : x = y := by omega
    rw [this, bytesOf_inj l m (fun z hz => h1 z (List.mem_cons_of_mem _ hz)) (fun z hz => h2 z (List.mem_cons_of_mem _ hz)) h.2]
set_option maxRecDepth 100000 in
theorem Equal_any (v u : Value) (l m : List Int) (F G : Nat → Prop) (w : World) (h : BSl w F v l) (k : BSl w G u m) :
    Calls Try.prog 68 #[v, u] w fun e w' => e = .returned (.bool (decide (l = m))) ∧ w = w' := by
  have c1 := h.conv (P := Try.prog) 22 5 9 Try.underlying22 Try.underlying5 Try.underlying9
  have c2 := k.conv (P := Try.prog) 22 5 9 Try.underlying22 Try.underlying5 Try.underlying9
  have HB := Lib.hid h.isB
  have HC := Lib.hid k.isB
  clear h k
  go_enter Try.func68, Try.ntmps68
  go_wp2
  go_ret
  refine ⟨?_, rfl⟩
  show Ending.returned (Value.bool ((strOfNums l).toList == (strOfNums m).toList)) = _
  rw [Lib.strOfNums_toList, Lib.strOfNums_toList]
  congr 2
  by_cases e : l = m
  · subst e; simp
  · rw [decide_eq_false e]
    have := mt (bytesOf_inj l m HB.out HC.out) e
    simpa using this

/-- What fits. -/
def fitsB (l : List Int) : Bool := decide (4 ≤ l.length) && decide (le4 (more 0 (l.take (l.length - 4))) = l.drop (l.length - 4))

set_option maxRecDepth 100000 in
/-- Fits. -/
theorem Fits_any (g : Nat) (m : Bool) (v : Value) (l : List Int) (F : Nat → Prop) (w : World) (h : TabAt w g m) (hb : BSl w F v l) (hF : ¬ F g) (hl : l.length ≤ 100000) :
    Calls Try.prog 31 #[.pointer (some ⟨g, 0, none⟩), v] w fun e w' => e = .returned (.bool (fitsB l)) ∧ TabAt w' g true ∧ Kept (One g) w w' := by
  have HB := Lib.hid hb
  have HT := Lib.hid h
  have hg := h.lt
  obtain ⟨a, cap, rfl, hc, hm, hn, hr⟩ := hb
  have HN := Lib.hid hn
  have HR := Lib.hid hr
  have hFG : ∀ k, F k → ¬ One g k := fun k hk h => by have e : k = g := h; rw [e] at hk; exact hF hk
  clear h hn hr
  have HM := Lib.hid hm
  unfold maxLen at hm
  by_cases h4 : 4 ≤ l.length
  · have hw4 : IntKind.i64.wrap ((l.length : Int) - 4) = ((l.length - 4 : Nat) : Int) := by rw [IntWalk.i64_in _ (by omega)]; omega
    obtain ⟨n, hn4⟩ : ∃ n, n = l.length - 4 := ⟨_, rfl⟩
    rw [← hn4] at hw4
    have HN4 := Lib.hid hn4
    have hn0 : (0 : Int) ≤ (n : Int) := by omega
    have hnl : n ≤ cap := by omega
    have hnl2 : n ≤ l.length := by omega
    have e4 : l.length - n = 4 := by omega
    clear hn4
    go_enter Try.func31, Try.ntmps31
    go_wp2_with fail
    refine (ready_any g m _ HT.out).mono ?_
    rintro e w1 ⟨rfl, ht1, hk1⟩
    have HT1 := Lib.hid ht1
    have HK1 := Lib.hid hk1
    clear ht1 hk1
    go_wp2_with fail
    have HBt := Lib.hid ((bsl_take hc HM.out HN.out HR.out hnl2).kept HK1.out hFG)
    refine (COf_any g true _ 1 (fun _ => l.take n) (fun k => F k ∨ k = w1.heap.size) _ (HT1.out.kept ((Kept.refl NoB _).alloc _) (fun h => h)) (PAt.one HBt.out _) (fun h => by have := HK1.out.size; rcases h with h | h; exact hF h; omega)).mono ?_
    rintro e w2 ⟨rfl, ht2, hk2⟩
    rw [catL_one]
    have hk2' : Kept (One g) w1 w2 := ((Kept.refl _ _).alloc _).trans hk2 (fun _ _ h => h)
    have hlt : more 0 (l.take n) < 4294967296 := more_lt _ _ (by decide) (HB.out.isB.take n)
    have HT2 := Lib.hid ht2
    have HK2 := Lib.hid (HK1.out.trans hk2' (fun _ _ h => h))
    obtain ⟨q, hq⟩ : ∃ q, q = more 0 (l.take n) := ⟨_, rfl⟩
    rw [← hq] at hlt ⊢
    have HQ := Lib.hid hq
    clear hq ht2 hk2 hk2'
    go_wp2_with fail
    refine (lowest_any q _ hlt).mono ?_
    rintro e w3 ⟨rfl, hk3⟩
    have HK3 := Lib.hid hk3
    clear hk3
    have HL4 := Lib.hid (le4_bsl w3 q 119)
    have hbd := ((bsl_drop (n := n) hc HM.out HN.out HR.out).kept HK2.out hFG).kept HK3.out (fun _ _ h => h)
    rw [e4] at hbd
    have HBd := Lib.hid hbd
    clear hbd
    go_wp2_with fail
    go_region_law ((go_simp; go_at_call 68; refine (Equal_any _ _ (le4 q) (l.drop n) _ _ _ (by exact HL4.out.kept (S := NoB) ((Kept.refl _ _).drew) (fun _ _ h => h)) (by exact HBd.out.kept (S := NoB) (((Kept.refl _ w3).alloc _).drew) (fun _ _ h => h))).mono ?_; rintro e w5 ⟨rfl, rfl⟩))
    all_goals go_wp2
    all_goals go_ret
    all_goals
      refine ⟨?_, ?_, ((HK2.out.trans HK3.out (fun _ _ h => h.elim)).alloc _).drew⟩
      · show Ending.returned (Value.bool (decide (le4 q = l.drop n))) = _
        unfold fitsB
        rw [HQ.out, HN4.out, decide_eq_true h4, Bool.true_and]
      · exact (HT2.out.kept HK3.out (fun h => h)).kept (S := NoB) ((Kept.refl _ w3).alloc _).drew (fun h => h)
  · have hw4 : IntKind.i64.wrap ((l.length : Int) - 4) = (l.length : Int) - 4 := IntWalk.i64_in _ (by omega)
    have hneg : (l.length : Int) - 4 < 0 := by omega
    have hf : fitsB l = false := by unfold fitsB; rw [decide_eq_false h4]; rfl
    rw [hf]
    go_enter Try.func31, Try.ntmps31
    go_wp2_with fail
    refine (ready_any g m _ HT.out).mono ?_
    rintro e w1 ⟨rfl, ht1, hk1⟩
    go_wp2
    go_ret
    exact ⟨rfl, ht1, hk1⟩
end Go.Proofs.Ytpcacndbagiajaa
