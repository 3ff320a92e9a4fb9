/-
  The statements of layer 16: ours, like, awake.
-/
import Derived.Test.YtnmclhgljpcjcaaSesG
namespace Go.Proofs.Ytnmclhgljpcjcaa
open Go.RowKit
set_option linter.unusedVariables false

set_option maxRecDepth 100000 in
theorem ours16 (x0 x1 x2 x3 x4 : Int) (w : World) : Calls Try.prog 42 #[.agg #[.int .i64 x0, .int .u64 x1, .int .u64 x2, .int .i64 x3, .int .u64 x4]] w fun e w' => e = .returned (.agg #[.int .i64 x0, .int .u64 x1, .int .u64 x2, .int .i64 x3, .int .u64 x4]) ∧ Kept NoB w w' := by
  go_enter Try.func42, Try.ntmps42
  go_wp2
  refine bodyPost_ret (v := .agg #[.int .i64 x0, .int .u64 x1, .int .u64 x2, .int .i64 x3, .int .u64 x4]) (by simp [results, Try.results42, go_sem]) rfl ⟨rfl, ?_⟩
  exact ((Kept.refl _ _).alloc _).alloc _
def LkRel16 (w : World) (n : Nat) (iv : Value) (wr : World) : Prop := ∃ k : Nat, k ≤ n ∧ iv = .int .i64 k ∧ Kept NoB w wr
set_option maxRecDepth 100000 in
theorem like16 (w : World) (v u : Value) (L : List Rw) (F G : Nat → Prop) (hv : RwRd w F v L) (hu : RwRd w G u L) (hl : L.length ≤ 1000) : Calls Try.prog 45 #[v, u] w fun e w' => e = .returned (.bool true) ∧ Kept NoB w w' := by
  have hnn : (L.length : Int) ≤ 1000 := by omega
  obtain ⟨a, c, rfl⟩ := hv.form
  obtain ⟨a', c', rfl⟩ := hu.form
  have HV := Lib.hid hv
  have HU := Lib.hid hu
  clear hv hu hl
  go_enter Try.func45, Try.ntmps45
  go_wp2
  go_loopw [5] (LkRel16 w L.length) (fun i _ => L.length - (RowKit.intOf i).toNat)
  case atStart => exact ⟨0, Nat.zero_le _, rfl, Kept.refl _ _⟩
  case round =>
    obtain ⟨k, hk, rfl, hK⟩ := hrel
    have hk0 : (0 : Int) ≤ (k : Int) := by omega
    have HK := Lib.hid hK
    by_cases hlt : k < L.length
    · have hk1 : (k : Int) < (L.length : Int) := by omega
      obtain ⟨b, o, rfl, _, hb, hE⟩ := (HV.out.no hK).at_ k hlt
      obtain ⟨b', o', rfl, _, hb', hD⟩ := (HU.out.no hK).at_ k hlt
      obtain ⟨y, hy⟩ : ∃ y, y = L[k] := ⟨_, rfl⟩
      rw [← hy] at hE hD
      clear hy hK
      obtain ⟨y0, y1, y2, y3, y4⟩ := y
      have HKe := Lib.hid (Kept.refl NoB wr).drew
      have HTEN : Hid (∀ w', Kept NoB wr w' → RwAt w' b (o + k * 5) ⟨y0, y1, y2, y3, y4⟩ ∧ RwAt w' b' (o' + k * 5) ⟨y0, y1, y2, y3, y4⟩) := Lib.hid (fun w' hk => ⟨hE.kept hk (fun h => h), hD.kept hk (fun h => h)⟩)
      have HT : Hid ((wr.drew).cell? ⟨b, o + k * 5, none⟩ = some (.int .i64 y0) ∧ (wr.drew).cell? ⟨b, o + k * 5 + 1, none⟩ = some (.int .u64 y1) ∧ (wr.drew).cell? ⟨b, o + k * 5 + 2, none⟩ = some (.int .u64 y2) ∧ (wr.drew).cell? ⟨b, o + k * 5 + 3, none⟩ = some (.int .i64 y3) ∧ (wr.drew).cell? ⟨b, o + k * 5 + 4, none⟩ = some (.int .u64 y4) ∧ (wr.drew).cell? ⟨b', o' + k * 5, none⟩ = some (.int .i64 y0) ∧ (wr.drew).cell? ⟨b', o' + k * 5 + 1, none⟩ = some (.int .u64 y1) ∧ (wr.drew).cell? ⟨b', o' + k * 5 + 2, none⟩ = some (.int .u64 y2) ∧ (wr.drew).cell? ⟨b', o' + k * 5 + 3, none⟩ = some (.int .i64 y3) ∧ (wr.drew).cell? ⟨b', o' + k * 5 + 4, none⟩ = some (.int .u64 y4)) := Lib.hid (by
        obtain ⟨⟨a0, a1, a2, a3, a4⟩, ⟨d0, d1, d2, d3, d4⟩⟩ := HTEN.out _ HKe.out
        exact ⟨a0, a1, a2, a3, a4, d0, d1, d2, d3, d4⟩)
      have n0 : (y0 != y0) = false := by simp
      have n1 : (y1 != y1) = false := by simp
      have n2 : (y2 != y2) = false := by simp
      have n3 : (y3 != y3) = false := by simp
      have n4 : (y4 != y4) = false := by simp
      clear hE hD
      go_wp2_with fail
      go_region_held3 (fun w' => w'.cell? ⟨b, o + k * 5, none⟩ = some (.int .i64 y0) ∧ w'.cell? ⟨b, o + k * 5 + 1, none⟩ = some (.int .u64 y1) ∧ w'.cell? ⟨b, o + k * 5 + 2, none⟩ = some (.int .u64 y2) ∧ w'.cell? ⟨b, o + k * 5 + 3, none⟩ = some (.int .i64 y3) ∧ w'.cell? ⟨b, o + k * 5 + 4, none⟩ = some (.int .u64 y4) ∧ w'.cell? ⟨b', o' + k * 5, none⟩ = some (.int .i64 y0) ∧ w'.cell? ⟨b', o' + k * 5 + 1, none⟩ = some (.int .u64 y1) ∧ w'.cell? ⟨b', o' + k * 5 + 2, none⟩ = some (.int .u64 y2) ∧ w'.cell? ⟨b', o' + k * 5 + 3, none⟩ = some (.int .i64 y3) ∧ w'.cell? ⟨b', o' + k * 5 + 4, none⟩ = some (.int .u64 y4))
        (with_reducible exact HT.out)
        ((go_at_call 42; (with_reducible refine (ours16 _ _ _ _ _ _).mono ?_); rintro e w1 ⟨rfl, hk1⟩; replace HKe := Lib.hid (HKe.out.trans hk1 (fun _ _ h => h)); replace HT := Lib.hid (by (obtain ⟨⟨a0, a1, a2, a3, a4⟩, ⟨d0, d1, d2, d3, d4⟩⟩ := HTEN.out _ HKe.out); exact (And.intro a0 (And.intro a1 (And.intro a2 (And.intro a3 (And.intro a4 (And.intro d0 (And.intro d1 (And.intro d2 (And.intro d3 d4)))))))))); clear hk1))
      all_goals
        go_wp2
        exact ⟨⟨k + 1, by omega, by go_num, HK.out.trans HKe.out (fun _ _ h => h)⟩, by simp [RowKit.intOf]; omega⟩
    · have hkn : k = L.length := by omega
      subst hkn
      clear hK
      go_wp2
      go_ret
      exact ⟨rfl, HK.out⟩
theorem judR_one (n m : Int) (h : n ≠ 0) (k ch ep : Int) : judR [⟨2, m, k, ch, ep⟩] 2 n = if m < n then 0 else if m = n then 1 else 2 := by
  unfold judR numR
  rw [if_neg (by omega), show atR [(⟨2, m, k, ch, ep⟩ : Rw)] 2 = some ⟨2, m, k, ch, ep⟩ from by simp [atR]]
  rfl
set_option maxRecDepth 100000 in
theorem awake16 (w : World) : Calls Try.prog 49 #[] w fun e w' => e = .returned (.bool true) ∧ Kept NoB w w' := by
  go_enter Try.func49, Try.ntmps49
  go_wp2_with fail
  refine (SNew_any w).mono ?_
  rintro e w1 ⟨rfl, ht, hk⟩
  have HT := Lib.hid ht
  have HK := Lib.hid hk
  clear ht hk
  go_wp2_with fail
  refine (SSet_any w1 w.heap.size 2 5 1 0 0 [] HT.out (by unfold FitR; simp only; omega)).mono ?_
  rintro e w2 ⟨rfl, ht, hk⟩
  have hx : setX [] ⟨2, 5, 1, 0, 0⟩ = 0 := by
    unfold setX
    rw [if_neg (by unfold FineR; simp), if_neg (by show ¬ judR [] 2 5 ≠ 0; unfold judR numR; rw [if_neg (by omega)]; simp [atR, rw0])]
  have hs : setL [] ⟨2, 5, 1, 0, 0⟩ = [⟨2, 5, 1, 0, 0⟩] := by unfold setL; rw [hx, if_pos rfl]; rfl
  rw [hs] at ht
  rw [hx]
  have HT2 := Lib.hid ht
  have HK2 := Lib.hid (HK.out.trans (T := fun k => k = w.heap.size) hk (fun i hi h => by omega))
  have H6 := Lib.hid (SJudge_any w2 w.heap.size 2 6 _ HT2.out (by omega))
  have H5 := Lib.hid (SJudge_any w2 w.heap.size 2 5 _ HT2.out (by omega))
  have H4 := Lib.hid (SJudge_any w2 w.heap.size 2 4 _ HT2.out (by omega))
  rw [judR_one 6 5 (by omega), if_pos (by omega)] at H6
  rw [judR_one 5 5 (by omega), if_neg (by omega), if_pos (by omega)] at H5
  rw [judR_one 4 5 (by omega), if_neg (by omega), if_neg (by omega)] at H4
  clear hx hs ht hk
  go_wp2_with fail
  refine H6.out.mono ?_
  rintro e w' ⟨rfl, rfl⟩
  go_wp2_with fail
  refine H5.out.mono ?_
  rintro e w' ⟨rfl, rfl⟩
  go_wp2_with fail
  refine H4.out.mono ?_
  rintro e w' ⟨rfl, rfl⟩
  go_wp2
  go_ret
  exact ⟨rfl, HK2.out⟩
end Go.Proofs.Ytnmclhgljpcjcaa
