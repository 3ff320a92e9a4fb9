/-
  Layer 29: Above and Under of the package, and the chapter's; the page's example.
-/
import Derived.Test.YtokafgleejcbgaaGreatDoorDirF
import Derived.BigRegion
import Derived.Deep.RegionLaw
namespace Go.Proofs.YtokafgleejcbgaaGreatDoor
open Go.RowKit
set_option linter.unusedVariables false

/-- What stands above a path. -/
def abv29 (l : List UInt8) : List UInt8 × List UInt8 × Int := if pathE l = 0 ∧ pathNs l ≠ [] then (jn29 ((pathNs l).take ((pathNs l).length - 1)), (pathNs l).getD ((pathNs l).length - 1) [], 0) else ([], [], 18)
def AbvE (r : List UInt8 × List UInt8 × Int) (w : World) (e : Ending) (w' : World) : Prop := e = .returned (.tuple #[.string ⟨r.1.toArray⟩, .string ⟨r.2.1.toArray⟩, .int .i64 r.2.2]) ∧ Kept NoB w w'
theorem pathNs_short (l : List UInt8) : (pathNs l).length ≤ 8 ∧ ∀ x ∈ pathNs l, x.length ≤ 11 := by
  unfold pathNs
  split
  · rename_i h
    rcases h.1.2 with h2 | h2
    · exact absurd h2 h.2
    · exact ⟨h2.1, fun x hx => (h2.2 x hx).1.2⟩
  · exact ⟨by simp, fun x hx => by cases hx⟩
theorem flat_short29 (l : List (List UInt8)) (k : Nat) (h : ∀ x ∈ l, x.length ≤ k) : (l.flatMap (fun x => (47 : UInt8) :: x)).length ≤ l.length * (k + 1) := by
  induction l with
  | nil => simp
  | cons x l ih =>
    have h1 := h x (by simp)
    have h2 := ih (fun y hy => h y (by simp [hy]))
    rw [List.flatMap_cons, List.length_append, List.length_cons, List.length_cons, Nat.succ_mul]
    omega
theorem join_short29 (l : List (List UInt8)) (k : Nat) (h : ∀ x ∈ l, x.length ≤ k) : (Lib.join l [47]).length ≤ l.length * (k + 1) := by
  by_cases h0 : l = []
  · rw [h0]; simp [Lib.join]
  · have h1 := flat_short29 l k h
    rw [← jn_flat l h0] at h1
    unfold jn29 at h1
    rw [List.length_cons] at h1
    omega
theorem pathE_cases (l : List UInt8) : pathE l = 0 ∨ pathE l = 18 := by unfold pathE; split <;> simp
set_option maxRecDepth 100000 in
set_option maxHeartbeats 2000000 in
theorem vAbove_any (s : ByteArray) (w : World) (hs : s.size ≤ 1000000) (hv : Lng w) : Calls Tryz.prog 35 #[.string s] w (AbvE (abv29 s.data.toList) w) := by
  have HSP := Lib.hid (vSplit_any s w hs hv)
  have hsh := pathNs_short s.data.toList
  unfold abv29
  have hec := pathE_cases s.data.toList
  obtain ⟨E, hE⟩ : ∃ E, E = pathE s.data.toList := ⟨_, rfl⟩
  obtain ⟨NS, hNS⟩ : ∃ N, N = pathNs s.data.toList := ⟨_, rfl⟩
  rw [← hE] at hec
  rw [← hNS] at hsh
  rw [← hE, ← hNS] at HSP ⊢
  clear hE hNS
  by_cases h0 : E = 0
  · subst h0
    by_cases hn : NS = []
    · rw [if_neg (fun h => h.2 hn)]
      have g0 : ((NS.length : Int) == 0) = true := by rw [hn]; rfl
      clear hsh hec
      go_enter Tryz.func35, Tryz.ntmps35
      go_wp2_with (go_at_call 49; refine HSP.out.mono ?_; rintro e w2 ⟨v2, rfl, hv2, hk2⟩; have HT2 := Lib.hid hv2; have HK2 := Lib.hid hk2; (obtain ⟨a2, c2, rfl, hcc, _⟩ := hv2); clear hk2)
      exact bodyPost_ret (v := .tuple #[.string ⟨#[]⟩, .string ⟨#[]⟩, .int .i64 18]) (by simp [results, Tryz.results35, go_sem]) rfl ⟨rfl, HK2.out⟩
    · rw [if_pos ⟨rfl, hn⟩]
      have hp : 0 < NS.length := by cases NS with | nil => exact absurd rfl hn | cons _ _ => simp
      have g0 : ((NS.length : Int) == 0) = false := by simpa using hn
      obtain ⟨n, hnn⟩ : ∃ n, NS.length = n + 1 := ⟨NS.length - 1, by omega⟩
      have g1 : IntKind.i64.wrap ((NS.length : Int) - 1) = (n : Int) := by rw [show (NS.length : Int) - 1 = (n : Int) by omega]; exact IntWalk.i64_in _ (by omega)
      have g5 : (NS.length : Int) - 1 = (n : Int) := by omega
      have g6 : IntKind.i64.wrap (n : Int) = (n : Int) := IntWalk.i64_in _ (by omega)
      have g3 : (0 : Int) ≤ (n : Int) := by omega
      have g4 : (n : Int) < (NS.length : Int) := by omega
      have hn1 : NS.length - 1 = n := by omega
      rw [hn1]
      have hmem : ∀ x ∈ NS.take n, x.length ≤ 11 := fun x hx => hsh.2 x (List.mem_of_mem_take hx)
      have htl : (NS.take n).length = n := by rw [List.length_take]; omega
      have HJ := Lib.hid (fun v w (h : TSl w (fun _ => True) v (NS.take n)) => vJoin_any v (NS.take n) _ w h (by have := join_short29 (NS.take n) 11 hmem; rw [htl] at this; omega) (by omega))
      have HNN := Lib.hid hnn
      clear hsh hec hmem htl hn1 hn hnn
      go_enter Tryz.func35, Tryz.ntmps35
      go_wp2_with (go_at_call 49; refine HSP.out.mono ?_; rintro e w2 ⟨v2, rfl, hv2, hk2⟩; have HT2 := Lib.hid hv2; have HK2 := Lib.hid hk2; (obtain ⟨a2, c2, rfl, hcc, _⟩ := hv2); clear hk2)
      obtain ⟨b, o, hb, _, _, hc⟩ := HT2.out.at_ (show n < NS.length by have := HNN.out; omega)
      subst hb
      have HTK := Lib.hid (HT2.out.take n (by have := HNN.out; omega)).any
      have hcap : (n : Int) ≤ (c2 : Int) := by have := HNN.out; omega
      have HKc := Lib.hid (Kept.refl NoB w2)
      go_region_held3 (fun w' => w'.cell? ⟨b, o + n, none⟩ = some (.string ⟨(NS.getD n []).toArray⟩))
        (first
          | exact cell_drew hc
          | exact HKc.out.cell (p := ⟨b, o + n, none⟩) (fun h => h) hc
          | go_keep)
        (first
          | (go_at_call 50; refine (HJ.out _ _ (by first | exact HTK.out | exact HTK.out.no (Kept.refl NoB _).drew)).mono ?_; rintro e w3 ⟨rfl, hk3⟩; replace HKc := Lib.hid (by first | exact HKc.out.trans hk3 (fun _ _ h => h) | exact HKc.out.drew.trans hk3 (fun _ _ h => h)); clear hk3))
      all_goals
        go_wp2
        exact bodyPost_ret (v := .tuple #[.string ⟨(jn29 (NS.take n)).toArray⟩, .string ⟨(NS.getD n []).toArray⟩, .int .i64 0]) (by simp [results, Tryz.results35, go_sem]) rfl ⟨rfl, HK2.out.trans (by first | exact HKc.out | exact HKc.out.drew | exact HKc.out.drewN _) (fun _ _ h => h)⟩
  · rw [if_neg (fun h => h0 h.1)]
    obtain rfl : E = 18 := hec.resolve_left h0
    clear hsh hec h0
    go_enter Tryz.func35, Tryz.ntmps35
    go_wp2_with (go_at_call 49; refine HSP.out.mono ?_; rintro e w2 ⟨v2, rfl, hv2, hk2⟩; have HT2 := Lib.hid hv2; have HK2 := Lib.hid hk2; (obtain ⟨a2, c2, rfl, hcc, _⟩ := hv2); clear hk2)
    exact bodyPost_ret (v := .tuple #[.string ⟨#[]⟩, .string ⟨#[]⟩, .int .i64 18]) (by simp [results, Tryz.results35, go_sem]) rfl ⟨rfl, HK2.out⟩
/-- Is a path under another one? -/
def und29 (l m : List UInt8) : Bool := decide (pathE l = 0 ∧ pathE m = 0 ∧ (pathNs m).length ≤ (pathNs l).length ∧ (pathNs l).take (pathNs m).length = pathNs m)
set_option maxRecDepth 100000 in
set_option maxHeartbeats 2000000 in
theorem vUnder_any (s t : ByteArray) (w : World) (hs : s.size ≤ 1000000) (ht : t.size ≤ 1000000) (hv : Lng w) : Calls Tryz.prog 51 #[.string s, .string t] w fun e w' => e = .returned (.bool (und29 s.data.toList t.data.toList)) ∧ Kept NoB w w' := by
  have HS1 := Lib.hid (fun w (hv : Lng w) => vSplit_any s w hs hv)
  have HS2 := Lib.hid (fun w (hv : Lng w) => vSplit_any t w ht hv)
  have HVV := Lib.hid hv
  have he1 := pathE_cases s.data.toList
  have he2 := pathE_cases t.data.toList
  have hu : und29 s.data.toList t.data.toList = (decide (pathE s.data.toList = 0 ∧ pathE t.data.toList = 0 ∧ (pathNs t.data.toList).length ≤ (pathNs s.data.toList).length ∧ (pathNs s.data.toList).take (pathNs t.data.toList).length = pathNs t.data.toList)) := rfl
  rw [hu]
  clear hu
  obtain ⟨E, hE⟩ : ∃ E, E = pathE s.data.toList := ⟨_, rfl⟩
  obtain ⟨NA, hNA⟩ : ∃ N, N = pathNs s.data.toList := ⟨_, rfl⟩
  obtain ⟨E2, hE2⟩ : ∃ E, E = pathE t.data.toList := ⟨_, rfl⟩
  obtain ⟨NB, hNB⟩ : ∃ N, N = pathNs t.data.toList := ⟨_, rfl⟩
  rw [← hE] at he1
  rw [← hE2] at he2
  rw [← hE, ← hNA] at HS1
  rw [← hE2, ← hNB] at HS2
  rw [← hE, ← hE2, ← hNA, ← hNB]
  clear hE hNA hE2 hNB
  by_cases h0 : E = 0
  · subst h0
    by_cases h1 : E2 = 0
    · subst h1
      by_cases hle : NB.length ≤ NA.length
      · have g1 : decide ((NA.length : Int) < (NB.length : Int)) = false := decide_eq_false (by omega)
        have g2 : decide (NA.length < NB.length) = false := decide_eq_false (by omega)
        have g3 : (NB.length : Int) ≤ (NA.length : Int) := by omega
        obtain ⟨d, hd⟩ : ∃ d, d = decide (NA.take NB.length = NB) := ⟨_, rfl⟩
        have hr : decide ((0 : Int) = 0 ∧ (0 : Int) = 0 ∧ NB.length ≤ NA.length ∧ NA.take NB.length = NB) = d := by
          rw [hd]; simp [hle]
        rw [hr]
        have HD := Lib.hid hd
        clear hr hd he1 he2
        go_enter Tryz.func51, Tryz.ntmps51
        go_wp2_with (first | (have hm := MK1; clear hm; go_at_call 49; refine (HS2.out _ (HVV.out.no HK1.out)).mono ?_; rintro e w3 ⟨v3, rfl, hv3, hk3⟩; have HT2 := Lib.hid hv3.any; have HT1' := Lib.hid (HT1.out.no hk3); have HK2 := Lib.hid (HK1.out.trans hk3 (fun _ _ h => h)); (obtain ⟨a2, c2, rfl, hcc2, _⟩ := hv3); clear hk3 MK1) | (go_at_call 49; refine (HS1.out _ HVV.out).mono ?_; rintro e w2 ⟨v2, rfl, hv2, hk2⟩; have HT1 := Lib.hid hv2.any; have HK1 := Lib.hid hk2; (obtain ⟨a1, c1, rfl, hcc1, _⟩ := hv2); have MK1 := Lib.hid trivial; clear hk2))
        have hcap : (NB.length : Int) ≤ (c1 : Int) := by omega
        go_wp2_with (go_at_call 62; refine (EqualT29_any _ _ (NA.take NB.length) NB _ _ _ (HT1'.out.take NB.length hle) HT2.out).mono ?_; rintro e w4 ⟨rfl, hk4⟩; have HK3 := Lib.hid (HK2.out.trans hk4 (fun _ _ h => h)); clear hk4)
        go_ret
        exact ⟨ret_b29 (by rw [HD.out]), HK3.out⟩
      · have g1 : (NA.length : Int) < (NB.length : Int) := by omega
        rw [decide_eq_false (fun h => hle h.2.2.1)]
        clear hle he1 he2
        go_enter Tryz.func51, Tryz.ntmps51
        go_wp2_with (first | (have hm := MK1; clear hm; go_at_call 49; refine (HS2.out _ (HVV.out.no HK1.out)).mono ?_; rintro e w3 ⟨v3, rfl, hv3, hk3⟩; have HT2 := Lib.hid hv3.any; have HT1' := Lib.hid (HT1.out.no hk3); have HK2 := Lib.hid (HK1.out.trans hk3 (fun _ _ h => h)); (obtain ⟨a2, c2, rfl, hcc2, _⟩ := hv3); clear hk3 MK1) | (go_at_call 49; refine (HS1.out _ HVV.out).mono ?_; rintro e w2 ⟨v2, rfl, hv2, hk2⟩; have HT1 := Lib.hid hv2.any; have HK1 := Lib.hid hk2; (obtain ⟨a1, c1, rfl, hcc1, _⟩ := hv2); have MK1 := Lib.hid trivial; clear hk2))
        go_ret
        exact ⟨rfl, HK2.out⟩
    · obtain rfl : E2 = 18 := he2.resolve_left h1
      rw [decide_eq_false (fun h => h1 h.2.1)]
      clear h1 he1 he2
      go_enter Tryz.func51, Tryz.ntmps51
      go_wp2_with (first | (have hm := MK1; clear hm; go_at_call 49; refine (HS2.out _ (HVV.out.no HK1.out)).mono ?_; rintro e w3 ⟨v3, rfl, hv3, hk3⟩; have HT2 := Lib.hid hv3.any; have HT1' := Lib.hid (HT1.out.no hk3); have HK2 := Lib.hid (HK1.out.trans hk3 (fun _ _ h => h)); (obtain ⟨a2, c2, rfl, hcc2, _⟩ := hv3); clear hk3 MK1) | (go_at_call 49; refine (HS1.out _ HVV.out).mono ?_; rintro e w2 ⟨v2, rfl, hv2, hk2⟩; have HT1 := Lib.hid hv2.any; have HK1 := Lib.hid hk2; (obtain ⟨a1, c1, rfl, hcc1, _⟩ := hv2); have MK1 := Lib.hid trivial; clear hk2))
      go_ret
      exact ⟨rfl, HK2.out⟩
  · obtain rfl : E = 18 := he1.resolve_left h0
    rw [decide_eq_false (fun h => h0 h.1)]
    clear h0 he1 he2
    go_enter Tryz.func51, Tryz.ntmps51
    go_wp2_with (first | (have hm := MK1; clear hm; go_at_call 49; refine (HS2.out _ (HVV.out.no HK1.out)).mono ?_; rintro e w3 ⟨v3, rfl, hv3, hk3⟩; have HT2 := Lib.hid hv3.any; have HT1' := Lib.hid (HT1.out.no hk3); have HK2 := Lib.hid (HK1.out.trans hk3 (fun _ _ h => h)); (obtain ⟨a2, c2, rfl, hcc2, _⟩ := hv3); clear hk3 MK1) | (go_at_call 49; refine (HS1.out _ HVV.out).mono ?_; rintro e w2 ⟨v2, rfl, hv2, hk2⟩; have HT1 := Lib.hid hv2.any; have HK1 := Lib.hid hk2; (obtain ⟨a1, c1, rfl, hcc1, _⟩ := hv2); have MK1 := Lib.hid trivial; clear hk2))
    go_ret
    exact ⟨rfl, HK2.out⟩
theorem ex29 : abv29 [47, 97, 47, 98] = ([47, 97], [98], 0) ∧ und29 [47, 97, 47, 98] [47, 97] = true ∧ und29 [47, 97, 98] [47, 97] = false := by
  refine ⟨by decide +kernel, by decide +kernel, by decide +kernel⟩
end Go.Proofs.YtokafgleejcbgaaGreatDoor
