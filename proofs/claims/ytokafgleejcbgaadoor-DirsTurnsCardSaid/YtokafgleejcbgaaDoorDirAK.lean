/-
  Layer 29: Add of both, whatever the entries; the program's entries.
-/
import Derived.Test.YtokafgleejcbgaaDoorDirAJ
namespace Go.Proofs.YtokafgleejcbgaaDoor
open Go.RowKit
set_option linter.unusedVariables false

theorem EOwn.plain {t : TypeId} {B : Nat} {w : World} {v : Value} {l : List En} (h : EOwn t B w v l) : PlainA v := by
  rcases h.2 with ⟨rfl, h0⟩ | ⟨r, cap, cur, rfl, _⟩
  · exact ⟨none, 0, 0, rfl, .inl rfl⟩
  · exact ⟨_, _, _, rfl, .inr ⟨r, 0, rfl⟩⟩
theorem addE_cases (x : En) (l : List En) : ((addE x l).1 ≠ 0 ∧ (addE x l).2 = []) ∨ (addE x l = (0, insE x l) ∧ chkE l = 0 ∧ oneE x = 0 ∧ ¬ l.any (nmIs x.1) = true ∧ l.length ≠ 32) := by
  unfold addE
  by_cases h1 : chkE l ≠ 0
  · rw [if_pos h1]; exact .inl ⟨h1, rfl⟩
  · rw [if_neg h1]
    by_cases h2 : oneE x ≠ 0
    · rw [if_pos h2]; exact .inl ⟨h2, rfl⟩
    · rw [if_neg h2]
      by_cases h3 : l.any (nmIs x.1) = true
      · rw [if_pos h3]; exact .inl ⟨by decide, rfl⟩
      · rw [if_neg h3]
        by_cases h4 : l.length = 32
        · rw [if_pos h4]; exact .inl ⟨by decide, rfl⟩
        · rw [if_neg h4]; exact .inr ⟨rfl, Decidable.not_not.1 h1, Decidable.not_not.1 h2, h3, h4⟩
theorem vAdd29_any (v : Value) (l : List En) (n : List UInt8) (m : Int) (F : Nat → Prop) (w : World) (h : ESl w F v l) (hkeys : ∀ j, j < l.length → (eth l j).1.length ≤ 1000000) (hx : n.length ≤ 1000000) (hadr : PlainA v) :
    Calls Tryd.prog 6 #[v, .agg #[.string ⟨n.toArray⟩, .int .i64 m]] w (GetE29 (addE (n, m) l).1 (addE (n, m) l).2 w) := by
  rcases addE_cases (n, m) l with ⟨h1, h2⟩ | ⟨h1, h2, h3, h4, h5⟩
  · rw [h2]; exact vAdd29_bad v l n m F w h hkeys hx h1
  · rw [h1]; exact vAdd29_ok v l n m (fun k => k < w.heap.size) w (h.mono (fun k hk _ => hk)) (fun k hk => hk) h2 h3 h4 h5 hadr
theorem rAdd29_any (v : Value) (l : List En) (n : List UInt8) (m : Int) (F : Nat → Prop) (w : World) (h : ESl w F v l) (hkeys : ∀ j, j < l.length → (eth l j).1.length ≤ 1000000) (hx : n.length ≤ 1000000) (hadr : PlainA v) :
    Calls Tryd.prog 8 #[v, .agg #[.string ⟨n.toArray⟩, .int .i64 m]] w (GetE29 (addE (n, m) l).1 (addE (n, m) l).2 w) := by
  rcases addE_cases (n, m) l with ⟨h1, h2⟩ | ⟨h1, h2, h3, h4, h5⟩
  · rw [h2]; exact rAdd29_bad v l n m F w h hkeys hx h1
  · rw [h1]; exact rAdd29_ok v l n m (fun k => k < w.heap.size) w (h.mono (fun k hk _ => hk)) (fun k hk => hk) h2 h3 h4 h5 hadr
theorem addE_fine (x : En) (l : List En) (h1 : l.length ≤ 40) (h2 : ∀ p ∈ l, p.1.length ≤ 30) (h3 : x.1.length ≤ 30) : (addE x l).2.length ≤ 41 ∧ ∀ p ∈ (addE x l).2, p.1.length ≤ 30 := by
  rcases addE_cases x l with ⟨_, h⟩ | ⟨h, _⟩
  · rw [h]; exact ⟨by simp, fun _ hp => by cases hp⟩
  · rw [h]
    refine ⟨by show (insE x l).length ≤ 41; rw [insE_len]; omega, fun p hp => ?_⟩
    rcases (insE_mem x l p).1 hp with rfl | hp
    · exact h3
    · exact h2 p hp
theorem remE_fine (n : List UInt8) (l : List En) : (remE n l).2.length ≤ l.length := by
  unfold remE
  split
  · simp
  · split
    · rw [List.length_append, List.length_take, List.length_drop]; omega
    · simp
theorem farE_one (x : En) : farE [x] = decide (30 < x.1.length) := by
  unfold farE
  simp
set_option maxRecDepth 100000 in
set_option maxHeartbeats 4000000 in
theorem ours29b_any (u : Value) (l : List En) (F : Nat → Prop) (w : World) (h : ESl w F u l) (hl : l.length ≤ 1000) :
    Calls Tryd.prog 7 #[u] w fun e w' => ∃ v, e = .returned v ∧ ESl w' (fun k => w.heap.size ≤ k) v l ∧ PlainA v ∧ Kept NoB w w' := by
  obtain ⟨i0, hi0, hz0, hz1, hz2⟩ := info_parts info_en
  obtain ⟨a, c, rfl, _⟩ := h.form
  have HP := Lib.hid h
  clear h
  go_enter Tryd.func7, Tryd.ntmps7
  go_wp2_with fail
  go_loopw [3, 4] (fun o i wr => ∃ (j : Nat) (va : Option Addr) (vc : Nat), j ≤ l.length ∧ i = .int .i64 j ∧ o = .slice va j vc ∧ EOwn 32 w.heap.size wr (.slice va j vc) (l.take j) ∧ Kept NoB w wr) (fun _ i _ => l.length - (RowKit.intOf i).toNat)
  case atStart => exact ⟨0, none, 0, Nat.zero_le _, rfl, rfl, World.ownsRow_nil _ _ _ _, Kept.refl _ _⟩
  case round =>
    obtain ⟨j, va, vc, hj, rfl, rfl, hown, hkk⟩ := hrel
    have HO := Lib.hid hown
    have HK := Lib.hid hkk
    have HSZ := Lib.hid hkk.size
    clear hown
    by_cases hlt : j < l.length
    · have hj1 : (j : Int) < (l.length : Int) := by omega
      have hj0 : (0 : Int) ≤ (j : Int) := by omega
      obtain ⟨b, o, ha, _, _, e0, e1⟩ := (HP.out.no hkk).at_ hlt
      subst ha
      have hS : l.take (j + 1) = l.take j ++ [eth l j] := etake_snoc hlt
      have htl : (l.take j).length = j := by rw [List.length_take]; omega
      obtain ⟨L, hL⟩ : ∃ L, L = l.take j := ⟨_, rfl⟩
      rw [← hL] at HO hS htl
      obtain ⟨x, hx⟩ : ∃ x, x = eth l j := ⟨_, rfl⟩
      rw [← hx] at e0 e1 hS
      obtain ⟨nm, nd⟩ := x
      simp only at e0 e1
      have HS := Lib.hid hS
      have HTL := Lib.hid htl
      clear hx hS htl hL hkk
      go_wp2_with fail
      go_region_law (first
        | (refine step_append_e Tryd.underlying27 hi0 hz0 hz1 hz2 rfl _ (by rfl) (.tmp 11) (.tmp 23) (by rfl) w.heap.size (.slice va j vc) L (by rfl) (by first | exact HO.out.no (((Kept.refl NoB wr).drew).alloc _) | exact HO.out.no (((Kept.refl NoB wr).alloc _).drew) | exact HO.out.no (((Kept.refl NoB wr).drewN _).alloc _)) _ (nm, nd) (by rfl) (by first | exact heap_alloc_new _ _ | exact heap_alloc_new wr _) (by rw [HTL.out]; omega) (by have := HSZ.out; simp; omega) ?_; intro a3 c3 w3 hown3 hg3; rw [HTL.out] at hown3; rw [HTL.out]; have HO3 := Lib.hid hown3; have HK3 := Lib.hid (HK.out.trans (((show Kept NoB wr _ by first | exact ((Kept.refl NoB wr).drew).alloc _ | exact ((Kept.refl NoB wr).alloc _).drew | exact ((Kept.refl NoB wr).drewN _).alloc _).mono (T := fun b => some b = (Value.slice va j vc).ownBlock) (fun _ _ h => h.elim)).grown hg3 (fun b hb => .inl hb.symm)) (fun i hi h => by have := HO.out.row29 i h.symm; omega)); clear hown3 hg3))
      all_goals
        go_wp2
        go_roundw
        case rel => exact ⟨j + 1, a3, c3, by omega, by go_num, rfl, by rw [HS.out]; exact HO3.out, HK3.out⟩
        case measure => simp [RowKit.intOf]; omega
    · obtain rfl : j = l.length := by omega
      rw [List.take_length] at HO
      have HPO := Lib.hid HO.out.sl
      have HPA := Lib.hid HO.out.plain
      clear hkk
      go_wp2_with fail
      go_ret
      exact ⟨_, rfl, HPO.out, HPA.out, HK.out⟩
end Go.Proofs.YtokafgleejcbgaaDoor
