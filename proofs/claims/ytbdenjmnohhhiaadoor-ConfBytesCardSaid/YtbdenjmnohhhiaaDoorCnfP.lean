/-
  Package conf: Copy.
-/
import Derived.Test.YtbdenjmnohhhiaaDoorCnfO
namespace Go.Proofs.YtbdenjmnohhhiaaDoor
open Go.RowKit
set_option linter.unusedVariables false

/-- Each one's nodes are a row of the call's own, each another one. -/
def OwnC (B : Nat) (w : World) (l : List Cf) (us : Nat → Value) : Prop :=
  (∀ j, j < l.length → IOwn B w (us j) (nthC l j).ns ∧ 0 ≤ (nthC l j).ep ∧ (nthC l j).ep ≤ topE ∧ (nthC l j).ns.length ≤ 1000) ∧ (∀ i j k, i < l.length → j < l.length → i ≠ j → (us i).ownBlock = some k → (us j).ownBlock ≠ some k)
theorem OwnC.nodes {B : Nat} {w : World} {l : List Cf} {us : Nat → Value} (h : OwnC B w l us) : NodesC w (fun k => B ≤ k) l us := fun j hj => ⟨((h.1 j hj).1).nslB, (h.1 j hj).2⟩
theorem OnlyB.not {g k : Nat} (h : k ≠ g) : ¬ (fun i => i = g) k := h
theorem Kept.only' {S : Nat → Prop} {a w : World} (h : Kept S a w) {g : Nat} (hg : S g ∨ a.heap.size ≤ g) (o : Nat) (u : Value) : Kept S a (w.setCell ⟨g, o, none⟩ u) := h.setCell (p := ⟨g, o, none⟩) hg u
theorem row_ne {w : World} {r cap B : Nat} {l : List Cf} {us : Nat → Value} {v : Value} {ns : List Int} (h : RowC w r cap l us) (hv : IOwn B w v ns) : v.ownBlock ≠ some r := by
  obtain ⟨cs, h1, _⟩ := h
  exact (own_ne hv h1 (by decide)).symm
theorem RowC.put {w : World} {r cap : Nat} {l : List Cf} {us : Nat → Value} (h : RowC w r cap l us) {k : Nat} (hk : k < l.length) (v : Value) : RowC (w.setCell ⟨r, k * 5 + 2, none⟩ v) r cap l (fun j => if j = k then v else us j) := by
  obtain ⟨cs, h1, h2, h3, h4, h5⟩ := h
  refine ⟨cs.setIfInBounds (k * 5 + 2) v, by simp [World.setCell, Array.getElem?_modify, h1], by simpa using h2, h3, h4, fun m hm => ?_⟩
  rw [Array.getElem?_setIfInBounds]
  by_cases e : k * 5 + 2 = m
  · subst e
    rw [if_pos rfl, if_pos (by omega), cellC2, if_pos rfl]
  · rw [if_neg e, h5 m hm]
    congr 1
    unfold cellC
    split
    · rfl
    · split
      · rfl
      · split
        · rename_i hm2
          show us (m / 5) = if m / 5 = k then v else us (m / 5)
          rw [if_neg (by omega)]
        · rfl
def CopyEnd (l : List Cf) (w : World) (e : Ending) (w' : World) : Prop :=
  Kept NoB w w' ∧ ((l = [] ∧ ∃ a c, e = .returned (.slice a 0 c) ∧ c ≤ maxLen ∧ (a = none → c = 0)) ∨ ∃ r cap us, e = .returned (.slice (some ⟨r, 0, none⟩) l.length cap) ∧ w.heap.size ≤ r ∧ RowC w' r cap l us ∧ OwnC w.heap.size w' l us)
set_option maxRecDepth 100000 in
set_option maxHeartbeats 1000000 in
theorem Copy_any (v : Value) (l : List Cf) (w : World) (F : Nat → Prop) (h : CfsAt w F v l) (hl : l.length ≤ 1000) : Calls Tryd.prog 36 #[v] w (CopyEnd l w) := by
  obtain ⟨a, cap, rfl, _⟩ := id h
  have HC := Lib.hid (CloneC_any _ l F w h hl)
  have H := Lib.hid h
  clear h
  go_enter Tryd.func36, Tryd.ntmps36
  go_wp2_with fail
  refine HC.out.mono ?_
  rintro e w1 ⟨hk1, ⟨rfl, a', c', rfl, hc', hn'⟩ | ⟨r, rc, us, rfl, hr, hrow, hnod⟩⟩
  · have HK1 := Lib.hid hk1
    have HX := Lib.hid hc'
    have HY := Lib.hid hn'
    clear hk1 hc' hn'
    go_wp2_with fail
    go_loopw [10] (fun i wr => i = .int .i64 0 ∧ wr = w1) (fun _ _ => 0)
    case atStart => exact ⟨rfl, rfl⟩
    case round =>
      obtain ⟨rfl, rfl⟩ := hrel
      go_wp2
      go_ret
      exact ⟨HK1.out, .inl ⟨(by simp), a', c', rfl, HX.out, HY.out⟩⟩
  · have HR := Lib.hid hrow
    have HK1 := Lib.hid hk1
    clear hk1 hrow hnod
    go_wp2_with fail
    go_loopw [4, 5, 10] (fun _ _ i wr => ∃ (k : Nat) (us : Nat → Value), i = .int .i64 k ∧ k ≤ l.length ∧ RowC wr r rc l us ∧ Kept NoB w wr ∧ (∀ j, j < k → IOwn w.heap.size wr (us j) (nthC l j).ns) ∧ (∀ i j b, i < k → j < k → i ≠ j → (us i).ownBlock = some b → (us j).ownBlock ≠ some b)) (fun _ _ i _ => l.length - (intOf i).toNat)
    case atStart => exact ⟨0, us, rfl, Nat.zero_le _, HR.out, HK1.out, fun j h => absurd h (by omega), fun i j b h => absurd h (by omega)⟩
    case round =>
      obtain ⟨k, us, rfl, hk, hrow, hkk, hown, hap⟩ := hrel
      have HRO := Lib.hid hrow
      have HK := Lib.hid hkk
      have HOW := Lib.hid hown
      have HAP := Lib.hid hap
      clear hrow hkk hown hap
      by_cases hlt : k < l.length
      · have hcs := (H.out.kept HK.out (fun _ _ _ h => h))
        obtain ⟨b, o, rfl, _, _, u, e0, e1, e2, e3, e4, hns, hep, htop, hnl⟩ := hcs.at_ hlt
        obtain ⟨ua, uc, rfl, _⟩ := id hns
        obtain ⟨y, hy⟩ : ∃ y, y = nthC l k := ⟨_, rfl⟩
        rw [← hy] at e0 e1 e2 e3 e4 hns hnl
        have HY := Lib.hid hy
        have hk1 : (k : Int) < (l.length : Int) := by omega
        have hk0 : (0 : Int) ≤ (k : Int) := by omega
        have HCL := Lib.hid (CloneN_any _ y.ns F _ (hns.kept ((Kept.refl NoB wr).alloc (.cells #[.int .i64 y.ch, .int .u64 y.ep, .slice ua y.ns.length uc, .bool y.fr, .int .i64 y.jn] 25)) (fun _ _ _ h => h)) hnl)
        clear hy hns hcs hep htop hnl
        go_wp2_with fail
        refine HCL.out.mono ?_
        rintro e w2 ⟨v', rfl, hown, hk2⟩
        have hka := ((Kept.refl NoB wr).alloc (.cells #[.int .i64 y.ch, .int .u64 y.ep, .slice ua y.ns.length uc, .bool y.fr, .int .i64 y.jn] 25)).trans hk2 (fun _ _ h => h)
        have HKA := Lib.hid hka
        have hr2 := HRO.out.kept hka (fun h => h)
        obtain ⟨hx2, hz2⟩ := hr2.cell (m := k * 5 + 2) (by omega)
        rw [cellC2] at hx2
        have HR2 := Lib.hid hr2
        have HO2 := Lib.hid hown
        have HLB : Hid (∀ b, v'.ownBlock = some b → wr.heap.size ≤ b) := Lib.hid (fun b hb => by have := (World.ownsRow.lt hown b hb).1; simp at this; omega)
        obtain ⟨va, vc, rfl⟩ := hown.form
        have hcapr : k < rc := by obtain ⟨_, _, _, hh, _⟩ := HRO.out; omega
        clear hown hk2 hka hr2
        go_wp2
        have hset : Kept (fun i => i = r) w2 (w2.setCell ⟨r, k * 5 + 2, none⟩ (.slice va y.ns.length vc)) := (Kept.refl (fun i => i = r) w2).only' (.inl rfl) _ _
        have hvr := row_ne HR2.out HO2.out
        refine ⟨⟨k + 1, fun j => if j = k then .slice va y.ns.length vc else us j, by go_num, by omega, HR2.out.put hlt _, ?_, fun j hj => ?_, fun i j bb hi hj hij => ?_⟩, by simp [intOf]; omega⟩
        · have hw := HK.out.trans HKA.out (fun _ _ h => h)
          exact hw.only' (.inr (by have := HK1.out.size; omega)) _ _
        · by_cases e : j = k
          · subst e
            simp only [if_true]
            rw [← HY.out]
            exact (row_keptI HO2.out hset (fun i hi h => hvr (h ▸ hi))).low (by have := HK.out.size; simp; omega)
          · simp only [if_neg e]
            have h1 := row_keptI (HOW.out j (by omega)) HKA.out (fun _ _ h => h)
            exact row_keptI h1 hset (fun i hi h => row_ne HR2.out h1 (h ▸ hi))
        · intro hb hb'
          simp only at hb hb'
          by_cases e : i = k
          · have e2 : j ≠ k := by omega
            rw [if_pos e] at hb
            rw [if_neg e2] at hb'
            have h1 := HLB.out bb hb
            have h2 := (World.ownsRow.lt (HOW.out j (by omega)) bb hb').2
            omega
          · rw [if_neg e] at hb
            by_cases e2 : j = k
            · rw [if_pos e2] at hb'
              have h1 := HLB.out bb hb'
              have h2 := (World.ownsRow.lt (HOW.out i (by omega)) bb hb).2
              omega
            · rw [if_neg e2] at hb'
              exact HAP.out i j bb (by omega) (by omega) hij hb hb'
      · obtain rfl : k = l.length := by omega
        go_wp2
        go_ret
        refine ⟨HK.out, .inr ⟨r, rc, us, rfl, hr, HRO.out, fun j hj => ?_, HAP.out⟩⟩
        obtain ⟨b, o, _, _, _, u, _, _, _, _, _, _, h1, h2, h3⟩ := H.out.at_ hj
        exact ⟨HOW.out j hj, h1, h2, h3⟩
end Go.Proofs.YtbdenjmnohhhiaaDoor
