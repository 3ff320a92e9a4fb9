/-
  What the plain functions of the chapter's package (catenaryref01) do: bytes.
-/
import Derived.Test.YtokafgleejcbgaaGreatDoorOut
import Derived.Test.YtokafgleejcbgaaGreatDoorBytes
import Derived.Test.YtokafgleejcbgaaGreatDoorOutB
namespace Go.Proofs.YtokafgleejcbgaaGreatDoor
open Go.RowKit

theorem take_snoc {l : List Int} {j : Nat} (h : j < l.length) : l.take (j + 1) = l.take j ++ [l.getD j 0] := by
  rw [List.take_succ_eq_append_getElem h, List.getD_eq_getElem?_getD, List.getElem?_eq_getElem h]
  rfl

/-- Same. -/
theorem Same_any (v u : Value) (l m : List Int) (F G : Nat → Prop) (w : World) (h : BSl w F v l) (k : BSl w G u m) :
    Calls Tryz.prog 25 #[v, u] w fun e w' => e = .returned (.bool (decide (l = m))) ∧ Kept NoB w w' := by
  obtain ⟨a, cap, rfl, hc, hm, hnn, hr⟩ := h
  obtain ⟨b, cap2, rfl, hc2, hm2, hnn2, hr2⟩ := k
  clear hnn hnn2
  unfold maxLen at hm hm2
  by_cases hlen : l.length = m.length
  · have hne : ((l.length : Int) != (m.length : Int)) = false := by simp [hlen]
    have HL := Lib.hid hlen
    have hle : l.length ≤ m.length := by omega
    clear hlen
    go_enter Tryz.func25, Tryz.ntmps25
    go_wp2
    go_loopw [5] (fun i wr => ∃ j : Nat, j ≤ l.length ∧ i = .int .i64 j ∧ l.take j = m.take j ∧ Kept NoB w wr) (fun i _ => l.length - (intOf i).toNat)
    case atStart => exact ⟨0, Nat.zero_le _, rfl, by simp, Kept.refl _ _⟩
    case round =>
      obtain ⟨j, hj, rfl, heq, hk⟩ := hrel
      have HE := Lib.hid heq
      clear heq
      by_cases hlt : j < l.length
      · obtain ⟨b1, o1, rfl, _, _, hcell1⟩ := hr.at_ hlt
        obtain ⟨b2, o2, rfl, _, _, hcell2⟩ := hr2.at_ (show j < m.length by omega)
        have d1 := hk.cell (p := ⟨b1, o1 + j, none⟩) (fun h => h) hcell1
        have d2 := hk.cell (p := ⟨b2, o2 + j, none⟩) (fun h => h) hcell2
        have hlt2 : (j : Int) < (l.length : Int) := by omega
        have hlt3 : (j : Int) < (m.length : Int) := by omega
        have h0 : (0 : Int) ≤ (j : Int) := by omega
        obtain ⟨x, hx⟩ : ∃ x, x = l.getD j 0 := ⟨_, rfl⟩
        obtain ⟨y, hy⟩ : ∃ y, y = m.getD j 0 := ⟨_, rfl⟩
        rw [← hx] at d1
        rw [← hy] at d2
        have HX := Lib.hid hx
        have HY := Lib.hid hy
        clear hx hy hcell1 hcell2
        by_cases hxy : x = y
        · have hxb : (x != y) = false := by rw [hxy]; simp
          have HXY := Lib.hid hxy
          clear hxy
          go_wp2_with fail
          go_quiet (fail)
          go_wp2
          refine ⟨⟨j + 1, by omega, by go_num, ?_, hk.drewN _⟩, by simp [intOf]; omega⟩
          rw [take_snoc hlt, take_snoc (show j < m.length by omega), HE.out, ← HX.out, ← HY.out, HXY.out]
        · have hxb : (x != y) = true := by simp [hxy]
          go_wp2_with fail
          go_quiet (fail)
          go_wp2
          go_ret
          refine ⟨ret_bool (decide_eq_false (fun h => hxy ?_)).symm, hk.drewN _⟩
          rw [HX.out, HY.out, h]
      · go_wp2
        go_ret
        have e1 : l.take j = l := List.take_of_length_le (by omega)
        have e2 : m.take j = m := List.take_of_length_le (by have := HL.out; omega)
        refine ⟨ret_bool (decide_eq_true ?_).symm, hk⟩
        rw [← e1, HE.out, e2]
  · have hne : ((l.length : Int) != (m.length : Int)) = true := by simp; omega
    go_enter Tryz.func25, Tryz.ntmps25
    go_wp2
    go_ret
    exact ⟨ret_bool (decide_eq_false (fun h => hlen (by rw [h]))).symm, Kept.refl _ _⟩

theorem own_one (w : World) (e : TypeId) (x : Int) : (w.alloc (.cells #[.int .u8 x] e)).ownsRow 0 e 1 (.slice (some ⟨w.heap.size, 0, none⟩) 1 1) 1 ([x].map (Value.int .u8)) :=
  ⟨rfl, .inr ⟨w.heap.size, 1, _, rfl, Nat.zero_le _, heap_alloc_new w _, Nat.le_refl _, by decide, rfl, rfl⟩⟩

/-- What Put answers: the bytes, or an error. -/
def putBytes (n : Nat) (width : Int) : List Int := if putErr n width = 0 then be n width.toNat else []

/-- A slice of bytes of the call's own, in a block of F. -/
def Own (w : World) (F : Nat → Prop) (v : Value) (l : List Int) : Prop := IsB l ∧ w.ownsRow 0 5 1 v l.length (l.map (Value.int .u8)) ∧ ∀ k, v.ownBlock = some k → F k
theorem Own.bsl {w : World} {F : Nat → Prop} {v : Value} {l : List Int} (h : Own w F v l) : BSl w F v l := BSl.ofOwn h.2.1 h.1 h.2.2
theorem Own.nil (w : World) (F : Nat → Prop) : Own w F (.slice none 0 0) [] := ⟨IsB.nil, World.ownsRow_nil _ _ _ _, fun _ hk => by simp [Value.ownBlock] at hk⟩
theorem Own.kept {S F : Nat → Prop} {w w' : World} {v : Value} {l : List Int} (h : Own w F v l) (hk : Kept S w w') (hs : ∀ k, F k → ¬ S k) : Own w' F v l := by
  obtain ⟨h1, hown, hF⟩ := h
  refine ⟨h1, ⟨hown.1, ?_⟩, hF⟩
  rcases hown.2 with hn | ⟨r, cap, cur, rfl, hb, hr, rest⟩
  · exact .inl hn
  · exact .inr ⟨r, cap, cur, rfl, hb, hk.heap (hs r (hF r rfl)) hr, rest⟩
theorem Own.mono {F G : Nat → Prop} {w : World} {v : Value} {l : List Int} (h : Own w F v l) (hG : ∀ k, k < w.heap.size → F k → G k) : Own w G v l :=
  ⟨h.1, h.2.1, fun k hk => hG k (h.2.1.lt k hk).2 (h.2.2 k hk)⟩
/-- What an append to such a slice leaves. -/
theorem Own.grow {w w1 : World} {F G : Nat → Prop} {v : Value} {a' : Option Addr} {c' : Nat} {l m : List Int} (h : Own w F v l) (hm : IsB m) (hG : ∀ k, k < w.heap.size → F k → G k) (hG2 : ∀ k, w.heap.size ≤ k → G k)
    (hown : w1.ownsRow 0 5 1 (.slice a' (l.length + m.length) c') (l.length + m.length) ((l ++ m).map (Value.int .u8))) (hg : w.grownBy w1 v.ownBlock)
    (hat : (Value.slice a' (l.length + m.length) c').ownBlock = v.ownBlock ∨ (Value.slice a' (l.length + m.length) c').ownBlock = some w.heap.size) :
    Own w1 G (.slice a' (l.length + m.length) c') (l ++ m) ∧ Kept F w w1 := by
  refine ⟨⟨h.1.append hm, by rw [List.length_append]; exact hown, fun k hk => ?_⟩, (Kept.refl _ _).grown hg (fun k hk => .inl (h.2.2 k hk))⟩
  rcases hat with e | e
  · rw [e] at hk
    exact hG k (h.2.1.lt k hk).2 (h.2.2 k hk)
  · rw [e] at hk
    injection hk with hk
    subst hk
    exact hG2 _ (Nat.le_refl _)

theorem putErr_fit (n width : Nat) (h1 : 1 ≤ width) (h8 : width ≤ 8) (hn : n < 256 ^ width) : putErr n width = 0 ∧ putBytes n width = be n width := by
  have e : putErr n width = 0 := by
    unfold putErr
    rw [if_neg (by omega)]
    simp only [Int.toNat_natCast]
    rw [if_pos (Nat.div_eq_of_lt hn)]
  exact ⟨e, by unfold putBytes; rw [if_pos e, Int.toNat_natCast]⟩

end Go.Proofs.YtokafgleejcbgaaGreatDoor
