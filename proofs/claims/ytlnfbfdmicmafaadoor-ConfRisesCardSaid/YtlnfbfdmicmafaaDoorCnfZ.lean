/-
  The chapter's can: without one number; each kind.
-/
import Derived.Test.YtlnfbfdmicmafaaDoorCnfX
namespace Go.Proofs.YtlnfbfdmicmafaaDoor
open Go.RowKit
set_option linter.unusedVariables false

abbrev wo (l : List Int) (x : Int) : List Int := l.filter (fun y => decide (y ≠ x))
theorem wo_take {l : List Int} {x : Int} {k : Nat} (h : k < l.length) : wo (l.take (k + 1)) x = wo (l.take k) x ++ if l.getD k 0 = x then [] else [l.getD k 0] := by
  unfold wo
  rw [take_one h, List.filter_append]
  congr 1
  by_cases hx : l.getD k 0 = x
  · rw [if_pos hx]; simpa using hx
  · rw [if_neg hx]; simpa using hx
set_option maxRecDepth 100000 in
theorem Without_any (v : Value) (l : List Int) (x : Int) (F : Nat → Prop) (w : World) (h : NSl w F v l) (hl : l.length ≤ 1000) :
    Calls Tryd.prog 90 #[v, .int .i64 x] w fun e w' => ∃ v', e = .returned v' ∧ IOwn w.heap.size w' v' (wo l x) ∧ Kept NoB w w' := by
  obtain ⟨a, cap, rfl, _⟩ := id h
  have H := Lib.hid h
  clear h
  go_enter Tryd.func90, Tryd.ntmps90
  go_wp2
  go_loopw [5, 6] (fun q i wr => ∃ k : Nat, i = .int .i64 k ∧ k ≤ l.length ∧ Kept NoB w wr ∧ IOwn w.heap.size wr q (wo (l.take k) x) ∧ (wo (l.take k) x).length ≤ k) (fun _ i _ => l.length - (intOf i).toNat)
  case atStart => exact ⟨0, rfl, Nat.zero_le _, Kept.refl _ _, IOwn.nil _ _, by simp⟩
  case round =>
    obtain ⟨k, rfl, hk, hkk, hown, hsm⟩ := hrel
    have HK := Lib.hid hkk
    have HO := Lib.hid hown
    obtain ⟨qa, qc, rfl⟩ := hown.form
    have HT := Lib.hid (@wo_take l x k)
    obtain ⟨M, hM⟩ : ∃ M, M = wo (l.take k) x := ⟨_, rfl⟩
    rw [← hM] at HO HT hsm ⊢
    have HM := Lib.hid hM
    clear hkk hown hM
    by_cases hlt : k < l.length
    · obtain ⟨b, o, rfl, _, _, hc⟩ := (H.out.kept HK.out (fun _ _ _ h => h)).at_ hlt
      have HTK := Lib.hid (HT.out hlt)
      obtain ⟨y, hy⟩ : ∃ y, y = l.getD k 0 := ⟨_, rfl⟩
      rw [← hy] at hc HTK
      have hk1 : (k : Int) < (l.length : Int) := by omega
      clear hy
      by_cases he : y = x
      · subst he
        have HE : Hid (wo (l.take (k + 1)) y = M) := Lib.hid (by rw [HTK.out, if_pos rfl, List.append_nil])
        go_wp2
        go_roundw
        case rel => exact ⟨k + 1, by go_num, by omega, HK.out, by rw [HE.out]; exact HO.out, by rw [HE.out]; omega⟩
        case measure => simp [intOf]; omega
      · have hb : ((y : Int) != (x : Int)) = true := by simpa using he
        have HE : Hid (wo (l.take (k + 1)) x = M ++ [y]) := Lib.hid (by rw [HTK.out, if_neg he])
        have HO1 := Lib.hid (row_keptI HO.out ((Kept.refl NoB wr).alloc (.cells #[.int .i64 y] 3)) (fun _ _ h => h))
        have HON := Lib.hid (nsl_one (heap_alloc_new wr (.cells #[.int .i64 y] 3)))
        have HSZ : Hid (w.heap.size ≤ (wr.alloc (.cells #[.int .i64 y] 3)).heap.size) := Lib.hid (by have := HK.out.size; simp; omega)
        have HOL := Lib.hid (World.ownsRow.lt HO.out)
        clear he
        go_wp2_with (at_builtin; refine wpList_append_nsl _ rfl (.tmp 19) (.tmp 24) rfl w.heap.size (.slice qa M.length qc) M rfl HO1.out (fun _ => True) (.slice (some ⟨wr.heap.size, 0, none⟩) 1 1) [y] rfl HON.out (by simp; omega) HSZ.out ?_; intro a1 c1 w3 hown1 hg1 hat1; clear hat1)
        go_roundw
        case rel =>
          refine ⟨k + 1, by go_num, by omega, (HK.out.alloc _).grown hg1 (fun i hi => .inr (HOL.out i hi).1), ?_, ?_⟩
          · rw [HE.out]; simpa using hown1
          · rw [HE.out]; simp; omega
        case measure => simp [intOf]; omega
    · obtain rfl : k = l.length := by omega
      have HE : Hid (M = wo l x) := Lib.hid (by rw [HM.out, List.take_length])
      go_wp2
      go_ret
      exact ⟨_, rfl, by rw [← HE.out]; exact HO.out, HK.out⟩
end Go.Proofs.YtlnfbfdmicmafaaDoor
