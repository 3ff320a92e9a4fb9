/-
  Package conf and its answer: who stands in a configuration; may it be.
-/
import Derived.Test.YtajneoaljpljpaaCnfF
namespace Go.Proofs.Ytajneoaljpljpaa
open Go.RowKit
set_option linter.unusedVariables false

/-- A list of numbers is told. -/
def ListEnd (F : Nat → Prop) (l : List Int) (w : World) (e : Ending) (w' : World) : Prop := ∃ v, e = .returned v ∧ NSl w' (fun k => F k ∨ w.heap.size ≤ k) v l ∧ Kept NoB w w'
def BoolE (b : Bool) (w : World) (e : Ending) (w' : World) : Prop := e = .returned (.bool b) ∧ Kept NoB w w'
theorem retB {a b : Bool} (h : a = b) : Ending.returned (.bool a) = .returned (.bool b) := by rw [h]
theorem Clip_any (a : Option Addr) (cap : Nat) (l : List Int) (F : Nat → Prop) (w : World) (h : NSl w F (.slice a l.length cap) l) :
    Calls Try.prog 38 #[.slice a l.length cap] w fun e w' => e = .returned (.slice a l.length l.length) ∧ w = w' := by
  have hl := len_le h
  have hc := h.len.2.1
  clear h
  go_enter Try.func38, Try.ntmps38
  go_wp2
  go_ret
  exact ⟨rfl, rfl⟩
theorem cells5 {w : World} {b : Nat} {x0 x1 x2 x3 x4 : Value} {t : TypeId} (h : w.heap[b]? = some (.cells #[x0, x1, x2, x3, x4] t (0, 0))) :
    w.cell? ⟨b, 0, none⟩ = some x0 ∧ w.cell? ⟨b, 1, none⟩ = some x1 ∧ w.cell? ⟨b, 2, none⟩ = some x2 ∧ w.cell? ⟨b, 3, none⟩ = some x3 ∧ w.cell? ⟨b, 4, none⟩ = some x4 :=
  ⟨cell_of_row _ _ 0 _ _ _ h, cell_of_row _ _ 1 _ _ _ h, cell_of_row _ _ 2 _ _ _ h, cell_of_row _ _ 3 _ _ _ h, cell_of_row _ _ 4 _ _ _ h⟩
set_option maxRecDepth 100000 in
set_option maxHeartbeats 1000000 in
theorem members_any (v : Value) (c : Cf) (F : Nat → Prop) (w : World) (h : CfV w F v c) : Calls Try.prog 34 #[v] w (ListEnd F c.mem w) := by
  obtain ⟨u, rfl, hn, _, _, hl⟩ := h
  obtain ⟨a, cap, rfl, _⟩ := id hn
  obtain ⟨l, hle⟩ : ∃ l, l = c.ns := ⟨_, rfl⟩
  obtain ⟨j, hje⟩ : ∃ j, j = c.jn := ⟨_, rfl⟩
  have HM : Hid (c.mem = if j = 0 then l else l ++ [j]) := Lib.hid (by unfold Cf.mem; rw [hle, hje])
  rw [← hle] at hn hl ⊢
  rw [← hje]
  have hb := heap_alloc_new w (.cells #[.int .i64 c.ch, .int .u64 c.ep, .slice a l.length cap, .bool c.fr, .int .i64 j] 25)
  have HN := Lib.hid (hn.kept ((Kept.refl NoB w).alloc (.cells #[.int .i64 c.ch, .int .u64 c.ep, .slice a l.length cap, .bool c.fr, .int .i64 j] 25)) (fun _ _ _ h => h))
  obtain ⟨ch, hch⟩ : ∃ x, x = c.ch := ⟨_, rfl⟩
  obtain ⟨ep, hep⟩ : ∃ x, x = c.ep := ⟨_, rfl⟩
  obtain ⟨fr, hfr⟩ : ∃ x, x = c.fr := ⟨_, rfl⟩
  rw [← hch, ← hep, ← hfr] at hb HN ⊢
  obtain ⟨M, hM⟩ : ∃ M, M = c.mem := ⟨_, rfl⟩
  rw [← hM] at HM ⊢
  clear hch hep hfr hle hje hM hn
  by_cases hj : j = 0
  · subst hj
    have HM' : Hid (M = l) := Lib.hid (by rw [HM.out, if_pos rfl])
    clear HM hb
    go_enter Try.func34, Try.ntmps34
    go_wp2
    go_ret
    exact ⟨_, rfl, by rw [HM'.out]; exact HN.out.mono (fun _ _ h => .inl h), (Kept.refl _ _).alloc _⟩
  · have HM' : Hid (M = l ++ [j]) := Lib.hid (by rw [HM.out, if_neg hj])
    have hjb : ((j : Int) == 0) = false := by simpa using hj
    clear HM hj
    go_enter Try.func34, Try.ntmps34
    go_wp2_with fail
    have HW : Hid (Kept NoB w (w.alloc (.cells #[.int .i64 ch, .int .u64 ep, .slice a l.length cap, .bool fr, .int .i64 j] 25))) := Lib.hid ((Kept.refl _ _).alloc _)
    have HZ : Hid ((w.alloc (.cells #[.int .i64 ch, .int .u64 ep, .slice a l.length cap, .bool fr, .int .i64 j] 25)).heap.size = w.heap.size + 1) := Lib.hid (by simp)
    generalize w.alloc (.cells #[.int .i64 ch, .int .u64 ep, .slice a l.length cap, .bool fr, .int .i64 j] 25) = W at HN hb HW HZ ⊢
    obtain ⟨_, _, c2, _, c4⟩ := cells5 hb
    clear hb
    go_region_held3 (fun w' => w'.cell? ⟨w.heap.size, 2, none⟩ = some (.slice a l.length cap) ∧ w'.cell? ⟨w.heap.size, 4, none⟩ = some (.int .i64 j))
      (first
        | exact ⟨cell_drew (cell_alloc c2 _), cell_drew (cell_alloc c4 _)⟩
        | exact ⟨cell_drew c2, cell_drew c4⟩
        | exact ⟨hgrow.cell (cell_drew (cell_alloc c2 _)) (by simp), hgrow.cell (cell_drew (cell_alloc c4 _)) (by simp)⟩
        | go_keep)
      (first
        | (go_at_call 38; refine (Clip_any a cap l F _ (by first | exact HN.out.kept ((Kept.refl NoB W).drew) (fun _ _ _ h => h) | exact HN.out.kept ((Kept.refl NoB W).alloc _).drew (fun _ _ _ h => h))).mono ?_; rintro e w1 ⟨rfl, rfl⟩)
        | (refine step_append_clip _ (by rfl) _ _ (by rfl) a l.length l F (by rfl) (nsl_clip (HN.out.kept ((Kept.refl NoB W).alloc _).drew (fun _ _ _ h => h))) W.heap.size j (by rfl) (heap_alloc_new W _) (by omega) ?_; intro a' c' w1 hown1 hgrow))
    all_goals
      go_wp2
      go_ret
      refine ⟨_, rfl, ?_, ?_⟩
      · rw [HM'.out]
        have h1 := hown1.nslB
        exact h1.mono (fun k _ hk => .inr (by have hk : _ ≤ k := hk; have := HZ.out; simp at hk; omega))
      · exact ((HW.out.alloc _).drew).grown hgrow (fun k hk => by cases hk)
set_option maxRecDepth 100000 in
set_option maxHeartbeats 1000000 in
theorem Stands_any (v : Value) (c : Cf) (F : Nat → Prop) (w : World) (h : CfV w F v c) : Calls Try.prog 32 #[v] w fun e w' => ∃ v', e = .returned v' ∧ IOwn w.heap.size w' v' c.mem ∧ Kept NoB w w' := by
  obtain ⟨i0, hi0, hz0, hz1, hz2⟩ := info_parts info_int
  obtain ⟨u, rfl, hn, _, _, hl⟩ := h
  obtain ⟨a, cap, rfl, _⟩ := id hn
  obtain ⟨l, hle⟩ : ∃ l, l = c.ns := ⟨_, rfl⟩
  obtain ⟨j, hje⟩ : ∃ j, j = c.jn := ⟨_, rfl⟩
  have HM : Hid (c.mem = if j = 0 then l else l ++ [j]) := Lib.hid (by unfold Cf.mem; rw [hle, hje])
  rw [← hle] at hn hl ⊢
  rw [← hje]
  have hb := heap_alloc_new w (.cells #[.int .i64 c.ch, .int .u64 c.ep, .slice a l.length cap, .bool c.fr, .int .i64 j] 25)
  have HN := Lib.hid (hn.kept ((Kept.refl NoB w).alloc (.cells #[.int .i64 c.ch, .int .u64 c.ep, .slice a l.length cap, .bool c.fr, .int .i64 j] 25)) (fun _ _ _ h => h))
  obtain ⟨ch, hch⟩ : ∃ x, x = c.ch := ⟨_, rfl⟩
  obtain ⟨ep, hep⟩ : ∃ x, x = c.ep := ⟨_, rfl⟩
  obtain ⟨fr, hfr⟩ : ∃ x, x = c.fr := ⟨_, rfl⟩
  rw [← hch, ← hep, ← hfr] at hb HN ⊢
  obtain ⟨M, hM⟩ : ∃ M, M = c.mem := ⟨_, rfl⟩
  rw [← hM] at HM ⊢
  clear hch hep hfr hle hje hM hn
  have HW : Hid (Kept NoB w (w.alloc (.cells #[.int .i64 ch, .int .u64 ep, .slice a l.length cap, .bool fr, .int .i64 j] 25))) := Lib.hid ((Kept.refl _ _).alloc _)
  have HZ : Hid ((w.alloc (.cells #[.int .i64 ch, .int .u64 ep, .slice a l.length cap, .bool fr, .int .i64 j] 25)).heap.size = w.heap.size + 1) := Lib.hid (by simp)
  obtain ⟨_, _, c2, _, c4⟩ := cells5 hb
  clear hb
  by_cases hj : j = 0
  · subst hj
    have HM' : Hid (M = l) := Lib.hid (by rw [HM.out, if_pos rfl])
    clear HM
    go_enter Try.func32, Try.ntmps32
    go_wp2_with (at_builtin; refine wpList_append_nsl _ rfl (.const (.slice none 0 0)) (.tmp 5) rfl w.heap.size (.slice none 0 0) [] rfl (IOwn.nil _ _) F (.slice a l.length cap) l rfl HN.out (by simp; omega) (by simp) ?_; intro a1 c1 w1 hown1 hg1 hat1; have d4 := hg1.cell c4 (by simp [Value.ownBlock]); clear hat1)
    go_ret
    exact ⟨_, rfl, by rw [HM'.out]; simpa using hown1, HW.out.grown hg1 (fun k hk => by cases hk)⟩
  · have HM' : Hid (M = l ++ [j]) := Lib.hid (by rw [HM.out, if_neg hj])
    have hjb : ((j : Int) != 0) = true := by simpa using hj
    clear HM hj
    go_enter Try.func32, Try.ntmps32
    go_wp2_with (first
      | (at_builtin; refine wpList_append_nsl _ rfl (.const (.slice none 0 0)) (.tmp 5) rfl w.heap.size (.slice none 0 0) [] rfl (IOwn.nil _ _) F (.slice a l.length cap) l rfl HN.out (by simp; omega) (by simp) ?_; intro a1 c1 w1 hown1 hg1 hat1; have d4 := hg1.cell c4 (by simp [Value.ownBlock]); have HK1 := Lib.hid (HW.out.grown hg1 (fun k hk => by cases hk)); have hown1 : IOwn w.heap.size w1 (.slice a1 l.length c1) l := (by simpa using hown1); have HO1 := Lib.hid (row_keptI hown1 ((Kept.refl NoB w1).alloc (.cells #[.int .i64 j] 3)) (fun _ _ h => h)); have HON := Lib.hid (nsl_one (heap_alloc_new w1 (.cells #[.int .i64 j] 3))); have HSZ : Hid (w.heap.size ≤ (w1.alloc (.cells #[.int .i64 j] 3)).heap.size) := Lib.hid (by have := HK1.out.size; simp; omega); have HOL := Lib.hid (World.ownsRow.lt hown1); clear hat1 hown1 hg1)
      | (at_builtin; refine wpList_append_nsl _ rfl (.tmp 10) (.tmp 13) rfl w.heap.size (.slice a1 l.length c1) l rfl HO1.out (fun _ => True) (.slice (some ⟨w1.heap.size, 0, none⟩) 1 1) [j] rfl HON.out (by simp; omega) HSZ.out ?_; intro a2 c2' w2 hown2 hg2 hat2; clear hat2))
    go_ret
    exact ⟨_, rfl, by rw [HM'.out]; simpa using hown2, (HK1.out.alloc _).grown hg2 (fun k hk => .inr (HOL.out k hk).1)⟩
end Go.Proofs.Ytajneoaljpljpaa
