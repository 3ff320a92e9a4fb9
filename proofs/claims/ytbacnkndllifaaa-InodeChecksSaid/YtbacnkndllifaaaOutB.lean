/-
  What bytes.Clone, and the calls Raw, Text, Bool and Done of a fix.Out do.
-/
import Derived.Test.YtbacnkndllifaaaOut
import Derived.Test.YtbacnkndllifaaaBytes
namespace Go.Proofs.Ytbacnkndllifaaa
open Go.RowKit

set_option maxRecDepth 100000 in
/-- bytes.Clone. -/
theorem Clone_any (v : Value) (l : List Int) (F : Nat → Prop) (w : World) (h : BSl w F v l) (hl : l.length ≤ 1000000) :
    Calls Try.prog 78 #[v] w fun e w' => ∃ v', e = .returned v' ∧ BSl w' (fun k => w.heap.size ≤ k) v' l ∧ Kept NoB w w' := by
  obtain ⟨i0, hi0, hz0, hz1, hz2⟩ := info_parts Try.info5
  have HB := Lib.hid h
  obtain ⟨a, cap, rfl, hc, hm, hn, hr⟩ := h
  have hq := fun (w : World) => Lib.run_eql_slice_nil (P := Try.prog) w 22 5 a l.length cap 0 0 Try.underlying22
  rcases a with _ | ad
  · have h0 := hn rfl
    subst h0
    have hl : l = [] := List.eq_nil_of_length_eq_zero (by omega)
    subst hl
    simp only [Option.isNone, List.length_nil] at hq
    go_enter Try.func78, Try.ntmps78
    go_wp2
    go_ret
    exact ⟨_, rfl, BSl.nil _ _, Kept.refl _ _⟩
  · simp only [Option.isNone] at hq
    clear hr hn
    go_enter Try.func78, Try.ntmps78
    go_wp2_with (at_builtin; refine wpList_append_bsl _ rfl (.tmp 5) (.tmp 6) _ rfl 5 i0 _ Try.underlying22 hi0 hz0 hz1 hz2 rfl (.slice (some ⟨w.heap.size, 0, none⟩) 0 0) 0 [] rfl (World.ownsRow_made w #[] 0 (Nat.zero_le _) (by decide) rfl) F _ l rfl (HB.out.kept ((Kept.refl NoB _).alloc _) (fun _ _ h => h)) (by omega) ?_; intro a' c' w1 hown1 hg1 hat1)
    go_ret
    have hk1 : Kept NoB w w1 := ((Kept.refl _ _).alloc _).grown hg1 (fun k hk => .inr (by simp [Value.ownBlock] at hk; omega))
    simp only [Nat.zero_add, List.nil_append] at hown1 hat1
    refine ⟨.slice a' l.length c', rfl, BSl.ofOwn hown1 (HB.out.isB) (fun k hk => ?_), hk1⟩
    rcases hat1 with e | e <;> rw [e] at hk <;> simp [Value.ownBlock] at hk <;> omega

/-- What an append to the Out's bytes and the store behind it leave. -/
theorem OutAt.grow {w w0 w1 : World} {F G : Nat → Prop} {g : Nat} {s : OSt} {a : Option Addr} {cap : Nat} {v' : Value} {l : List Int} (h : OutAt w F g s) (hl : IsB l) (he : s.err = 0)
    (hv : w.heap[g]? = some (.cells #[.slice a s.bs.length cap, .int .i64 s.most, .int .i64 s.err] 104 (0, 0))) (hF : ∀ k, Value.ownBlock (.slice a s.bs.length cap) = some k → F k)
    (hne : some g ≠ Value.ownBlock (.slice a s.bs.length cap)) (hG : ∀ k, k < w.heap.size → F k → G k) (hG2 : ∀ k, w.heap.size ≤ k → G k) (h0 : Kept NoB w w0) (hz : w0.heap.size = w.heap.size)
    (hown : w1.ownsRow 0 5 1 v' (s.bs.length + l.length) ((s.bs ++ l).map (Value.int .u8))) (hg : w0.grownBy w1 (Value.ownBlock (.slice a s.bs.length cap)))
    (hat : v'.ownBlock = Value.ownBlock (.slice a s.bs.length cap) ∨ v'.ownBlock = some w0.heap.size) :
    OutAt (w1.setCell ⟨g, 0, none⟩ v') G g ⟨s.bs ++ l, s.most, 0⟩ ∧ Kept F w (w1.setCell ⟨g, 0, none⟩ v') := by
  have hk : Kept (fun k => some k = Value.ownBlock (.slice a s.bs.length cap)) w w1 := (h0.mono (fun _ _ h => h.elim)).grown hg (fun k hk => .inl hk.symm)
  have hgl := heap_lt hv
  refine ⟨h.store hk hne (hG g hgl h.1) (h.2.1.append hl) he (by rw [List.length_append]; exact hown) (fun k hk2 => ?_), ?_⟩
  · rcases hat with e | e
    · rw [e] at hk2
      rcases Nat.lt_or_ge k w.heap.size with hlt | hge
      · exact hG k hlt (hF k hk2)
      · exact hG2 k hge
    · rw [e] at hk2
      injection hk2 with hk2
      subst hk2
      exact hG2 _ (by omega)
  · exact ((h0.mono (fun _ _ h => h.elim)).grown hg (fun k hk => .inl (hF k hk))).setCell (.inl h.1) _

def textErr (l : List Int) : Int := if 65535 < l.length then 4 else 0

set_option maxRecDepth 100000 in
/-- Done. -/
theorem Done_any (g : Nat) (s : OSt) (F : Nat → Prop) (w : World) (h : OutAt w F g s) (hs : s.bs.length ≤ 1000000) :
    Calls Try.prog 61 #[.pointer (some ⟨g, 0, none⟩)] w fun r w' =>
      ∃ v', r = .returned (.tuple #[v', .int .i64 s.err]) ∧ BSl w' (fun k => w.heap.size ≤ k) v' s.bs ∧ Kept NoB w w' := by
  have HO := Lib.hid h
  obtain ⟨a1, cap1, c0, c1, c2, hfz, hown, hF, hhp, hg⟩ := h.cells
  have HB := Lib.hid (BSl.ofOwn hown h.2.1 hF)
  have hgl : g < w.heap.size := heap_lt hhp
  clear h c1 hfz hown hF hhp
  go_enter Try.func61, Try.ntmps61
  go_wp2_with fail
  go_region_held3 (fun w' => w'.cell? ⟨g, 0, none⟩ = some (.slice a1 s.bs.length cap1) ∧ w'.cell? ⟨g, 2, none⟩ = some (.int .i64 s.err))
    (first | go_keep | (go_split_ands; exact ⟨hk1.cell (p := ⟨g, 0, none⟩) (fun h => h) (by assumption), hk1.cell (p := ⟨g, 2, none⟩) (fun h => h) (by assumption)⟩))
    ((go_at_call 78; refine (Clone_any _ s.bs F _ (HB.out.kept (Kept.refl NoB _).drew (fun _ _ h => h)) hs).mono ?_; rintro e w1 ⟨v', rfl, hv', hk1⟩))
  go_wp2
  go_ret2
  exact ⟨v', rfl, hv'.mono (fun _ _ h => h), hk1.os, hk1.tape, hk1.output, hk1.size, hk1.block⟩
end Go.Proofs.Ytbacnkndllifaaa
