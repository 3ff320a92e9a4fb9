/-
  The chapter's Right.
-/
import Derived.Test.YtajneoaljpljpaaCnfH
namespace Go.Proofs.Ytajneoaljpljpaa
open Go.RowKit
set_option linter.unusedVariables false

set_option maxRecDepth 100000 in
set_option maxHeartbeats 2000000 in
theorem RRight_any (v : Value) (c : Cf) (F : Nat → Prop) (w : World) (h : CfV w F v c) : Calls Try.prog 21 #[v] w (BoolE (rgtB c) w) := by
  obtain ⟨u, rfl, hn, h0, htop, hl⟩ := id h
  obtain ⟨a, cap, rfl, _⟩ := id hn
  have HM := Lib.hid (fun w' (hk : Kept NoB w w') => Stands_any _ c F w' (h.kept hk (fun _ _ _ h => h)))
  obtain ⟨d, hd⟩ : ∃ d, d = unqB c.mem := ⟨_, rfl⟩
  have HR := Lib.hid (rgt_is c d hd)
  have HD := Lib.hid (fun v (F : Nat → Prop) w (h : NSl w F v c.mem) => hd ▸ Unlike_any v c.mem F w h)
  obtain ⟨r, hr⟩ : ∃ r, r = rgtB c := ⟨_, rfl⟩
  rw [← hr] at HR ⊢
  clear h hn hd hr
  obtain ⟨ch, hch⟩ : ∃ x, x = c.ch := ⟨_, rfl⟩
  obtain ⟨ep, hep⟩ : ∃ x, x = c.ep := ⟨_, rfl⟩
  obtain ⟨fr, hfr⟩ : ∃ x, x = c.fr := ⟨_, rfl⟩
  obtain ⟨jn, hjn⟩ : ∃ x, x = c.jn := ⟨_, rfl⟩
  obtain ⟨n, hnn⟩ : ∃ x, x = c.ns.length := ⟨_, rfl⟩
  obtain ⟨M, hM⟩ : ∃ x, x = c.mem := ⟨_, rfl⟩
  rw [← hch, ← hep, ← hfr, ← hjn, ← hnn] at HM HR ⊢
  rw [← hM] at HM HD
  rw [← hnn] at hl
  rw [← hep] at h0 htop
  clear hch hep hfr hjn hnn hM
  have hb := heap_alloc_new w (.cells #[.int .i64 ch, .int .u64 ep, .slice a n cap, .bool fr, .int .i64 jn] 25)
  have HB := Lib.hid hb
  have HK := Lib.hid ((Kept.refl NoB w).alloc (.cells #[.int .i64 ch, .int .u64 ep, .slice a n cap, .bool fr, .int .i64 jn] 25))
  clear hb
  cases fr <;> cases d
  all_goals
    go_enter Try.func21, Try.ntmps21
    go_wp2_with (first
      | (go_at_call 32; refine (HM.out _ HK.out).mono ?_; rintro e w1 ⟨v', rfl, hown, hk1⟩; have hn := hown.nslB; clear hown; obtain ⟨e0, e1, e2, e3, e4⟩ := cells5 (hk1.heap (fun h => h) HB.out); have HN := Lib.hid hn; have HK1 := Lib.hid (HK.out.trans hk1 (fun _ _ h => h)); clear hn hk1)
      | (go_at_call 31; refine (HD.out _ _ _ HN.out).mono ?_; rintro e w2 ⟨rfl, hk2⟩; replace HK1 := Lib.hid (HK1.out.trans hk2 (fun _ _ h => h)); clear hk2))
    all_goals go_ret
    all_goals exact ⟨retB (by rw [HR.out]; first | (simp <;> omega) | (rw [Bool.eq_iff_iff]; simp <;> omega) | (simp at * <;> omega)), (by first | exact HK1.out | exact (Kept.refl _ _).alloc _)⟩
end Go.Proofs.Ytajneoaljpljpaa
