/-
  Layer 28: like, of what is alike.
-/
import Derived.Test.YtbacnkndllifaaaInoN
namespace Go.Proofs.Ytbacnkndllifaaa
open Go.RowKit
set_option linter.unusedVariables false

set_option maxRecDepth 100000 in
set_option maxHeartbeats 20000000 in
theorem like_true (m s : Int) (u1 u2 : Value) (l : List Xt) (F G : Nat → Prop) (w : World) (h1 : XSl w F u1 l) (h2 : XSl w G u2 l) (hl : l.length ≤ 1000) :
    Calls Try.prog 41 #[iv28 m s u1, iv28 m s u2] w (BoolE true w) := by
  obtain ⟨a, ca, rfl, _⟩ := id h1
  obtain ⟨b, cb, rfl, _⟩ := id h2
  have hK := two28 w m s m s (.slice a l.length ca) (.slice b l.length cb) 47 43
  have HV := Lib.hid (h1.no hK)
  have HU := Lib.hid (h2.no hK)
  have HK := Lib.hid hK
  have hA := ((Kept.refl NoB _).alloc (.cells #[.int .i64 m, .int .i64 s, .slice b l.length cb] 43)).heap (fun h => h) (heap_alloc_new w (.cells #[.int .i64 m, .int .i64 s, .slice a l.length ca] 47))
  have hB := heap_alloc_new (w.alloc (.cells #[.int .i64 m, .int .i64 s, .slice a l.length ca] 47)) (.cells #[.int .i64 m, .int .i64 s, .slice b l.length cb] 43)
  rw [show (w.alloc (.cells #[.int .i64 m, .int .i64 s, .slice a l.length ca] 47)).heap.size = w.heap.size + 1 by simp] at hB
  have HA := Lib.hid hA
  have HB := Lib.hid hB
  clear h1 h2 hK hA hB
  go_enter Try.func41, Try.ntmps41
  go_wp2_with fail
  generalize (w.alloc (.cells #[.int .i64 m, .int .i64 s, .slice a l.length ca] 47)).alloc (.cells #[.int .i64 m, .int .i64 s, .slice b l.length cb] 43) = W at HV HU HK HA HB ⊢
  obtain ⟨c0, c1, c2⟩ := cells3 HA.out
  obtain ⟨d0, d1, d2⟩ := cells3 HB.out
  have HKc := Lib.hid (Kept.refl NoB W)
  go_region_held3 (fun w' => w'.cell? ⟨w.heap.size, 0, none⟩ = some (.int .i64 m) ∧ w'.cell? ⟨w.heap.size, 1, none⟩ = some (.int .i64 s) ∧ w'.cell? ⟨w.heap.size, 2, none⟩ = some (.slice a l.length ca) ∧ w'.cell? ⟨w.heap.size + 1, 0, none⟩ = some (.int .i64 m) ∧ w'.cell? ⟨w.heap.size + 1, 1, none⟩ = some (.int .i64 s) ∧ w'.cell? ⟨w.heap.size + 1, 2, none⟩ = some (.slice b l.length cb))
    (first
      | exact ⟨cell_drew c0, cell_drew c1, cell_drew c2, cell_drew d0, cell_drew d1, cell_drew d2⟩
      | exact ⟨HKc.out.cell (p := ⟨w.heap.size, 0, none⟩) (fun h => h) c0, HKc.out.cell (p := ⟨w.heap.size, 1, none⟩) (fun h => h) c1, HKc.out.cell (p := ⟨w.heap.size, 2, none⟩) (fun h => h) c2, HKc.out.cell (p := ⟨w.heap.size + 1, 0, none⟩) (fun h => h) d0, HKc.out.cell (p := ⟨w.heap.size + 1, 1, none⟩) (fun h => h) d1, HKc.out.cell (p := ⟨w.heap.size + 1, 2, none⟩) (fun h => h) d2⟩
      | go_keep)
    (first
      | (go_at_call 32; refine (ours_any m s _ l _ _ (HU.out.no (by first | exact HKc.out | exact HKc.out.drew)) hl).mono ?_; rintro e w3 ⟨a3, c3, rfl, hx3, hk3⟩; have HX3 := Lib.hid hx3; replace HKc := Lib.hid ((by first | exact HKc.out.trans hk3 (fun _ _ h => h) | exact HKc.out.drew.trans hk3 (fun _ _ h => h))); have HV3 := Lib.hid (HV.out.no HKc.out); clear hx3 hk3)
      | (go_at_call 35; refine (iSame_any m s m s _ _ l l _ _ _ HV3.out HX3.out).mono ?_; rw [decide_eq_true ⟨rfl, rfl, rfl⟩]; rintro e w4 ⟨rfl, hk4⟩; replace HKc := Lib.hid (HKc.out.trans hk4 (fun _ _ h => h)); clear hk4))
  all_goals
    go_wp2
    go_ret
    exact ⟨rfl, HK.out.trans HKc.out (fun _ _ h => h)⟩
end Go.Proofs.Ytbacnkndllifaaa
