/-
  The page's example of layer 1 holds (catenarylaw01.awake).
-/
import Derived.Test.YtgkkiijoblphfaaOutB
import Derived.Test.YtgkkiijoblphfaaInB
import Derived.Laws.BytesArg
import Derived.Lib.SlBytesConst
namespace Go.Proofs.Ytgkkiijoblphfaa
open Go.RowKit

theorem cat_one (w : World) (x : Int) (h0 : 0 ≤ x) (h1 : x < 256) (t : TypeId) (fr : Nat × Nat) : BSl (w.alloc (.cells #[.int .u8 x] t fr)) (fun k => k = w.heap.size) (.slice (some ⟨w.heap.size, 0, none⟩) 1 1) [x] :=
  ⟨_, 1, rfl, Nat.le_refl _, by decide, (fun h => by cases h), (fun y hy => by simp only [List.mem_singleton] at hy; subst hy; exact ⟨h0, h1⟩), fun _ => ⟨w.heap.size, 0, rfl, rfl, by simp, fun j hj => by
    have : j = 0 := by simp at hj; omega
    subst this
    exact cell_of_row _ _ 0 _ _ _ (heap_alloc_new w (.cells #[.int .u8 x] t fr))⟩⟩

set_option maxRecDepth 100000 in
theorem awake_any (w : World) : Calls Try.prog 21 #[] w fun e w' => e = .returned (.bool true) ∧ Kept NoB w w' := by
  have kc := fun (w : World) (C : Array Value) (n c : Nat) => Lib.run_convert_bytes_const (P := Try.prog) w 22 5 C n c Try.underlying22 Try.underlying5
  go_enter Try.func21, Try.ntmps21
  go_wp2_with fail
  refine (New_any 9 _ (by omega)).mono ?_
  rintro e w1 ⟨rfl, hO1, hk1⟩
  have HO1 := Lib.hid hO1
  clear hO1
  go_wp2_with fail
  refine (Put_any _ _ 258 2 _ _ HO1.out (by omega) (by simp)).mono ?_
  rintro e w2 ⟨rfl, hO2, hk2⟩
  have HO2 := Lib.hid hO2
  clear hO2
  go_wp2_with fail
  refine (Bool_any _ _ true _ _ HO2.out (by decide)).mono ?_
  rintro e w3 ⟨rfl, hO3, hk3⟩
  have e3 : (((⟨[], max 9 0, 0⟩ : OSt).emit (putErr 258 2) (be (258 : Int).toNat (2 : Int).toNat)).emit 0 [if true = true then 1 else 0]) = ⟨[1, 2, 1], 9, 0⟩ := by rfl
  rw [e3] at hO3
  have HO3 := Lib.hid hO3
  have hz1 := hk1.size
  have hz2 := hk2.size
  have hsz : w.heap.size < w3.heap.size := by
    obtain ⟨_, _, _, _, _, _, _, _, hh, _⟩ := hO3.cells
    exact heap_lt hh
  clear hO3 e3
  go_wp2_with fail
  refine (Text_any _ _ _ [97] _ (fun k => k = w3.heap.size) _ ((HO3.out.mono (G := fun k => w.heap.size ≤ k ∧ k < w3.heap.size) (fun k h1 h2 => ⟨by omega, h1⟩)).kept (S := NoB) ((Kept.refl _ _).alloc _) (fun _ _ h => h)) (cat_one w3 97 (by omega) (by omega) _ _) (fun k h1 h2 => by omega) (by decide) (by decide)).mono ?_
  rintro e w4 ⟨rfl, hO4, hk4⟩
  have e4 : ((⟨[1, 2, 1], 9, 0⟩ : OSt).emit (textErr [97]) (be [(97 : Int)].length 2 ++ [97])) = ⟨[1, 2, 1, 0, 1, 97], 9, 0⟩ := by rfl
  rw [e4] at hO4
  have HO4 := Lib.hid hO4
  clear hO4 e4
  go_wp2_with fail
  refine (Done_any _ _ _ _ HO4.out (by decide)).mono ?_
  rintro e w5 ⟨v, rfl, hv, hk5⟩
  have HV := Lib.hid hv
  obtain ⟨a, cap, rfl, _, _, _, hr⟩ := hv
  obtain ⟨b, o, rfl, _, _, hcell⟩ := hr.2 (by decide)
  have hconv := run_convert_bytes_arg (P := Try.prog) w5 22 5 Try.underlying22 Try.underlying5 b o 6 cap [1, 2, 1, 0, 1, 97] rfl hcell 9 Try.underlying9
  have hstr : ((strOfNums [1, 2, 1, 0, 1, 97]).toList == [1, 2, 1, 0, 1, 97]) = true := by decide +kernel
  clear hr hcell
  go_wp2_with fail
  refine (Of_any _ _ _ _ HV.out (by decide)).mono ?_
  rintro e w6 ⟨g, rfl, hg, _, hI, hk6⟩
  have HI := Lib.hid hI
  clear hI
  go_wp2_with fail
  refine (Get_any g _ 2 _ _ HI.out).mono ?_
  rintro e w7 ⟨rfl, _, hk7⟩
  have hn : (((⟨[1, 2, 1, 0, 1, 97], 0⟩ : ISt).get 2).2 == 258) = true := by rfl
  go_wp2
  go_ret
  have z4 := hk4.size
  have z3 := hk3.size
  have z5 := hk5.size
  simp at z4
  refine ⟨rfl, ?_⟩
  have k1 := hk1.trans hk2 (T := _) (fun i hi h => by omega)
  have k2 := k1.trans hk3 (fun i hi h => by omega)
  have k3 := (k2.alloc (.cells #[.int .u8 97] 5 (1, 2))).trans hk4 (fun i hi h => by omega)
  have k4 := k3.trans hk5 (fun i hi h => h)
  have k5 := k4.trans hk6 (fun i hi h => h)
  exact k5.trans hk7 (fun i hi h => by have : i = g := h; omega)
end Go.Proofs.Ytgkkiijoblphfaa
