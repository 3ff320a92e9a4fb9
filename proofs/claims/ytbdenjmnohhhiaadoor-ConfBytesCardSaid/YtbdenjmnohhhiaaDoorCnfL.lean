/-
  Package conf and its answer: who is used.
-/
import Derived.Test.YtbdenjmnohhhiaaDoorCnfK
namespace Go.Proofs.YtbdenjmnohhhiaaDoor
open Go.RowKit
set_option linter.unusedVariables false

theorem cf_eta (w : World) (F : Nat → Prop) (c : Cf) (u : Value) (h : NSl w F u c.ns) (hb : 0 ≤ c.ep ∧ c.ep ≤ topE ∧ c.ns.length ≤ 1000) : CfV w F (.agg #[.int .i64 c.ch, .int .u64 c.ep, u, .bool c.fr, .int .i64 c.jn]) c := ⟨u, rfl, h, hb⟩
set_option maxRecDepth 100000 in
set_option maxHeartbeats 1000000 in
theorem Used1_any (v : Value) (c : Cf) (x : Int) (g : Nat) (F : Nat → Prop) (w : World) (h : CfV w F v c) (hg : w.cell? ⟨g, 0, none⟩ = some (.int .i64 x)) :
    Calls Tryd.prog 87 #[v, .pointer (some ⟨g, 0, none⟩)] w (BoolE (decide (x ∈ c.mem)) w) := by
  obtain ⟨u, rfl, hn, hbd⟩ := id h
  obtain ⟨a, cap, rfl, _⟩ := id hn
  have HM := Lib.hid (fun w' (hk : Kept NoB w w') => members_any _ c F w' (h.kept hk (fun _ _ _ h => h)))
  obtain ⟨d, hd⟩ : ∃ d, d = decide (x ∈ c.mem) := ⟨_, rfl⟩
  have HD := Lib.hid (fun v (F : Nat → Prop) w (h : NSl w F v c.mem) => hd ▸ Contains_any v c.mem x F w h)
  rw [← hd]
  clear h hn hd hbd
  obtain ⟨ch, hch⟩ : ∃ x, x = c.ch := ⟨_, rfl⟩
  obtain ⟨ep, hep⟩ : ∃ x, x = c.ep := ⟨_, rfl⟩
  obtain ⟨fr, hfr⟩ : ∃ x, x = c.fr := ⟨_, rfl⟩
  obtain ⟨jn, hjn⟩ : ∃ x, x = c.jn := ⟨_, rfl⟩
  obtain ⟨n, hnn⟩ : ∃ x, x = c.ns.length := ⟨_, rfl⟩
  obtain ⟨M, hM⟩ : ∃ x, x = c.mem := ⟨_, rfl⟩
  rw [← hch, ← hep, ← hfr, ← hjn, ← hnn] at HM ⊢
  rw [← hM] at HM HD
  clear hch hep hfr hjn hnn hM
  have hb := heap_alloc_new w (.cells #[.int .i64 ch, .int .u64 ep, .slice a n cap, .bool fr, .int .i64 jn] 25)
  have HK := Lib.hid ((Kept.refl NoB w).alloc (.cells #[.int .i64 ch, .int .u64 ep, .slice a n cap, .bool fr, .int .i64 jn] 25))
  have hg1 := cell_alloc hg (.cells #[.int .i64 ch, .int .u64 ep, .slice a n cap, .bool fr, .int .i64 jn] 25)
  clear hg
  go_enter Tryd.func87, Tryd.ntmps87
  go_wp2_with fail
  generalize w.alloc (.cells #[.int .i64 ch, .int .u64 ep, .slice a n cap, .bool fr, .int .i64 jn] 25) = W at hb HK hg1 ⊢
  obtain ⟨c0, c1, c2, c3, c4⟩ := cells5 hb
  clear hb
  have HKc := Lib.hid (Kept.refl NoB W)
  go_region_held3 (fun w' => w'.cell? ⟨w.heap.size, 0, none⟩ = some (.int .i64 ch) ∧ w'.cell? ⟨w.heap.size, 1, none⟩ = some (.int .u64 ep) ∧ w'.cell? ⟨w.heap.size, 2, none⟩ = some (.slice a n cap) ∧ w'.cell? ⟨w.heap.size, 3, none⟩ = some (.bool fr) ∧ w'.cell? ⟨w.heap.size, 4, none⟩ = some (.int .i64 jn) ∧ w'.cell? ⟨g, 0, none⟩ = some (.int .i64 x))
    (first
      | exact ⟨cell_drew c0, cell_drew c1, cell_drew c2, cell_drew c3, cell_drew c4, cell_drew hg1⟩
      | exact ⟨HKc.out.cell (p := ⟨w.heap.size, 0, none⟩) (fun h => h) c0, HKc.out.cell (p := ⟨w.heap.size, 1, none⟩) (fun h => h) c1, HKc.out.cell (p := ⟨w.heap.size, 2, none⟩) (fun h => h) c2, HKc.out.cell (p := ⟨w.heap.size, 3, none⟩) (fun h => h) c3, HKc.out.cell (p := ⟨w.heap.size, 4, none⟩) (fun h => h) c4, HKc.out.cell (p := ⟨g, 0, none⟩) (fun h => h) hg1⟩
      | go_keep)
    (first
      | (go_at_call 42; refine (HM.out _ HK.out.drew).mono ?_; rintro e w1 ⟨v', rfl, hn, hk1⟩; have HN := Lib.hid hn; replace HKc := Lib.hid (HKc.out.drew.trans hk1 (fun _ _ h => h)); clear hn hk1)
      | (go_at_call 67; refine (HD.out _ _ _ HN.out).mono ?_; rintro e w2 ⟨rfl, rfl⟩))
  all_goals
    go_wp2
    go_ret
    exact ⟨rfl, HK.out.trans HKc.out (fun _ _ h => h)⟩
theorem used_tells (l : List Cf) (x : Int) (g : Nat) (w : World) (hg : w.cell? ⟨g, 0, none⟩ = some (.int .i64 x)) :
    TellsC 87 #[.pointer (some ⟨g, 0, none⟩)] l (fun c => decide (x ∈ c.mem)) w :=
  ⟨ent_used, fun v c w' F _ hv hk => Used1_any v c x g F w' hv (hk.cell (p := ⟨g, 0, none⟩) (fun h => h) hg)⟩
theorem Used_any (v : Value) (l : List Cf) (x : Int) (F : Nat → Prop) (w : World) (h : CfsAt w F v l) : Calls Tryd.prog 71 #[v, .int .i64 x] w (BoolE (usedB l x) w) := by
  obtain ⟨a, cap, rfl, _⟩ := id h
  have HC := Lib.hid (ContainsC_any _ l _ _ _ F _ (h.kept ((Kept.refl NoB w).alloc (.cells #[.int .i64 x] 3)) (fun _ _ _ h => h)) (used_tells l x w.heap.size (w.alloc (.cells #[.int .i64 x] 3)) (cell_of_row _ _ 0 _ _ _ (heap_alloc_new w _))))
  obtain ⟨d, hd⟩ : ∃ d, d = usedB l x := ⟨_, rfl⟩
  have e : (l.any fun c => decide (x ∈ c.mem)) = d := hd.symm
  rw [e] at HC
  rw [← hd]
  clear h e hd
  go_enter Tryd.func71, Tryd.ntmps71
  go_wp2_with fail
  refine HC.out.mono ?_
  rintro e w1 ⟨rfl, hk⟩
  have HK := Lib.hid (((Kept.refl NoB w).alloc _).trans hk (fun _ _ h => h))
  clear hk
  go_wp2
  go_ret
  exact ⟨rfl, HK.out⟩
end Go.Proofs.YtbdenjmnohhhiaaDoor
