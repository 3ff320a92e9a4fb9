/-
  Package conf: whether a command of each kind is possible.
-/
import Derived.Test.YtbdenjmnohhhiaaDoorCnfU
namespace Go.Proofs.YtbdenjmnohhhiaaDoor
open Go.RowKit
set_option linter.unusedVariables false

def IntE (x : Int) (w : World) (e : Ending) (w' : World) : Prop := e = .returned (.int .i64 x) ∧ Kept NoB w w'
theorem ent_rem1 : Enters 76 := fun args w => by kernel_rfl
theorem Rem1_any (x n : Int) (g : Nat) (w : World) (hg : w.cell? ⟨g, 0, none⟩ = some (.int .i64 n)) : Calls Tryd.prog 76 #[.int .i64 x, .pointer (some ⟨g, 0, none⟩)] w (BoolE (decide (x ≠ n)) w) := by
  by_cases h : x = n
  · subst h
    go_enter Tryd.func76, Tryd.ntmps76
    go_wp2
    go_ret
    exact ⟨(by simp), Kept.refl _ _⟩
  · have hb : ((x : Int) != (n : Int)) = true := by simpa using h
    have HD : Hid (decide (x ≠ n) = true) := Lib.hid (decide_eq_true h)
    obtain ⟨d, hd⟩ : ∃ d, d = decide (x ≠ n) := ⟨_, rfl⟩
    rw [← hd] at HD ⊢
    clear h hd
    go_enter Tryd.func76, Tryd.ntmps76
    go_wp2
    go_ret
    exact ⟨(by rw [HD.out] <;> rfl), Kept.refl _ _⟩
theorem cells1 {w : World} {b : Nat} {x : Value} {t : TypeId} (h : w.heap[b]? = some (.cells #[x] t (0, 0))) : w.cell? ⟨b, 0, none⟩ = some x := cell_of_row _ _ 0 _ _ _ h
set_option maxRecDepth 100000 in
set_option maxHeartbeats 2000000 in
theorem canRemove_any (lv v : Value) (l : List Cf) (c : Cf) (nd : Int) (F : Nat → Prop) (w : World) (h : CfV w F v c) :
    Calls Tryd.prog 57 #[lv, v, .int .i64 nd] w (IntE (canK l c 1 nd) w) := by
  obtain ⟨u, rfl, hn, hbd⟩ := id h
  obtain ⟨a, cap, rfl, _⟩ := id hn
  have HM := Lib.hid (fun w' (hk : Kept NoB w w') => members_any _ c F w' (h.kept hk (fun _ _ _ h => h)))
  have HS := Lib.hid (fun w' (hk : Kept NoB w w') => Settled_any _ c F w' (h.kept hk (fun _ _ _ h => h)))
  obtain ⟨d, hd⟩ : ∃ d, d = decide (nd ∈ c.mem) := ⟨_, rfl⟩
  have HD := Lib.hid (fun v (F : Nat → Prop) w (h : NSl w F v c.mem) => hd ▸ Contains_any v c.mem nd F w h)
  obtain ⟨q, hq⟩ : ∃ q, q = c.set.any (fun x => decide (x ≠ nd)) := ⟨_, rfl⟩
  have HC := Lib.hid (fun v (F : Nat → Prop) (g : Nat) w (h : NSl w F v c.set) (hg : w.cell? ⟨g, 0, none⟩ = some (.int .i64 nd)) => hq ▸ ContainsN_any v c.set 76 #[.pointer (some ⟨g, 0, none⟩)] (fun x => decide (x ≠ nd)) F w h ⟨ent_rem1, fun x w' _ hk => Rem1_any x nd g w' (hk.cell (p := ⟨g, 0, none⟩) (fun h => h) hg)⟩)
  have HX : Hid (canK l c 1 nd = if d = true then (if q = true then 0 else 12) else 7) := Lib.hid (by
    unfold canK
    rw [if_pos rfl, hd, hq]
    by_cases h1 : nd ∈ c.mem
    · rw [if_neg (fun h => h h1), decide_eq_true h1, if_pos rfl]
      by_cases h2 : ∀ x ∈ c.set, x = nd
      · rw [if_pos h2, if_neg]
        intro h3
        obtain ⟨x, hx, hne⟩ := List.any_eq_true.1 h3
        have := h2 x hx
        simp at hne
        exact hne this
      · rw [if_neg h2, if_pos]
        refine List.any_eq_true.2 ?_
        refine Classical.byContradiction fun hno => h2 fun x hx => Classical.byContradiction fun hne => hno ⟨x, hx, by simpa using hne⟩
    · rw [if_pos h1, decide_eq_false h1]; rfl)
  obtain ⟨r, hr⟩ : ∃ r, r = canK l c 1 nd := ⟨_, rfl⟩
  rw [← hr] at HX ⊢
  clear h hn hbd hd hq hr
  obtain ⟨ch, hch⟩ : ∃ x, x = c.ch := ⟨_, rfl⟩
  obtain ⟨ep, hep⟩ : ∃ x, x = c.ep := ⟨_, rfl⟩
  obtain ⟨fr, hfr⟩ : ∃ x, x = c.fr := ⟨_, rfl⟩
  obtain ⟨jn, hjn⟩ : ∃ x, x = c.jn := ⟨_, rfl⟩
  obtain ⟨n, hnn⟩ : ∃ x, x = c.ns.length := ⟨_, rfl⟩
  obtain ⟨M, hM⟩ : ∃ x, x = c.mem := ⟨_, rfl⟩
  obtain ⟨T, hT⟩ : ∃ x, x = c.set := ⟨_, rfl⟩
  rw [← hch, ← hep, ← hfr, ← hjn, ← hnn] at HM HS ⊢
  rw [← hM] at HM HD
  rw [← hT] at HS HC
  clear hch hep hfr hjn hnn hM hT
  have hb0 := balloc (heap_alloc_new w (.cells #[.int .i64 ch, .int .u64 ep, .slice a n cap, .bool fr, .int .i64 jn] 25)) (.cells #[.int .i64 nd] 3)
  have hz : (w.alloc (.cells #[.int .i64 ch, .int .u64 ep, .slice a n cap, .bool fr, .int .i64 jn] 25)).heap.size = w.heap.size + 1 := by simp
  have hi0 := heap_alloc_new (w.alloc (.cells #[.int .i64 ch, .int .u64 ep, .slice a n cap, .bool fr, .int .i64 jn] 25)) (.cells #[.int .i64 nd] 3)
  rw [hz] at hi0
  have HK := Lib.hid (((Kept.refl NoB w).alloc (.cells #[.int .i64 ch, .int .u64 ep, .slice a n cap, .bool fr, .int .i64 jn] 25)).alloc (.cells #[.int .i64 nd] 3))
  clear hz
  go_enter Tryd.func57, Tryd.ntmps57
  go_wp2_with fail
  generalize (w.alloc (.cells #[.int .i64 ch, .int .u64 ep, .slice a n cap, .bool fr, .int .i64 jn] 25)).alloc (.cells #[.int .i64 nd] 3) = W at hb0 hi0 HK ⊢
  have HB := Lib.hid hb0
  have HI := Lib.hid hi0
  obtain ⟨c0, c1, c2, c3, c4⟩ := cells5 hb0
  have i0 := cells1 hi0
  clear hb0 hi0
  have HKc := Lib.hid (Kept.refl NoB W)
  go_region_held3 (fun w' => w'.cell? ⟨w.heap.size, 0, none⟩ = some (.int .i64 ch) ∧ w'.cell? ⟨w.heap.size, 1, none⟩ = some (.int .u64 ep) ∧ w'.cell? ⟨w.heap.size, 2, none⟩ = some (.slice a n cap) ∧ w'.cell? ⟨w.heap.size, 3, none⟩ = some (.bool fr) ∧ w'.cell? ⟨w.heap.size, 4, none⟩ = some (.int .i64 jn) ∧ w'.cell? ⟨w.heap.size + 1, 0, none⟩ = some (.int .i64 nd))
    (first
      | exact ⟨cell_drew c0, cell_drew c1, cell_drew c2, cell_drew c3, cell_drew c4, cell_drew i0⟩
      | exact ⟨HKc.out.cell (p := ⟨w.heap.size, 0, none⟩) (fun h => h) c0, HKc.out.cell (p := ⟨w.heap.size, 1, none⟩) (fun h => h) c1, HKc.out.cell (p := ⟨w.heap.size, 2, none⟩) (fun h => h) c2, HKc.out.cell (p := ⟨w.heap.size, 3, none⟩) (fun h => h) c3, HKc.out.cell (p := ⟨w.heap.size, 4, none⟩) (fun h => h) c4, HKc.out.cell (p := ⟨w.heap.size + 1, 0, none⟩) (fun h => h) i0⟩
      | go_keep)
    (first
      | (go_at_call 42; refine (HM.out _ HK.out.drew).mono ?_; rintro e w1 ⟨v', rfl, hn, hk1⟩; have HN := Lib.hid hn; replace HKc := Lib.hid (HKc.out.drew.trans hk1 (fun _ _ h => h)); clear hn hk1)
      | (go_at_call 67; refine (HD.out _ _ _ HN.out).mono ?_; rintro e w2 ⟨rfl, rfl⟩))
  all_goals
    have hnot : ∀ (x : Bool) (w : World), (Op.unary .not (.bool x)).run Tryd.prog w = .ok (.bool (!x)) w := fun _ _ => rfl
    cases d with
    | false =>
      have HX' : Hid (r = 7) := Lib.hid (by rw [HX.out]; rfl)
      have HKF := Lib.hid (HK.out.trans HKc.out (fun _ _ h => h))
      go_wp2
      go_ret
      exact ⟨(by rw [HX'.out] <;> rfl), HKF.out⟩
    | true =>
      have HKF := Lib.hid (HK.out.trans HKc.out (fun _ _ h => h))
      clear c0 c1 c2 c3 c4 i0
      obtain ⟨c0, c1, c2, c3, c4⟩ := cells5 (HKc.out.heap (fun h => h) HB.out)
      have HI2 := Lib.hid (HKc.out.heap (fun h => h) HI.out)
      go_wp2_with fail
      refine (HS.out _ HKF.out).mono ?_
      rintro e w3 ⟨v3, rfl, hn3, hk3⟩
      have HKG := Lib.hid (HKF.out.trans hk3 (fun _ _ h => h))
      have HI3 := Lib.hid (cells1 (hk3.heap (fun h => h) HI2.out))
      have HN3 := Lib.hid hn3
      clear hn3 hk3 c0 c1 c2 c3 c4
      go_wp2_with fail
      refine (HC.out _ _ _ _ HN3.out HI3.out).mono ?_
      rintro e w4 ⟨rfl, hk4⟩
      have HKH := Lib.hid (HKG.out.trans hk4 (fun _ _ h => h))
      clear hk4
      cases q with
      | false =>
        have HX' : Hid (r = 12) := Lib.hid (by rw [HX.out]; rfl)
        go_wp2
        go_ret
        exact ⟨(by rw [HX'.out] <;> rfl), HKH.out⟩
      | true =>
        have HX' : Hid (r = 0) := Lib.hid (by rw [HX.out]; rfl)
        go_wp2
        go_ret
        exact ⟨(by rw [HX'.out] <;> rfl), HKH.out⟩
end Go.Proofs.YtbdenjmnohhhiaaDoor
