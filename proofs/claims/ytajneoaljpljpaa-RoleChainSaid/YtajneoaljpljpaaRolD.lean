/-
  Package role: inside, Of.
-/
import Derived.Test.YtajneoaljpljpaaRolC
import Derived.IntWalk
namespace Go.Proofs.Ytajneoaljpljpaa
open Go.RowKit
set_option linter.unusedVariables false
set_option linter.unusedSimpArgs false

def RlE (r : Rl) (w : World) (e : Ending) (w' : World) : Prop := e = .returned (rlV r) ∧ Kept NoB w w'
set_option maxRecDepth 100000 in
set_option maxHeartbeats 1000000 in
theorem inside_any (v : Value) (c : Cf) (k : Nat) (F : Nat → Prop) (w : World) (h : CfR w F v c) (hl : c.ns.length ≤ 1000) (hk : k < c.ns.length) : Calls Try.prog 24 #[v, .int .i64 k] w (RlE (insR c k) w) := by
  obtain ⟨u, rfl, hn, h0, htop⟩ := id h
  obtain ⟨a, cap, rfl, hn1, hn2, _⟩ := id hn
  unfold maxLen at hn2
  have hent : ∀ (args : Array Value) (w : World), Sem.run Try.prog (callFunc 35 args) w = .ok (.enter 35 args) w := ent_near
  have hmf : ∀ (fn : Fn) (first cap : Array Value) (w : World), (Instr.makeFunc fn first cap).run Try.prog w = .ok (.func fn first cap) w := fun _ _ _ _ => rfl
  have HNP := Lib.hid (fun g b w' (hw : NearB w' F c g b a cap) => near_pred c k hk ▸ near_any ((k : Int) - 1) c g b a cap F w' ⟨by omega, by omega⟩ hw hl)
  have HNS := Lib.hid (fun g b w' (hw : NearB w' F c g b a cap) => near_succ c k hk ▸ near_any ((k : Int) + 1) c g b a cap F w' ⟨by omega, by omega⟩ hw hl)
  have HB : Hid (∀ w' g b, Kept (fun k => k = w.heap.size + 1) w w' → w'.heap[b]? = some (.cells #[.int .i64 c.ch, .int .u64 c.ep, .slice a c.ns.length cap, .bool c.fr, .int .i64 c.jn] 25 (0, 0)) → w'.heap[g]? = some (.cells #[.int .i64 ((c.ns.length : Int) - 1)] 3 (0, 0)) → NearB w' F c g b a cap) :=
    Lib.hid (fun w' g b hk hb hg => ⟨cell_of_row _ _ 0 _ _ _ hg, cell_of_row _ _ 2 _ _ _ hb, cell_of_row _ _ 4 _ _ _ hb, hn.kept hk (fun i hi _ h => by omega)⟩)
  have HD : Hid (insR c k = ⟨true, false, ((k : Int) == 0), ((k : Int) == (c.ns.length : Int) - 1), ((k : Int) == (c.ns.length : Int) - 1) && c.fr, k, predN c k, succN c k⟩) := Lib.hid (by
    unfold insR
    rw [show decide (k = 0) = ((k : Int) == 0) from by rw [Bool.eq_iff_iff]; simp, show decide (k + 1 = c.ns.length) = ((k : Int) == (c.ns.length : Int) - 1) from by rw [Bool.eq_iff_iff]; simp; omega])
  obtain ⟨R, hR⟩ : ∃ R, R = insR c k := ⟨_, rfl⟩
  rw [← hR] at HD ⊢
  obtain ⟨P, hP⟩ : ∃ P, P = predN c k := ⟨_, rfl⟩
  obtain ⟨S, hS⟩ : ∃ S, S = succN c k := ⟨_, rfl⟩
  rw [← hP] at HNP HD
  rw [← hS] at HNS HD
  have hki : (k : Int) < (c.ns.length : Int) := by omega
  have hk1000 : (k : Int) ≤ 1000 := by omega
  have hk0 : (0 : Int) ≤ (k : Int) := by omega
  obtain ⟨W1, hW1⟩ : ∃ W1, W1 = (w.alloc (.cells #[.int .i64 c.ch, .int .u64 c.ep, .slice a c.ns.length cap, .bool c.fr, .int .i64 c.jn] 25)).alloc (.cells #[.bool false, .bool false, .bool false, .bool false, .bool false, .int .i64 0, .int .i64 0, .int .i64 0] 29) := ⟨_, rfl⟩
  have hs1 : W1.heap.size = w.heap.size + 2 := by rw [hW1]; simp
  have hb1 : W1.heap[w.heap.size]? = some (.cells #[.int .i64 c.ch, .int .u64 c.ep, .slice a c.ns.length cap, .bool c.fr, .int .i64 c.jn] 25 (0, 0)) := by rw [hW1]; exact ((Kept.refl NoB _).alloc _).heap (fun h => h) (heap_alloc_new w _)
  have hr1 : W1.heap[w.heap.size + 1]? = some (.cells #[.bool false, .bool false, .bool false, .bool false, .bool false, .int .i64 0, .int .i64 0, .int .i64 0] 29 (0, 0)) := by
    have := heap_alloc_new (w.alloc (.cells #[.int .i64 c.ch, .int .u64 c.ep, .slice a c.ns.length cap, .bool c.fr, .int .i64 c.jn] 25)) (.cells #[.bool false, .bool false, .bool false, .bool false, .bool false, .int .i64 0, .int .i64 0, .int .i64 0] 29)
    rw [show (w.alloc (.cells #[.int .i64 c.ch, .int .u64 c.ep, .slice a c.ns.length cap, .bool c.fr, .int .i64 c.jn] 25)).heap.size = w.heap.size + 1 by simp] at this
    rw [hW1]; exact this
  have HK1 : Hid (Kept NoB w W1) := Lib.hid (by rw [hW1]; exact ((Kept.refl _ _).alloc _).alloc _)
  have HB1 := Lib.hid hb1
  have HR1 := Lib.hid hr1
  have HS1 := Lib.hid hs1
  have HW1 := Lib.hid hW1
  clear h hn hR hP hS hW1 hb1 hr1 hs1
  obtain ⟨ch, ep, ns, fr, jn⟩ := c
  simp only at *
  go_enter Try.func24, Try.ntmps24
  go_wp2_with fail
  rw [← HW1.out]
  obtain ⟨T, hT⟩ : ∃ T, T = ((k : Int) == (ns.length : Int) - 1) := ⟨_, rfl⟩
  obtain ⟨Z, hZ⟩ : ∃ Z, Z = ((k : Int) == 0) := ⟨_, rfl⟩
  rw [← hT, ← hZ] at HD
  rw [← hT]
  have hZ' : ((k : Int) == 0) = Z := hZ.symm
  clear hT hZ
  obtain ⟨V, hV⟩ : ∃ V, V = W1.alloc (.cells #[.int .i64 ((ns.length : Int) - 1)] 3 (0, 0)) := ⟨_, rfl⟩
  rw [← hV]
  have HKV : Hid (Kept NoB w V) := Lib.hid (by rw [hV]; exact HK1.out.alloc _)
  have hkv : Kept NoB W1 V := by rw [hV]; exact (Kept.refl NoB _).alloc _
  have hb := hkv.heap (fun h => h) HB1.out
  have hr := hkv.heap (fun h => h) HR1.out
  have hg : V.heap[w.heap.size + 1 + 1]? = some (.cells #[.int .i64 ((ns.length : Int) - 1)] 3 (0, 0)) := by
    have := heap_alloc_new W1 (.cells #[.int .i64 ((ns.length : Int) - 1)] 3 (0, 0))
    rw [HS1.out] at this
    rw [hV]; exact this
  have hres : w.heap.size ≤ w.heap.size + 1 := by omega
  have hKS : Kept (fun k => k = w.heap.size + 1) w V := HKV.out.mono (fun _ _ h => absurd h (fun h => h))
  have HNB : Hid (∀ w', Kept (fun k => k = w.heap.size + 1) V w' → NearB w' F ⟨ch, ep, ns, fr, jn⟩ (w.heap.size + 1 + 1) w.heap.size a cap) := Lib.hid (fun w' hk => HB.out w' _ _ (hKS.trans hk (fun _ _ h => h)) (hk.heap (by show ¬ w.heap.size = w.heap.size + 1; omega) hb) (hk.heap (by show ¬ w.heap.size + 1 + 1 = w.heap.size + 1; omega) hg))
  have HP1 := Lib.hid (fun w' (hk : Kept (fun k => k = w.heap.size + 1) V w') => HNP.out _ _ w' (HNB.out w' hk))
  have HS2 := Lib.hid (fun w' (hk : Kept (fun k => k = w.heap.size + 1) V w') => HNS.out _ _ w' (HNB.out w' hk))
  have HRV := Lib.hid hr
  have HBV := Lib.hid hb
  obtain ⟨r0, r1, r2, r3, r4, r5, r6, r7⟩ := cells8 hr
  have z1 := frz hr
  clear hkv hV hb hr hg HB HNP HNS HB1 HR1 HW1 hKS
  have hwm : IntKind.i64.wrap ((k : Int) - 1) = (k : Int) - 1 := IntWalk.i64_in _ (by omega)
  have hwp : IntKind.i64.wrap ((k : Int) + 1) = (k : Int) + 1 := IntWalk.i64_in _ (by omega)
  cases T
  · have HE : Hid (R = ⟨true, false, Z, false, false, k, P, S⟩) := Lib.hid (by rw [HD.out]; rfl)
    have HTEN : Hid (∀ w', Kept (fun k => k = w.heap.size + 1) V w' → w'.cell? ⟨w.heap.size, 3, none⟩ = some (.bool fr)) := Lib.hid (fun w' hk => cell_of_row _ _ 3 _ _ _ (hk.heap (by show ¬ w.heap.size = w.heap.size + 1; omega) HBV.out))
    have HKe := Lib.hid (Kept.refl (fun k => k = w.heap.size + 1) V).drew
    have HT := Lib.hid (HTEN.out _ HKe.out)
    refine wp_region_noPanic ?_
    refine wp_region_held_drew (S := (fun w' => w'.cell? ⟨w.heap.size, 3, none⟩ = some (.bool fr))) (by kernel_rfl) ?_ (fun hHeld => ?_)
    · (try dsimp only); with_reducible exact HT.out
    refine wpAnyH_take (i := 0) (oi := { dst := some 16, op := Op.move (Operand.tmp 1), type := 3, pos := "role.go:121", after := #[], guard := none }) (v := ?_) rfl (by kernel_rfl) (by kernel_rfl) (by kernel_rfl) (fun _ _ _ h => h) (Or.inl ⟨by rfl, ?_⟩) (by assumption) ?_
    rotate_left
    · (intro w hSw; (try dsimp only at hSw); go_simp; try with_reducible rfl)
    try simp only [Act.put, List.setIfInBounds_toArray, List.set_cons_zero, List.set_cons_succ]
    refine wpAnyH_take (i := 1) (oi := { dst := some 17, op := Op.binOp BinOp.eql 3 (Operand.tmp 16) (Operand.const (Value.int IntKind.i64 0)) 3, type := 4, pos := "role.go:121", after := #[{ on := 0, ground := Ground.data }], guard := none }) (v := ?_) rfl (by kernel_rfl) (by kernel_rfl) (by kernel_rfl) (fun _ _ _ h => h) (Or.inl ⟨by rfl, ?_⟩) (by assumption) ?_
    rotate_left
    · (intro w hSw; (try dsimp only at hSw); go_simp; try with_reducible rfl)
    try simp only [Act.put, List.setIfInBounds_toArray, List.set_cons_zero, List.set_cons_succ]
    refine wpAnyH_take (i := 2) (oi := { dst := some 18, op := Op.move (Operand.tmp 7), type := 4, pos := "role.go:121", after := #[], guard := none }) (v := ?_) rfl (by kernel_rfl) (by kernel_rfl) (by kernel_rfl) (fun _ _ _ h => h) (Or.inl ⟨by rfl, ?_⟩) (by assumption) ?_
    rotate_left
    · (intro w hSw; (try dsimp only at hSw); go_simp; try with_reducible rfl)
    try simp only [Act.put, List.setIfInBounds_toArray, List.set_cons_zero, List.set_cons_succ]
    refine wpAnyH_take (i := 3) (oi := { dst := some 19, op := Op.move (Operand.tmp 7), type := 4, pos := "role.go:121", after := #[], guard := none }) (v := ?_) rfl (by kernel_rfl) (by kernel_rfl) (by kernel_rfl) (fun _ _ _ h => h) (Or.inl ⟨by rfl, ?_⟩) (by assumption) ?_
    rotate_left
    · (intro w hSw; (try dsimp only at hSw); go_simp; try with_reducible rfl)
    try simp only [Act.put, List.setIfInBounds_toArray, List.set_cons_zero, List.set_cons_succ]
    refine wpAnyH_take (i := 4) (oi := { dst := some 20, op := Op.move (Operand.tmp 19), type := 4, pos := "role.go:121", after := #[{ on := 3, ground := Ground.data }], guard := none }) (v := ?_) rfl (by kernel_rfl) (by kernel_rfl) (by kernel_rfl) (fun _ _ _ h => h) (Or.inl ⟨by rfl, ?_⟩) (by assumption) ?_
    rotate_left
    · (intro w hSw; (try dsimp only at hSw); go_simp; try with_reducible rfl)
    try simp only [Act.put, List.setIfInBounds_toArray, List.set_cons_zero, List.set_cons_succ]
    refine wpAnyH_take (i := 5) (oi := { dst := some 21, op := Op.fieldAddr 25 (Operand.tmp 2) 3, type := 0, pos := "role.go:121", after := #[{ on := 4, ground := Ground.guard }], guard := some (4, true) }) (v := undef) rfl (by kernel_rfl) (by kernel_rfl) (by kernel_rfl) (fun _ _ _ h => h) (Or.inr ⟨by rfl, rfl⟩) (by assumption) ?_
    try simp only [Act.put, List.setIfInBounds_toArray, List.set_cons_zero, List.set_cons_succ]
    refine wpAnyH_take (i := 6) (oi := { dst := some 22, op := Op.load 4 (Operand.tmp 21), type := 4, pos := "role.go:121", after := #[{ on := 5, ground := Ground.data }, { on := 4, ground := Ground.guard }], guard := some (4, true) }) (v := undef) rfl (by kernel_rfl) (by kernel_rfl) (by kernel_rfl) (fun _ _ _ h => h) (Or.inr ⟨by rfl, rfl⟩) (by assumption) ?_
    try simp only [Act.put, List.setIfInBounds_toArray, List.set_cons_zero, List.set_cons_succ]
    refine wpAnyH_take (i := 7) (oi := { dst := some 23, op := Op.pick (Operand.tmp 20) (Operand.tmp 22) (Operand.const (Value.bool false)), type := 4, pos := "role.go:121", after := #[{ on := 4, ground := Ground.data }, { on := 6, ground := Ground.data }], guard := none }) (v := ?_) rfl (by kernel_rfl) (by kernel_rfl) (by kernel_rfl) (fun _ _ _ h => h) (Or.inl ⟨by rfl, ?_⟩) (by assumption) ?_
    rotate_left
    · (intro w hSw; (try dsimp only at hSw); go_simp; try with_reducible rfl)
    try simp only [Act.put, List.setIfInBounds_toArray, List.set_cons_zero, List.set_cons_succ]
    refine wpAnyH_take (i := 8) (oi := { dst := some 24, op := Op.move (Operand.tmp 1), type := 3, pos := "role.go:121", after := #[], guard := none }) (v := ?_) rfl (by kernel_rfl) (by kernel_rfl) (by kernel_rfl) (fun _ _ _ h => h) (Or.inl ⟨by rfl, ?_⟩) (by assumption) ?_
    rotate_left
    · (intro w hSw; (try dsimp only at hSw); go_simp; try with_reducible rfl)
    try simp only [Act.put, List.setIfInBounds_toArray, List.set_cons_zero, List.set_cons_succ]
    refine wpAnyH_take (i := 9) (oi := { dst := some 25, op := Op.move (Operand.tmp 6), type := 50, pos := "role.go:121", after := #[], guard := none }) (v := ?_) rfl (by kernel_rfl) (by kernel_rfl) (by kernel_rfl) (fun _ _ _ h => h) (Or.inl ⟨by rfl, ?_⟩) (by assumption) ?_
    rotate_left
    · (intro w hSw; (try dsimp only at hSw); go_simp; try with_reducible rfl)
    try simp only [Act.put, List.setIfInBounds_toArray, List.set_cons_zero, List.set_cons_succ]
    refine wpAnyH_take (i := 10) (oi := { dst := some 26, op := Op.move (Operand.tmp 1), type := 3, pos := "role.go:121", after := #[], guard := none }) (v := ?_) rfl (by kernel_rfl) (by kernel_rfl) (by kernel_rfl) (fun _ _ _ h => h) (Or.inl ⟨by rfl, ?_⟩) (by assumption) ?_
    rotate_left
    · (intro w hSw; (try dsimp only at hSw); go_simp; try with_reducible rfl)
    try simp only [Act.put, List.setIfInBounds_toArray, List.set_cons_zero, List.set_cons_succ]
    refine wpAnyH_take (i := 11) (oi := { dst := some 27, op := Op.binOp BinOp.sub 3 (Operand.tmp 26) (Operand.const (Value.int IntKind.i64 1)) 3, type := 3, pos := "role.go:121", after := #[{ on := 10, ground := Ground.data }], guard := none }) (v := ?_) rfl (by kernel_rfl) (by kernel_rfl) (by kernel_rfl) (fun _ _ _ h => h) (Or.inl ⟨by rfl, ?_⟩) (by assumption) ?_
    rotate_left
    · (intro w hSw; (try dsimp only at hSw); go_simp; try with_reducible rfl)
    try simp only [Act.put, List.setIfInBounds_toArray, List.set_cons_zero, List.set_cons_succ]
    refine wpAnyH_take (i := 13) (oi := { dst := some 29, op := Op.move (Operand.tmp 6), type := 50, pos := "role.go:121", after := #[], guard := none }) (v := ?_) rfl (by kernel_rfl) (by kernel_rfl) (by kernel_rfl) (fun _ _ _ h => h) (Or.inl ⟨by rfl, ?_⟩) (by assumption) ?_
    rotate_left
    · (intro w hSw; (try dsimp only at hSw); go_simp; try with_reducible rfl)
    try simp only [Act.put, List.setIfInBounds_toArray, List.set_cons_zero, List.set_cons_succ]
    refine wpAnyH_take (i := 14) (oi := { dst := some 30, op := Op.move (Operand.tmp 1), type := 3, pos := "role.go:121", after := #[], guard := none }) (v := ?_) rfl (by kernel_rfl) (by kernel_rfl) (by kernel_rfl) (fun _ _ _ h => h) (Or.inl ⟨by rfl, ?_⟩) (by assumption) ?_
    rotate_left
    · (intro w hSw; (try dsimp only at hSw); go_simp; try with_reducible rfl)
    try simp only [Act.put, List.setIfInBounds_toArray, List.set_cons_zero, List.set_cons_succ]
    refine wpAnyH_take (i := 15) (oi := { dst := some 31, op := Op.binOp BinOp.add 3 (Operand.tmp 30) (Operand.const (Value.int IntKind.i64 1)) 3, type := 3, pos := "role.go:121", after := #[{ on := 14, ground := Ground.data }], guard := none }) (v := ?_) rfl (by kernel_rfl) (by kernel_rfl) (by kernel_rfl) (fun _ _ _ h => h) (Or.inl ⟨by rfl, ?_⟩) (by assumption) ?_
    rotate_left
    · (intro w hSw; (try dsimp only at hSw); go_simp; try with_reducible rfl)
    try simp only [Act.put, List.setIfInBounds_toArray, List.set_cons_zero, List.set_cons_succ]
    refine wpAnyH_ready (rs := [12]) (by kernel_rfl) (by simp) ?_
    refine AllReadyH.cons (o := { dst := some 28, op := Op.call { callee := Callee.value (Operand.tmp 25), args := #[Operand.tmp 27], argTypes := #[3] }, type := 3, pos := "role.go:121", after := #[{ on := 9, ground := Ground.data }, { on := 11, ground := Ground.data }, { on := 4, ground := Ground.chain }], guard := none }) rfl (fun K hK => ?_) AllReadyH.nil
    go_simp
    (go_at_call 35; (with_reducible refine (HP1.out _ HKe.out).mono ?_); rintro e w1 ⟨rfl, rfl⟩)
    replace HT := Lib.hid (HTEN.out _ HKe.out)
    first | (with_reducible refine hK.out _ _ ?_ (fun hHeld => ?_)) | (go_wp2_with fail; with_reducible refine hK.out _ _ ?_ (fun hHeld => ?_))
    · (try dsimp only); with_reducible exact HT.out
    clear hK K
    try simp only [Act.put, List.setIfInBounds_toArray, List.set_cons_zero, List.set_cons_succ]
    refine wpAnyH_ready (rs := [16]) (by kernel_rfl) (by simp) ?_
    refine AllReadyH.cons (o := { dst := some 32, op := Op.call { callee := Callee.value (Operand.tmp 29), args := #[Operand.tmp 31], argTypes := #[3] }, type := 3, pos := "role.go:121", after := #[{ on := 13, ground := Ground.data }, { on := 15, ground := Ground.data }, { on := 12, ground := Ground.chain }], guard := none }) rfl (fun K hK => ?_) AllReadyH.nil
    go_simp
    (go_at_call 35; (with_reducible refine (HS2.out _ HKe.out).mono ?_); rintro e w1 ⟨rfl, rfl⟩)
    replace HT := Lib.hid (HTEN.out _ HKe.out)
    first | (with_reducible refine hK.out _ _ ?_ (fun hHeld => ?_)) | (go_wp2_with fail; with_reducible refine hK.out _ _ ?_ (fun hHeld => ?_))
    · (try dsimp only); with_reducible exact HT.out
    clear hK K
    try simp only [Act.put, List.setIfInBounds_toArray, List.set_cons_zero, List.set_cons_succ]
    refine wpAnyH_take (i := 17) (oi := { dst := some 33, op := Op.build 29 #[(0, Operand.const (Value.bool true)), (2, Operand.tmp 17), (3, Operand.tmp 18), (4, Operand.tmp 23), (5, Operand.tmp 24), (6, Operand.tmp 28), (7, Operand.tmp 32)], type := 29, pos := "role.go:121", after := #[{ on := 1, ground := Ground.data }, { on := 2, ground := Ground.data }, { on := 7, ground := Ground.data }, { on := 8, ground := Ground.data }, { on := 12, ground := Ground.data }, { on := 16, ground := Ground.data }], guard := none }) (v := ?_) rfl (by kernel_rfl) (by kernel_rfl) (by kernel_rfl) (fun _ _ _ h => h) (Or.inl ⟨by rfl, ?_⟩) (by assumption) ?_
    rotate_left
    · (intro w hSw; (try dsimp only at hSw); go_simp; try with_reducible rfl)
    try simp only [Act.put, List.setIfInBounds_toArray, List.set_cons_zero, List.set_cons_succ]
    refine wpAnyH_ready (rs := [18]) (by kernel_rfl) (by simp) ?_
    refine AllReadyH.cons (o := { dst := none, op := Op.store 29 (Operand.tmp 4) (Operand.tmp 33), type := 0, pos := "role.go:121", after := #[{ on := 17, ground := Ground.data }, { on := 16, ground := Ground.chain }, { on := 0, ground := Ground.phase }, { on := 1, ground := Ground.phase }, { on := 2, ground := Ground.phase }, { on := 3, ground := Ground.phase }, { on := 4, ground := Ground.phase }, { on := 5, ground := Ground.phase }, { on := 6, ground := Ground.phase }, { on := 7, ground := Ground.phase }, { on := 8, ground := Ground.phase }, { on := 9, ground := Ground.phase }, { on := 10, ground := Ground.phase }, { on := 11, ground := Ground.phase }, { on := 12, ground := Ground.phase }, { on := 13, ground := Ground.phase }, { on := 14, ground := Ground.phase }, { on := 15, ground := Ground.phase }, { on := 16, ground := Ground.phase }, { on := 17, ground := Ground.phase }], guard := none }) rfl (fun K hK => ?_) AllReadyH.nil
    obtain ⟨r0, r1, r2, r3, r4, r5, r6, r7⟩ := cells8 (show V.drew.heap[w.heap.size + 1]? = _ from HRV.out)
    have z1 := frz (show V.drew.heap[w.heap.size + 1]? = _ from HRV.out)
    go_simp
    have hfin := rl_cells ⟨true, false, Z, false, false, k, P, S⟩ HRV.out
    have hkf := rl_kept ⟨true, false, Z, false, false, k, P, S⟩ HKV.out (b := w.heap.size + 1) hres
    have hks := rl_keptS (S := (fun k => k = w.heap.size + 1)) ⟨true, false, Z, false, false, k, P, S⟩ (Kept.refl _ V) (b := w.heap.size + 1) (.inl rfl)
    simp only at hfin hkf hks
    clear r0 r1 r2 r3 r4 r5 r6 r7 z1
    generalize hW : World.setCell _ _ _ = W3 at hfin hkf hks ⊢
    with_reducible refine hK.out _ _ ?_ (fun hHeld => ?_)
    · (try dsimp only); exact cell_of_row _ _ 3 _ _ _ (hks.drew.heap (by show ¬ w.heap.size = w.heap.size + 1; omega) HBV.out)
    clear hK K
    refine wpAnyH_done (by kernel_rfl) ?_ _
    refine NoPanic.normal ?_
    go_wp2
    obtain ⟨r0, r1, r2, r3, r4, r5, r6, r7⟩ := cells8 hfin
    exact bodyPost_ret (v := rlV ⟨true, false, Z, false, false, k, P, S⟩) (by simp [results, Try.results24, go_sem, r0, r1, r2, r3, r4, r5, r6, r7, rlV]) rfl ⟨by rw [HE.out], hkf.drew⟩
  · have HE : Hid (R = ⟨true, false, Z, true, fr, k, P, S⟩) := Lib.hid (by rw [HD.out]; rfl)
    have HTEN : Hid (∀ w', Kept (fun k => k = w.heap.size + 1) V w' → w'.cell? ⟨w.heap.size, 3, none⟩ = some (.bool fr)) := Lib.hid (fun w' hk => cell_of_row _ _ 3 _ _ _ (hk.heap (by show ¬ w.heap.size = w.heap.size + 1; omega) HBV.out))
    have HKe := Lib.hid (Kept.refl (fun k => k = w.heap.size + 1) V).drew
    have HT := Lib.hid (HTEN.out _ HKe.out)
    refine wp_region_noPanic ?_
    refine wp_region_held_drew (S := (fun w' => w'.cell? ⟨w.heap.size, 3, none⟩ = some (.bool fr))) (by kernel_rfl) ?_ (fun hHeld => ?_)
    · (try dsimp only); with_reducible exact HT.out
    refine wpAnyH_take (i := 0) (oi := { dst := some 16, op := Op.move (Operand.tmp 1), type := 3, pos := "role.go:121", after := #[], guard := none }) (v := ?_) rfl (by kernel_rfl) (by kernel_rfl) (by kernel_rfl) (fun _ _ _ h => h) (Or.inl ⟨by rfl, ?_⟩) (by assumption) ?_
    rotate_left
    · (intro w hSw; (try dsimp only at hSw); go_simp; try with_reducible rfl)
    try simp only [Act.put, List.setIfInBounds_toArray, List.set_cons_zero, List.set_cons_succ]
    refine wpAnyH_take (i := 1) (oi := { dst := some 17, op := Op.binOp BinOp.eql 3 (Operand.tmp 16) (Operand.const (Value.int IntKind.i64 0)) 3, type := 4, pos := "role.go:121", after := #[{ on := 0, ground := Ground.data }], guard := none }) (v := ?_) rfl (by kernel_rfl) (by kernel_rfl) (by kernel_rfl) (fun _ _ _ h => h) (Or.inl ⟨by rfl, ?_⟩) (by assumption) ?_
    rotate_left
    · (intro w hSw; (try dsimp only at hSw); go_simp; try with_reducible rfl)
    try simp only [Act.put, List.setIfInBounds_toArray, List.set_cons_zero, List.set_cons_succ]
    refine wpAnyH_take (i := 2) (oi := { dst := some 18, op := Op.move (Operand.tmp 7), type := 4, pos := "role.go:121", after := #[], guard := none }) (v := ?_) rfl (by kernel_rfl) (by kernel_rfl) (by kernel_rfl) (fun _ _ _ h => h) (Or.inl ⟨by rfl, ?_⟩) (by assumption) ?_
    rotate_left
    · (intro w hSw; (try dsimp only at hSw); go_simp; try with_reducible rfl)
    try simp only [Act.put, List.setIfInBounds_toArray, List.set_cons_zero, List.set_cons_succ]
    refine wpAnyH_take (i := 3) (oi := { dst := some 19, op := Op.move (Operand.tmp 7), type := 4, pos := "role.go:121", after := #[], guard := none }) (v := ?_) rfl (by kernel_rfl) (by kernel_rfl) (by kernel_rfl) (fun _ _ _ h => h) (Or.inl ⟨by rfl, ?_⟩) (by assumption) ?_
    rotate_left
    · (intro w hSw; (try dsimp only at hSw); go_simp; try with_reducible rfl)
    try simp only [Act.put, List.setIfInBounds_toArray, List.set_cons_zero, List.set_cons_succ]
    refine wpAnyH_take (i := 4) (oi := { dst := some 20, op := Op.move (Operand.tmp 19), type := 4, pos := "role.go:121", after := #[{ on := 3, ground := Ground.data }], guard := none }) (v := ?_) rfl (by kernel_rfl) (by kernel_rfl) (by kernel_rfl) (fun _ _ _ h => h) (Or.inl ⟨by rfl, ?_⟩) (by assumption) ?_
    rotate_left
    · (intro w hSw; (try dsimp only at hSw); go_simp; try with_reducible rfl)
    try simp only [Act.put, List.setIfInBounds_toArray, List.set_cons_zero, List.set_cons_succ]
    refine wpAnyH_take (i := 5) (oi := { dst := some 21, op := Op.fieldAddr 25 (Operand.tmp 2) 3, type := 0, pos := "role.go:121", after := #[{ on := 4, ground := Ground.guard }], guard := some (4, true) }) (v := ?_) rfl (by kernel_rfl) (by kernel_rfl) (by kernel_rfl) (fun _ _ _ h => h) (Or.inl ⟨by rfl, ?_⟩) (by assumption) ?_
    rotate_left
    · (intro w hSw; (try dsimp only at hSw); go_simp; try with_reducible rfl)
    try simp only [Act.put, List.setIfInBounds_toArray, List.set_cons_zero, List.set_cons_succ]
    refine wpAnyH_take (i := 6) (oi := { dst := some 22, op := Op.load 4 (Operand.tmp 21), type := 4, pos := "role.go:121", after := #[{ on := 5, ground := Ground.data }, { on := 4, ground := Ground.guard }], guard := some (4, true) }) (v := ?_) rfl (by kernel_rfl) (by kernel_rfl) (by kernel_rfl) (fun _ _ _ h => h) (Or.inl ⟨by rfl, ?_⟩) (by assumption) ?_
    rotate_left
    · (intro w hSw; (try dsimp only at hSw); go_simp; try with_reducible rfl)
    try simp only [Act.put, List.setIfInBounds_toArray, List.set_cons_zero, List.set_cons_succ]
    refine wpAnyH_take (i := 7) (oi := { dst := some 23, op := Op.pick (Operand.tmp 20) (Operand.tmp 22) (Operand.const (Value.bool false)), type := 4, pos := "role.go:121", after := #[{ on := 4, ground := Ground.data }, { on := 6, ground := Ground.data }], guard := none }) (v := ?_) rfl (by kernel_rfl) (by kernel_rfl) (by kernel_rfl) (fun _ _ _ h => h) (Or.inl ⟨by rfl, ?_⟩) (by assumption) ?_
    rotate_left
    · (intro w hSw; (try dsimp only at hSw); go_simp; try with_reducible rfl)
    try simp only [Act.put, List.setIfInBounds_toArray, List.set_cons_zero, List.set_cons_succ]
    refine wpAnyH_take (i := 8) (oi := { dst := some 24, op := Op.move (Operand.tmp 1), type := 3, pos := "role.go:121", after := #[], guard := none }) (v := ?_) rfl (by kernel_rfl) (by kernel_rfl) (by kernel_rfl) (fun _ _ _ h => h) (Or.inl ⟨by rfl, ?_⟩) (by assumption) ?_
    rotate_left
    · (intro w hSw; (try dsimp only at hSw); go_simp; try with_reducible rfl)
    try simp only [Act.put, List.setIfInBounds_toArray, List.set_cons_zero, List.set_cons_succ]
    refine wpAnyH_take (i := 9) (oi := { dst := some 25, op := Op.move (Operand.tmp 6), type := 50, pos := "role.go:121", after := #[], guard := none }) (v := ?_) rfl (by kernel_rfl) (by kernel_rfl) (by kernel_rfl) (fun _ _ _ h => h) (Or.inl ⟨by rfl, ?_⟩) (by assumption) ?_
    rotate_left
    · (intro w hSw; (try dsimp only at hSw); go_simp; try with_reducible rfl)
    try simp only [Act.put, List.setIfInBounds_toArray, List.set_cons_zero, List.set_cons_succ]
    refine wpAnyH_take (i := 10) (oi := { dst := some 26, op := Op.move (Operand.tmp 1), type := 3, pos := "role.go:121", after := #[], guard := none }) (v := ?_) rfl (by kernel_rfl) (by kernel_rfl) (by kernel_rfl) (fun _ _ _ h => h) (Or.inl ⟨by rfl, ?_⟩) (by assumption) ?_
    rotate_left
    · (intro w hSw; (try dsimp only at hSw); go_simp; try with_reducible rfl)
    try simp only [Act.put, List.setIfInBounds_toArray, List.set_cons_zero, List.set_cons_succ]
    refine wpAnyH_take (i := 11) (oi := { dst := some 27, op := Op.binOp BinOp.sub 3 (Operand.tmp 26) (Operand.const (Value.int IntKind.i64 1)) 3, type := 3, pos := "role.go:121", after := #[{ on := 10, ground := Ground.data }], guard := none }) (v := ?_) rfl (by kernel_rfl) (by kernel_rfl) (by kernel_rfl) (fun _ _ _ h => h) (Or.inl ⟨by rfl, ?_⟩) (by assumption) ?_
    rotate_left
    · (intro w hSw; (try dsimp only at hSw); go_simp; try with_reducible rfl)
    try simp only [Act.put, List.setIfInBounds_toArray, List.set_cons_zero, List.set_cons_succ]
    refine wpAnyH_take (i := 13) (oi := { dst := some 29, op := Op.move (Operand.tmp 6), type := 50, pos := "role.go:121", after := #[], guard := none }) (v := ?_) rfl (by kernel_rfl) (by kernel_rfl) (by kernel_rfl) (fun _ _ _ h => h) (Or.inl ⟨by rfl, ?_⟩) (by assumption) ?_
    rotate_left
    · (intro w hSw; (try dsimp only at hSw); go_simp; try with_reducible rfl)
    try simp only [Act.put, List.setIfInBounds_toArray, List.set_cons_zero, List.set_cons_succ]
    refine wpAnyH_take (i := 14) (oi := { dst := some 30, op := Op.move (Operand.tmp 1), type := 3, pos := "role.go:121", after := #[], guard := none }) (v := ?_) rfl (by kernel_rfl) (by kernel_rfl) (by kernel_rfl) (fun _ _ _ h => h) (Or.inl ⟨by rfl, ?_⟩) (by assumption) ?_
    rotate_left
    · (intro w hSw; (try dsimp only at hSw); go_simp; try with_reducible rfl)
    try simp only [Act.put, List.setIfInBounds_toArray, List.set_cons_zero, List.set_cons_succ]
    refine wpAnyH_take (i := 15) (oi := { dst := some 31, op := Op.binOp BinOp.add 3 (Operand.tmp 30) (Operand.const (Value.int IntKind.i64 1)) 3, type := 3, pos := "role.go:121", after := #[{ on := 14, ground := Ground.data }], guard := none }) (v := ?_) rfl (by kernel_rfl) (by kernel_rfl) (by kernel_rfl) (fun _ _ _ h => h) (Or.inl ⟨by rfl, ?_⟩) (by assumption) ?_
    rotate_left
    · (intro w hSw; (try dsimp only at hSw); go_simp; try with_reducible rfl)
    try simp only [Act.put, List.setIfInBounds_toArray, List.set_cons_zero, List.set_cons_succ]
    refine wpAnyH_ready (rs := [12]) (by kernel_rfl) (by simp) ?_
    refine AllReadyH.cons (o := { dst := some 28, op := Op.call { callee := Callee.value (Operand.tmp 25), args := #[Operand.tmp 27], argTypes := #[3] }, type := 3, pos := "role.go:121", after := #[{ on := 9, ground := Ground.data }, { on := 11, ground := Ground.data }, { on := 4, ground := Ground.chain }], guard := none }) rfl (fun K hK => ?_) AllReadyH.nil
    go_simp
    (go_at_call 35; (with_reducible refine (HP1.out _ HKe.out).mono ?_); rintro e w1 ⟨rfl, rfl⟩)
    replace HT := Lib.hid (HTEN.out _ HKe.out)
    first | (with_reducible refine hK.out _ _ ?_ (fun hHeld => ?_)) | (go_wp2_with fail; with_reducible refine hK.out _ _ ?_ (fun hHeld => ?_))
    · (try dsimp only); with_reducible exact HT.out
    clear hK K
    try simp only [Act.put, List.setIfInBounds_toArray, List.set_cons_zero, List.set_cons_succ]
    refine wpAnyH_ready (rs := [16]) (by kernel_rfl) (by simp) ?_
    refine AllReadyH.cons (o := { dst := some 32, op := Op.call { callee := Callee.value (Operand.tmp 29), args := #[Operand.tmp 31], argTypes := #[3] }, type := 3, pos := "role.go:121", after := #[{ on := 13, ground := Ground.data }, { on := 15, ground := Ground.data }, { on := 12, ground := Ground.chain }], guard := none }) rfl (fun K hK => ?_) AllReadyH.nil
    go_simp
    (go_at_call 35; (with_reducible refine (HS2.out _ HKe.out).mono ?_); rintro e w1 ⟨rfl, rfl⟩)
    replace HT := Lib.hid (HTEN.out _ HKe.out)
    first | (with_reducible refine hK.out _ _ ?_ (fun hHeld => ?_)) | (go_wp2_with fail; with_reducible refine hK.out _ _ ?_ (fun hHeld => ?_))
    · (try dsimp only); with_reducible exact HT.out
    clear hK K
    try simp only [Act.put, List.setIfInBounds_toArray, List.set_cons_zero, List.set_cons_succ]
    refine wpAnyH_take (i := 17) (oi := { dst := some 33, op := Op.build 29 #[(0, Operand.const (Value.bool true)), (2, Operand.tmp 17), (3, Operand.tmp 18), (4, Operand.tmp 23), (5, Operand.tmp 24), (6, Operand.tmp 28), (7, Operand.tmp 32)], type := 29, pos := "role.go:121", after := #[{ on := 1, ground := Ground.data }, { on := 2, ground := Ground.data }, { on := 7, ground := Ground.data }, { on := 8, ground := Ground.data }, { on := 12, ground := Ground.data }, { on := 16, ground := Ground.data }], guard := none }) (v := ?_) rfl (by kernel_rfl) (by kernel_rfl) (by kernel_rfl) (fun _ _ _ h => h) (Or.inl ⟨by rfl, ?_⟩) (by assumption) ?_
    rotate_left
    · (intro w hSw; (try dsimp only at hSw); go_simp; try with_reducible rfl)
    try simp only [Act.put, List.setIfInBounds_toArray, List.set_cons_zero, List.set_cons_succ]
    refine wpAnyH_ready (rs := [18]) (by kernel_rfl) (by simp) ?_
    refine AllReadyH.cons (o := { dst := none, op := Op.store 29 (Operand.tmp 4) (Operand.tmp 33), type := 0, pos := "role.go:121", after := #[{ on := 17, ground := Ground.data }, { on := 16, ground := Ground.chain }, { on := 0, ground := Ground.phase }, { on := 1, ground := Ground.phase }, { on := 2, ground := Ground.phase }, { on := 3, ground := Ground.phase }, { on := 4, ground := Ground.phase }, { on := 5, ground := Ground.phase }, { on := 6, ground := Ground.phase }, { on := 7, ground := Ground.phase }, { on := 8, ground := Ground.phase }, { on := 9, ground := Ground.phase }, { on := 10, ground := Ground.phase }, { on := 11, ground := Ground.phase }, { on := 12, ground := Ground.phase }, { on := 13, ground := Ground.phase }, { on := 14, ground := Ground.phase }, { on := 15, ground := Ground.phase }, { on := 16, ground := Ground.phase }, { on := 17, ground := Ground.phase }], guard := none }) rfl (fun K hK => ?_) AllReadyH.nil
    obtain ⟨r0, r1, r2, r3, r4, r5, r6, r7⟩ := cells8 (show V.drew.heap[w.heap.size + 1]? = _ from HRV.out)
    have z1 := frz (show V.drew.heap[w.heap.size + 1]? = _ from HRV.out)
    go_simp
    have hfin := rl_cells ⟨true, false, Z, true, fr, k, P, S⟩ HRV.out
    have hkf := rl_kept ⟨true, false, Z, true, fr, k, P, S⟩ HKV.out (b := w.heap.size + 1) hres
    have hks := rl_keptS (S := (fun k => k = w.heap.size + 1)) ⟨true, false, Z, true, fr, k, P, S⟩ (Kept.refl _ V) (b := w.heap.size + 1) (.inl rfl)
    simp only at hfin hkf hks
    clear r0 r1 r2 r3 r4 r5 r6 r7 z1
    generalize hW : World.setCell _ _ _ = W3 at hfin hkf hks ⊢
    with_reducible refine hK.out _ _ ?_ (fun hHeld => ?_)
    · (try dsimp only); exact cell_of_row _ _ 3 _ _ _ (hks.drew.heap (by show ¬ w.heap.size = w.heap.size + 1; omega) HBV.out)
    clear hK K
    refine wpAnyH_done (by kernel_rfl) ?_ _
    refine NoPanic.normal ?_
    go_wp2
    obtain ⟨r0, r1, r2, r3, r4, r5, r6, r7⟩ := cells8 hfin
    exact bodyPost_ret (v := rlV ⟨true, false, Z, true, fr, k, P, S⟩) (by simp [results, Try.results24, go_sem, r0, r1, r2, r3, r4, r5, r6, r7, rlV]) rfl ⟨by rw [HE.out], hkf.drew⟩
end Go.Proofs.Ytajneoaljpljpaa
