/-
  Package conf: Right. The chapter's Right. slices.ContainsFunc over numbers and configurations; who is used. Package conf and its answer: who is used. Package conf: All. The chapter's All; who is settled; copies. Copies: of numbers, of configurations. Package conf: Copy.
-/
import Derived.Test.YtclfecninhipnaaGreatDoorCnf1
namespace Go.Proofs.YtclfecninhipnaaGreatDoor
open Go.RowKit
set_option linter.unusedVariables false

set_option maxRecDepth 100000 in
set_option maxHeartbeats 2000000 in
theorem Right_any (v : Value) (c : Cf) (F : Nat → Prop) (w : World) (h : CfV w F v c) : Calls Tryz.prog 48 #[v] w (BoolE (rgtB c) w) := by
  obtain ⟨u, rfl, hn, h0, htop, hl⟩ := id h
  obtain ⟨a, cap, rfl, _⟩ := id hn
  have HM := Lib.hid (fun w' (hk : Kept NoB w w') => members_any _ c F w' (h.kept hk (fun _ _ _ h => h)))
  obtain ⟨d, hd⟩ : ∃ d, d = unqB c.mem := ⟨_, rfl⟩
  have HR := Lib.hid (rgt_is c d hd)
  have HD := Lib.hid (fun v (F : Nat → Prop) w (h : NSl w F v c.mem) => hd ▸ different_any v c.mem F w h)
  obtain ⟨r, hr⟩ : ∃ r, r = rgtB c := ⟨_, rfl⟩
  rw [← hr] at HR ⊢
  clear h hn hd hr
  obtain ⟨ch, hch⟩ : ∃ x, x = c.ch := ⟨_, rfl⟩
  obtain ⟨ep, hep⟩ : ∃ x, x = c.ep := ⟨_, rfl⟩
  obtain ⟨fr, hfr⟩ : ∃ x, x = c.fr := ⟨_, rfl⟩
  obtain ⟨jn, hjn⟩ : ∃ x, x = c.jn := ⟨_, rfl⟩
  obtain ⟨n, hnn⟩ : ∃ x, x = c.ns.length := ⟨_, rfl⟩
  obtain ⟨M, hM⟩ : ∃ x, x = c.mem := ⟨_, rfl⟩
  rw [← hch, ← hep, ← hfr, ← hjn, ← hnn] at HM HR ⊢
  rw [← hM] at HM HD
  rw [← hnn] at hl
  rw [← hep] at h0 htop
  clear hch hep hfr hjn hnn hM
  have hb := heap_alloc_new w (.cells #[.int .i64 ch, .int .u64 ep, .slice a n cap, .bool fr, .int .i64 jn] 44)
  have HB := Lib.hid hb
  have HK := Lib.hid ((Kept.refl NoB w).alloc (.cells #[.int .i64 ch, .int .u64 ep, .slice a n cap, .bool fr, .int .i64 jn] 44))
  clear hb
  cases fr <;> cases d
  all_goals
    go_enter Tryz.func48, Tryz.ntmps48
    go_wp2_with (first
      | (go_at_call 50; refine (HM.out _ HK.out).mono ?_; rintro e w1 ⟨v', rfl, hn, hk1⟩; obtain ⟨e0, e1, e2, e3, e4⟩ := cells5 (hk1.heap (fun h => h) HB.out); have HN := Lib.hid hn; have HK1 := Lib.hid (HK.out.trans hk1 (fun _ _ h => h)); clear hn hk1)
      | (go_at_call 77; refine (HD.out _ _ _ HN.out).mono ?_; rintro e w2 ⟨rfl, rfl⟩))
    all_goals go_ret
    all_goals exact ⟨retB (by rw [HR.out]; first | (simp <;> omega) | (rw [Bool.eq_iff_iff]; simp <;> omega)), (by first | exact HK1.out | exact (Kept.refl _ _).alloc _)⟩
end Go.Proofs.YtclfecninhipnaaGreatDoor
namespace Go.Proofs.YtclfecninhipnaaGreatDoor
open Go.RowKit
set_option linter.unusedVariables false

end Go.Proofs.YtclfecninhipnaaGreatDoor
namespace Go.Proofs.YtclfecninhipnaaGreatDoor
open Go.RowKit
set_option linter.unusedVariables false

/-- A function of the program that has a body. -/
def Enters (f : FuncId) : Prop := ∀ (args : Array Value) (w : World), Sem.run Tryz.prog (callFunc f args) w = .ok (.enter f args) w
/-- A function literal that tells p of a number, in any later world. -/
def TellsN (f : FuncId) (caps : Array Value) (l : List Int) (p : Int → Bool) (w : World) : Prop :=
  Enters f ∧ ∀ x w', x ∈ l → Kept NoB w w' → Calls Tryz.prog f (#[.int .i64 x] ++ caps) w' (BoolE (p x) w')
set_option maxRecDepth 100000 in
theorem IndexN_any (v : Value) (l : List Int) (f : FuncId) (caps : Array Value) (p : Int → Bool) (F : Nat → Prop) (w : World) (h : NSl w F v l) (hp : TellsN f caps l p w) :
    Calls Tryz.prog 78 #[v, .func (.func f) #[] caps] w fun e w' => (∃ r : Int, e = .returned (.int .i64 r) ∧ ((r = -1 ∧ l.any p = false) ∨ (0 ≤ r ∧ l.any p = true))) ∧ Kept NoB w w' := by
  obtain ⟨a, cap, rfl, _⟩ := id h
  have hl := len_le h
  have H := Lib.hid h
  have HP := Lib.hid hp.2
  have hent : ∀ (args : Array Value) (w : World), Sem.run Tryz.prog (callFunc f args) w = .ok (.enter f args) w := hp.1
  clear h hp
  go_enter Tryz.func78, Tryz.ntmps78
  go_wp2
  go_loopw [8] (fun i wr => ∃ k : Nat, i = .int .i64 k ∧ k ≤ l.length ∧ (l.take k).any p = false ∧ Kept NoB w wr) (fun i _ => l.length - (intOf i).toNat)
  case atStart => exact ⟨0, rfl, Nat.zero_le _, by simp, Kept.refl _ _⟩
  case round =>
    obtain ⟨k, rfl, hk, hno, hkk⟩ := hrel
    have HN := Lib.hid hno
    have HK := Lib.hid hkk
    clear hno hkk
    by_cases hlt : k < l.length
    · obtain ⟨b, o, rfl, _, _, hc⟩ := (H.out.kept HK.out (fun _ _ _ h => h)).at_ hlt
      have HT := Lib.hid (take_one hlt)
      have HA : Hid (l.getD k 0 ∈ l) := Lib.hid (by rw [getD_at hlt]; exact List.getElem_mem _)
      obtain ⟨y, hy⟩ : ∃ y, y = l.getD k 0 := ⟨_, rfl⟩
      rw [← hy] at hc HT HA
      have hk1 : (k : Int) < (l.length : Int) := by omega
      have HC := Lib.hid (HP.out y wr HA.out HK.out)
      clear hy
      cases hpy : p y with
      | true =>
        rw [hpy] at HC
        have HPY : Hid (l.any p = true) := Lib.hid (List.any_eq_true.2 ⟨y, HA.out, hpy⟩)
        clear hpy
        go_wp2_with fail
        refine HC.out.mono ?_
        rintro e w2 ⟨rfl, hk2⟩
        have HK2 := Lib.hid (HK.out.trans hk2 (fun _ _ h => h))
        clear hk2
        go_wp2
        go_ret
        exact ⟨⟨_, rfl, .inr ⟨by omega, HPY.out⟩⟩, HK2.out⟩
      | false =>
        rw [hpy] at HC
        have HPY : Hid ((l.take (k + 1)).any p = false) := Lib.hid (by rw [HT.out, List.any_append, HN.out]; simp [hpy])
        clear hpy
        go_wp2_with fail
        refine HC.out.mono ?_
        rintro e w2 ⟨rfl, hk2⟩
        have HK2 := Lib.hid (HK.out.trans hk2 (fun _ _ h => h))
        clear hk2
        go_wp2
        exact ⟨⟨k + 1, by go_num, by omega, HPY.out, HK2.out⟩, by simp [intOf]; omega⟩
    · obtain rfl : k = l.length := by omega
      go_wp2
      go_ret
      exact ⟨⟨_, rfl, .inl ⟨rfl, by have := HN.out; rwa [List.take_length] at this⟩⟩, HK.out⟩
theorem ContainsN_any (v : Value) (l : List Int) (f : FuncId) (caps : Array Value) (p : Int → Bool) (F : Nat → Prop) (w : World) (h : NSl w F v l) (hp : TellsN f caps l p w) :
    Calls Tryz.prog 49 #[v, .func (.func f) #[] caps] w (BoolE (l.any p) w) := by
  have HI := Lib.hid (IndexN_any v l f caps p F w h hp)
  obtain ⟨a, cap, rfl, _⟩ := id h
  clear h hp
  obtain ⟨d, hd⟩ : ∃ d, d = l.any p := ⟨_, rfl⟩
  rw [← hd] at HI ⊢
  clear hd
  go_enter Tryz.func49, Tryz.ntmps49
  go_wp2_with fail
  refine HI.out.mono ?_
  rintro e w1 ⟨⟨r, rfl, hr⟩, hk⟩
  have HK := Lib.hid hk
  clear hk
  rcases hr with ⟨rfl, rfl⟩ | ⟨hr, rfl⟩
  · go_wp2
    go_ret
    exact ⟨rfl, HK.out⟩
  · go_wp2
    go_ret
    exact ⟨rfl, HK.out⟩
/-- A function literal that tells p of a configuration, in any later world. -/
def TellsC (f : FuncId) (caps : Array Value) (l : List Cf) (p : Cf → Bool) (w : World) : Prop :=
  Enters f ∧ ∀ v c w' (F : Nat → Prop), c ∈ l → CfV w' F v c → Kept NoB w w' → Calls Tryz.prog f (#[v] ++ caps) w' (BoolE (p c) w')
set_option maxRecDepth 100000 in
theorem IndexC_any (v : Value) (l : List Cf) (f : FuncId) (caps : Array Value) (p : Cf → Bool) (F : Nat → Prop) (w : World) (h : CfsAt w F v l) (hp : TellsC f caps l p w) :
    Calls Tryz.prog 127 #[v, .func (.func f) #[] caps] w fun e w' => (∃ r : Int, e = .returned (.int .i64 r) ∧ ((r = -1 ∧ l.any p = false) ∨ (0 ≤ r ∧ l.any p = true))) ∧ Kept NoB w w' := by
  obtain ⟨a, cap, rfl, _⟩ := id h
  have hl : l.length ≤ 9223372036854775807 := by have := h.len; unfold maxLen at this; omega
  have H := Lib.hid h
  have HP := Lib.hid hp.2
  have hent : ∀ (args : Array Value) (w : World), Sem.run Tryz.prog (callFunc f args) w = .ok (.enter f args) w := hp.1
  clear h hp
  go_enter Tryz.func127, Tryz.ntmps127
  go_wp2
  go_loopw [8] (fun i wr => ∃ k : Nat, i = .int .i64 k ∧ k ≤ l.length ∧ (l.take k).any p = false ∧ Kept NoB w wr) (fun i _ => l.length - (intOf i).toNat)
  case atStart => exact ⟨0, rfl, Nat.zero_le _, by simp, Kept.refl _ _⟩
  case round =>
    obtain ⟨k, rfl, hk, hno, hkk⟩ := hrel
    have HN := Lib.hid hno
    have HK := Lib.hid hkk
    clear hno hkk
    by_cases hlt : k < l.length
    · obtain ⟨b, o, rfl, _, _, u, e0, e1, e2, e3, e4, hns, hep⟩ := (H.out.kept HK.out (fun _ _ _ h => h)).at_ hlt
      have HT := Lib.hid (takeC hlt)
      have HA : Hid (nthC l k ∈ l) := Lib.hid (by rw [nthC_at hlt]; exact List.getElem_mem _)
      obtain ⟨y, hy⟩ : ∃ y, y = nthC l k := ⟨_, rfl⟩
      rw [← hy] at e0 e1 e3 e4 hns hep HT HA
      have hk1 : (k : Int) < (l.length : Int) := by omega
      have HC := Lib.hid (HP.out _ y wr F HA.out ⟨u, rfl, hns, hep⟩ HK.out)
      clear hy hns hep
      cases hpy : p y with
      | true =>
        rw [hpy] at HC
        have HPY : Hid (l.any p = true) := Lib.hid (List.any_eq_true.2 ⟨y, HA.out, hpy⟩)
        clear hpy
        go_wp2_with fail
        refine HC.out.mono ?_
        rintro e w2 ⟨rfl, hk2⟩
        have HK2 := Lib.hid (HK.out.trans hk2 (fun _ _ h => h))
        clear hk2
        go_wp2
        go_ret
        exact ⟨⟨_, rfl, .inr ⟨by omega, HPY.out⟩⟩, HK2.out⟩
      | false =>
        rw [hpy] at HC
        have HPY : Hid ((l.take (k + 1)).any p = false) := Lib.hid (by rw [HT.out, List.any_append, HN.out]; simp [hpy])
        clear hpy
        go_wp2_with fail
        refine HC.out.mono ?_
        rintro e w2 ⟨rfl, hk2⟩
        have HK2 := Lib.hid (HK.out.trans hk2 (fun _ _ h => h))
        clear hk2
        go_wp2
        exact ⟨⟨k + 1, by go_num, by omega, HPY.out, HK2.out⟩, by simp [intOf]; omega⟩
    · obtain rfl : k = l.length := by omega
      go_wp2
      go_ret
      exact ⟨⟨_, rfl, .inl ⟨rfl, by have := HN.out; rwa [List.take_length] at this⟩⟩, HK.out⟩
theorem ContainsC_any (v : Value) (l : List Cf) (f : FuncId) (caps : Array Value) (p : Cf → Bool) (F : Nat → Prop) (w : World) (h : CfsAt w F v l) (hp : TellsC f caps l p w) :
    Calls Tryz.prog 74 #[v, .func (.func f) #[] caps] w (BoolE (l.any p) w) := by
  have HI := Lib.hid (IndexC_any v l f caps p F w h hp)
  obtain ⟨a, cap, rfl, _⟩ := id h
  clear h hp
  obtain ⟨d, hd⟩ : ∃ d, d = l.any p := ⟨_, rfl⟩
  rw [← hd] at HI ⊢
  clear hd
  go_enter Tryz.func74, Tryz.ntmps74
  go_wp2_with fail
  refine HI.out.mono ?_
  rintro e w1 ⟨⟨r, rfl, hr⟩, hk⟩
  have HK := Lib.hid hk
  clear hk
  rcases hr with ⟨rfl, rfl⟩ | ⟨hr, rfl⟩
  · go_wp2
    go_ret
    exact ⟨rfl, HK.out⟩
  · go_wp2
    go_ret
    exact ⟨rfl, HK.out⟩
theorem ent_used : Enters 75 := fun args w => by kernel_rfl
end Go.Proofs.YtclfecninhipnaaGreatDoor
namespace Go.Proofs.YtclfecninhipnaaGreatDoor
open Go.RowKit
set_option linter.unusedVariables false

theorem cf_eta (w : World) (F : Nat → Prop) (c : Cf) (u : Value) (h : NSl w F u c.ns) (hb : 0 ≤ c.ep ∧ c.ep ≤ topE ∧ c.ns.length ≤ 1000) : CfV w F (.agg #[.int .i64 c.ch, .int .u64 c.ep, u, .bool c.fr, .int .i64 c.jn]) c := ⟨u, rfl, h, hb⟩
set_option maxRecDepth 100000 in
set_option maxHeartbeats 1000000 in
theorem Used1_any (v : Value) (c : Cf) (x : Int) (g : Nat) (F : Nat → Prop) (w : World) (h : CfV w F v c) (hg : w.cell? ⟨g, 0, none⟩ = some (.int .i64 x)) :
    Calls Tryz.prog 75 #[v, .pointer (some ⟨g, 0, none⟩)] w (BoolE (decide (x ∈ c.mem)) w) := by
  obtain ⟨u, rfl, hn, hbd⟩ := id h
  obtain ⟨a, cap, rfl, _⟩ := id hn
  have HM := Lib.hid (fun w' (hk : Kept NoB w w') => members_any _ c F w' (h.kept hk (fun _ _ _ h => h)))
  obtain ⟨d, hd⟩ : ∃ d, d = decide (x ∈ c.mem) := ⟨_, rfl⟩
  have HD := Lib.hid (fun v (F : Nat → Prop) w (h : NSl w F v c.mem) => hd ▸ Contains_any v c.mem x F w h)
  rw [← hd]
  clear h hn hd hbd
  obtain ⟨ch, hch⟩ : ∃ x, x = c.ch := ⟨_, rfl⟩
  obtain ⟨ep, hep⟩ : ∃ x, x = c.ep := ⟨_, rfl⟩
  obtain ⟨fr, hfr⟩ : ∃ x, x = c.fr := ⟨_, rfl⟩
  obtain ⟨jn, hjn⟩ : ∃ x, x = c.jn := ⟨_, rfl⟩
  obtain ⟨n, hnn⟩ : ∃ x, x = c.ns.length := ⟨_, rfl⟩
  obtain ⟨M, hM⟩ : ∃ x, x = c.mem := ⟨_, rfl⟩
  rw [← hch, ← hep, ← hfr, ← hjn, ← hnn] at HM ⊢
  rw [← hM] at HM HD
  clear hch hep hfr hjn hnn hM
  have hb := heap_alloc_new w (.cells #[.int .i64 ch, .int .u64 ep, .slice a n cap, .bool fr, .int .i64 jn] 44)
  have HK := Lib.hid ((Kept.refl NoB w).alloc (.cells #[.int .i64 ch, .int .u64 ep, .slice a n cap, .bool fr, .int .i64 jn] 44))
  have hg1 := cell_alloc hg (.cells #[.int .i64 ch, .int .u64 ep, .slice a n cap, .bool fr, .int .i64 jn] 44)
  clear hg
  go_enter Tryz.func75, Tryz.ntmps75
  go_wp2_with fail
  generalize w.alloc (.cells #[.int .i64 ch, .int .u64 ep, .slice a n cap, .bool fr, .int .i64 jn] 44) = W at hb HK hg1 ⊢
  obtain ⟨c0, c1, c2, c3, c4⟩ := cells5 hb
  clear hb
  have HKc := Lib.hid (Kept.refl NoB W)
  go_region_held3 (fun w' => w'.cell? ⟨w.heap.size, 0, none⟩ = some (.int .i64 ch) ∧ w'.cell? ⟨w.heap.size, 1, none⟩ = some (.int .u64 ep) ∧ w'.cell? ⟨w.heap.size, 2, none⟩ = some (.slice a n cap) ∧ w'.cell? ⟨w.heap.size, 3, none⟩ = some (.bool fr) ∧ w'.cell? ⟨w.heap.size, 4, none⟩ = some (.int .i64 jn) ∧ w'.cell? ⟨g, 0, none⟩ = some (.int .i64 x))
    (first
      | exact ⟨cell_drew c0, cell_drew c1, cell_drew c2, cell_drew c3, cell_drew c4, cell_drew hg1⟩
      | exact ⟨HKc.out.cell (p := ⟨w.heap.size, 0, none⟩) (fun h => h) c0, HKc.out.cell (p := ⟨w.heap.size, 1, none⟩) (fun h => h) c1, HKc.out.cell (p := ⟨w.heap.size, 2, none⟩) (fun h => h) c2, HKc.out.cell (p := ⟨w.heap.size, 3, none⟩) (fun h => h) c3, HKc.out.cell (p := ⟨w.heap.size, 4, none⟩) (fun h => h) c4, HKc.out.cell (p := ⟨g, 0, none⟩) (fun h => h) hg1⟩
      | go_keep)
    (first
      | (go_at_call 50; refine (HM.out _ HK.out.drew).mono ?_; rintro e w1 ⟨v', rfl, hn, hk1⟩; have HN := Lib.hid hn; replace HKc := Lib.hid (HKc.out.drew.trans hk1 (fun _ _ h => h)); clear hn hk1)
      | (go_at_call 76; refine (HD.out _ _ _ HN.out).mono ?_; rintro e w2 ⟨rfl, rfl⟩))
  all_goals
    go_wp2
    go_ret
    exact ⟨rfl, HK.out.trans HKc.out (fun _ _ h => h)⟩
theorem used_tells (l : List Cf) (x : Int) (g : Nat) (w : World) (hg : w.cell? ⟨g, 0, none⟩ = some (.int .i64 x)) :
    TellsC 75 #[.pointer (some ⟨g, 0, none⟩)] l (fun c => decide (x ∈ c.mem)) w :=
  ⟨ent_used, fun v c w' F _ hv hk => Used1_any v c x g F w' hv (hk.cell (p := ⟨g, 0, none⟩) (fun h => h) hg)⟩
theorem Used_any (v : Value) (l : List Cf) (x : Int) (F : Nat → Prop) (w : World) (h : CfsAt w F v l) : Calls Tryz.prog 47 #[v, .int .i64 x] w (BoolE (usedB l x) w) := by
  obtain ⟨a, cap, rfl, _⟩ := id h
  have HC := Lib.hid (ContainsC_any _ l _ _ _ F _ (h.kept ((Kept.refl NoB w).alloc (.cells #[.int .i64 x] 3)) (fun _ _ _ h => h)) (used_tells l x w.heap.size (w.alloc (.cells #[.int .i64 x] 3)) (cell_of_row _ _ 0 _ _ _ (heap_alloc_new w _))))
  obtain ⟨d, hd⟩ : ∃ d, d = usedB l x := ⟨_, rfl⟩
  have e : (l.any fun c => decide (x ∈ c.mem)) = d := hd.symm
  rw [e] at HC
  rw [← hd]
  clear h e hd
  go_enter Tryz.func47, Tryz.ntmps47
  go_wp2_with fail
  refine HC.out.mono ?_
  rintro e w1 ⟨rfl, hk⟩
  have HK := Lib.hid (((Kept.refl NoB w).alloc _).trans hk (fun _ _ h => h))
  clear hk
  go_wp2
  go_ret
  exact ⟨rfl, HK.out⟩
end Go.Proofs.YtclfecninhipnaaGreatDoor
namespace Go.Proofs.YtclfecninhipnaaGreatDoor
open Go.RowKit
set_option linter.unusedVariables false

theorem balloc {w : World} {g : Nat} {o : Obj} (h : w.heap[g]? = some o) (x : Obj) : (w.alloc x).heap[g]? = some o := (heap_alloc_old w x (heap_lt h)).trans h
theorem ent_all1 : Enters 46 := fun args w => by kernel_rfl
theorem All1_any (v : Value) (l : List Cf) (x : Int) (k gl gi : Nat) (F : Nat → Prop) (w : World) (h : CfsAt w F v l) (hk : k ≤ l.length) (hgl : w.cell? ⟨gl, 0, none⟩ = some v) (hgi : w.cell? ⟨gi, 0, none⟩ = some (.int .i64 k)) :
    Calls Tryz.prog 46 #[.int .i64 x, .pointer (some ⟨gl, 0, none⟩), .pointer (some ⟨gi, 0, none⟩)] w (BoolE (usedB (l.take k) x) w) := by
  obtain ⟨a, cap, rfl, hc, _⟩ := id h
  have hl : l.length ≤ 9223372036854775807 := by have := h.len; unfold maxLen at this; omega
  have HU := Lib.hid (Used_any _ _ x F w (cfs_take h hk))
  have hk2 : (k : Int) ≤ (cap : Int) := by omega
  obtain ⟨d, hd⟩ : ∃ d, d = usedB (l.take k) x := ⟨_, rfl⟩
  rw [← hd] at HU ⊢
  clear h hd
  go_enter Tryz.func46, Tryz.ntmps46
  go_wp2_with fail
  refine HU.out.mono ?_
  rintro e w1 ⟨rfl, hk⟩
  have HK := Lib.hid hk
  clear hk
  go_wp2
  go_ret
  exact ⟨rfl, HK.out⟩
set_option maxRecDepth 100000 in
set_option maxHeartbeats 1000000 in
theorem All_any (v : Value) (l : List Cf) (F : Nat → Prop) (w : World) (h : CfsAt w F v l) : Calls Tryz.prog 27 #[v] w (BoolE (allB l) w) := by
  obtain ⟨a, cap, rfl, _⟩ := id h
  have hl : l.length ≤ 9223372036854775807 := by have := h.len; unfold maxLen at this; omega
  have HL := Lib.hid (@all_len l)
  obtain ⟨d, hd⟩ : ∃ d, d = allB l := ⟨_, rfl⟩
  rw [← hd] at HL ⊢
  have HD := Lib.hid hd
  have H := Lib.hid h
  have HB := Lib.hid (heap_alloc_new w (.cells #[.slice a l.length cap] 28))
  clear h hd
  by_cases h1 : l.length < 1
  · have HE := Lib.hid (HL.out (.inl h1))
    have h1' : decide ((l.length : Int) < 1) = true := decide_eq_true (by omega)
    have h0 : (l.length : Int) = 0 := by omega
    clear HL h0
    go_enter Tryz.func27, Tryz.ntmps27
    go_wp2
    go_ret
    exact ⟨(by rw [HE.out] <;> rfl), (Kept.refl _ _).alloc _⟩
  · by_cases h4 : 4 < l.length
    · have HE := Lib.hid (HL.out (.inr h4))
      have h1' : decide ((l.length : Int) < 1) = false := decide_eq_false (by omega)
      have h4' : decide (4 < (l.length : Int)) = true := decide_eq_true (by omega)
      clear HL
      go_enter Tryz.func27, Tryz.ntmps27
      go_wp2
      go_ret
      exact ⟨(by rw [HE.out] <;> rfl), (Kept.refl _ _).alloc _⟩
    · have h1' : decide ((l.length : Int) < 1) = false := decide_eq_false (by omega)
      have h4' : decide (4 < (l.length : Int)) = false := decide_eq_false (by omega)
      have hL1 : 1 ≤ l.length := by omega
      have hL4 : l.length ≤ 4 := by omega
      have HK0 := Lib.hid ((Kept.refl NoB w).alloc (.cells #[.slice a l.length cap] 28))
      have hsz : w.heap.size < (w.alloc (.cells #[.slice a l.length cap] 28)).heap.size := by simp
      clear HL h1 h4
      go_enter Tryz.func27, Tryz.ntmps27
      go_wp2_with fail
      go_loopw [3, 4, 5, 16] (fun _ _ _ i wr => ∃ k : Nat, i = .int .i64 k ∧ k ≤ l.length ∧ (∀ j, j < k → OneOk l j) ∧ Kept NoB w wr ∧ wr.heap[w.heap.size]? = some (.cells #[.slice a l.length cap] 28 (0, 0))) (fun _ _ _ i _ => l.length - (intOf i).toNat)
      case atStart => exact ⟨0, rfl, Nat.zero_le _, fun j h => absurd h (by omega), HK0.out, HB.out⟩
      case round =>
        obtain ⟨k, rfl, hk, hno, hkk, hbb⟩ := hrel
        have HN := Lib.hid hno
        have HK := Lib.hid hkk
        have HBB := Lib.hid hbb
        clear hno hkk hbb
        by_cases hlt : k < l.length
        · have hcs := (H.out.kept HK.out (fun _ _ _ h => h))
          obtain ⟨b, o, rfl, _, _, u, e0, e1, e2, e3, e4, hns, hep⟩ := hcs.at_ hlt
          obtain ⟨ua, uc, rfl, _⟩ := id hns
          have HA := Lib.hid (all_bad hlt)
          have HO : Hid (OneOk l k ↔ Rgt (nthC l k) ∧ (nthC l k).ch = k ∧ ∀ x ∈ (nthC l k).mem, usedB (l.take k) x = false) := Lib.hid Iff.rfl
          have hcv := cf_eta _ _ _ _ hns hep
          obtain ⟨y, hy⟩ : ∃ y, y = nthC l k := ⟨_, rfl⟩
          rw [← hy] at e0 e1 e2 e3 e4 HO hcv
          have hk1 : (k : Int) < (l.length : Int) := by omega
          have HCV := Lib.hid hcv
          have HCS := Lib.hid hcs
          obtain ⟨cy, hcy⟩ : ∃ z, z = y.ch := ⟨_, rfl⟩
          rw [← hcy] at e0 HO hcv HCV
          have HMM := Lib.hid (fun w' (hk : Kept NoB wr w') => members_any _ y F w' (HCV.out.kept hk (fun _ _ _ h => h)))
          have HRR := Lib.hid (fun w' (hk : Kept NoB wr w') => Right_any _ y F w' (HCV.out.kept hk (fun _ _ _ h => h)))
          have HR0 : Hid (Rgt y ↔ rgtB y = true) := Lib.hid (by unfold rgtB; simp)
          obtain ⟨r, hr⟩ : ∃ r, r = rgtB y := ⟨_, rfl⟩
          rw [← hr] at HRR HR0
          have hc := heap_alloc_new (wr.alloc (.cells #[.int .i64 (k : Int)] 3)) (.cells #[.int .i64 cy, .int .u64 y.ep, .slice ua y.ns.length uc, .bool y.fr, .int .i64 y.jn] 44)
          have hz : (wr.alloc (.cells #[.int .i64 (k : Int)] 3)).heap.size = wr.heap.size + 1 := by simp
          rw [hz] at hc
          have HC := Lib.hid hc
          have HI := Lib.hid (balloc (heap_alloc_new wr (.cells #[.int .i64 (k : Int)] 3)) (.cells #[.int .i64 cy, .int .u64 y.ep, .slice ua y.ns.length uc, .bool y.fr, .int .i64 y.jn] 44))
          have HB2 := Lib.hid (balloc (balloc HBB.out (.cells #[.int .i64 (k : Int)] 3)) (.cells #[.int .i64 cy, .int .u64 y.ep, .slice ua y.ns.length uc, .bool y.fr, .int .i64 y.jn] 44))
          have HK2 := Lib.hid (((Kept.refl NoB wr).alloc (.cells #[.int .i64 (k : Int)] 3)).alloc (.cells #[.int .i64 cy, .int .u64 y.ep, .slice ua y.ns.length uc, .bool y.fr, .int .i64 y.jn] 44))
          clear hy hns hep hcv hcs hcy hc hz hr
          cases r with
          | false =>
            have HE : Hid (allB l = false) := Lib.hid (HA.out (fun h => by have := (HR0.out).1 ((HO.out).1 h).1; cases this))
            go_wp2_with fail
            refine (HRR.out _ HK2.out).mono ?_
            rintro e w1 ⟨rfl, hk1⟩
            have HKF := Lib.hid ((HK.out.trans HK2.out (fun _ _ h => h)).trans hk1 (fun _ _ h => h))
            clear hk1
            go_wp2
            go_ret
            exact ⟨(by rw [HD.out, HE.out] <;> rfl), HKF.out⟩
          | true =>
            by_cases hck : cy = (k : Int)
            · have HP := Lib.hid hck
              have hckb : ((cy : Int) != (k : Int)) = false := by simpa using hck
              have HT : Hid (∀ w', Kept NoB wr w' → TellsN 46 #[.pointer (some ⟨w.heap.size, 0, none⟩), .pointer (some ⟨wr.heap.size, 0, none⟩)] y.mem (fun x => usedB (l.take k) x) w' ∨ w'.cell? ⟨wr.heap.size, 0, none⟩ ≠ some (.int .i64 (k : Int))) := Lib.hid (fun w' hk' => by
                by_cases hce : w'.cell? ⟨wr.heap.size, 0, none⟩ = some (.int .i64 (k : Int))
                · refine .inl ⟨ent_all1, fun x w2 _ hk2 => All1_any _ l x k w.heap.size wr.heap.size F w2 (HCS.out.kept (hk'.trans hk2 (fun _ _ h => h)) (fun _ _ _ h => h)) (by omega) (cell_of_row _ _ 0 _ _ _ ((hk'.trans hk2 (fun _ _ h => h)).heap (fun h => h) HBB.out)) (hk2.cell (p := ⟨wr.heap.size, 0, none⟩) (fun h => h) hce)⟩
                · exact .inr hce)
              obtain ⟨d2, hd2⟩ : ∃ d2, d2 = y.mem.any (fun x => usedB (l.take k) x) := ⟨_, rfl⟩
              have HD2 := Lib.hid hd2
              have HCN := Lib.hid (fun v F w' (h : NSl w' F v y.mem) hp => hd2 ▸ ContainsN_any v y.mem 46 #[.pointer (some ⟨w.heap.size, 0, none⟩), .pointer (some ⟨wr.heap.size, 0, none⟩)] (fun x => usedB (l.take k) x) F w' h hp)
              clear hd2 hck
              go_wp2_with fail
              refine (HRR.out _ HK2.out).mono ?_
              rintro e w1 ⟨rfl, hk1⟩
              have HK3 := Lib.hid (HK2.out.trans hk1 (fun _ _ h => h))
              obtain ⟨c0, c1, c2, c3, c4⟩ := cells5 (hk1.heap (fun h => h) HC.out)
              have i0 := cell_of_row _ _ 0 _ _ _ (hk1.heap (fun h => h) HI.out)
              have HI3 := Lib.hid i0
              clear hk1
              go_wp2_with fail
              refine (HMM.out _ HK3.out).mono ?_
              rintro e w2 ⟨v', rfl, hn, hk2⟩
              have HN2 := Lib.hid hn
              have HK4 := Lib.hid (HK3.out.trans hk2 (fun _ _ h => h))
              have HI4 := Lib.hid (hk2.cell (p := ⟨wr.heap.size, 0, none⟩) (fun h => h) HI3.out)
              clear hn hk2 c0 c1 c2 c3 c4 i0
              go_wp2_with fail
              refine (HCN.out _ _ _ HN2.out ((HT.out _ HK4.out).resolve_right (fun h => h HI4.out))).mono ?_
              rintro e w3 ⟨rfl, hk3⟩
              have HK5 := Lib.hid (HK4.out.trans hk3 (fun _ _ h => h))
              have HKF := Lib.hid (HK.out.trans HK5.out (fun _ _ h => h))
              have HB5 := Lib.hid (HK5.out.heap (fun h => h) HBB.out)
              clear hk3
              cases d2 with
              | true =>
                have HE : Hid (allB l = false) := Lib.hid (HA.out (fun h => by
                  have h3 := ((HO.out).1 h).2.2
                  obtain ⟨x, hx, hu⟩ := List.any_eq_true.1 HD2.out.symm
                  rw [h3 x hx] at hu
                  cases hu))
                go_wp2
                go_ret
                exact ⟨(by rw [HD.out, HE.out] <;> rfl), HKF.out⟩
              | false =>
                have HE : Hid (OneOk l k) := Lib.hid ((HO.out).2 ⟨(HR0.out).2 (by simp), HP.out, fun x hx => by
                  have := List.any_eq_false.1 HD2.out.symm x hx
                  simpa using this⟩)
                go_wp2
                exact ⟨⟨k + 1, by go_num, by omega, fun j hj => by
                  rcases Nat.lt_or_ge j k with h | h
                  · exact HN.out j h
                  · obtain rfl : j = k := by omega
                    exact HE.out, HKF.out, HB5.out⟩, by simp [intOf]; omega⟩
            · have HE : Hid (allB l = false) := Lib.hid (HA.out (fun h => hck ((HO.out).1 h).2.1))
              have hckb : ((cy : Int) != (k : Int)) = true := by simpa using hck
              clear hck
              go_wp2_with fail
              refine (HRR.out _ HK2.out).mono ?_
              rintro e w1 ⟨rfl, hk1⟩
              have HKF := Lib.hid ((HK.out.trans HK2.out (fun _ _ h => h)).trans hk1 (fun _ _ h => h))
              obtain ⟨c0, c1, c2, c3, c4⟩ := cells5 (hk1.heap (fun h => h) HC.out)
              have i0 := cell_of_row _ _ 0 _ _ _ (hk1.heap (fun h => h) HI.out)
              clear hk1
              go_wp2
              go_ret
              exact ⟨(by rw [HD.out, HE.out] <;> rfl), HKF.out⟩
        · obtain rfl : k = l.length := by omega
          go_wp2
          go_ret
          exact ⟨(by rw [HD.out, show allB l = true from decide_eq_true ⟨hL1, hL4, HN.out⟩] <;> rfl), HK.out⟩
end Go.Proofs.YtclfecninhipnaaGreatDoor
namespace Go.Proofs.YtclfecninhipnaaGreatDoor
open Go.RowKit
set_option linter.unusedVariables false

theorem memL_small {l : List Cf} (h : ∀ i, i < l.length → Rgt (nthC l i)) (k : Nat) (hk : k ≤ l.length) : (memL (l.take k)).length ≤ 6 * k := by
  induction k with
  | zero => simp [memL]
  | succ k ih =>
    rw [memL_take (by omega), List.length_append]
    have h1 := ih (by omega)
    have h2 := (h k (by omega)).2.2.2.2.1
    have h3 : (nthC l k).mem.length ≤ (nthC l k).ns.length + 1 := by
      unfold Cf.mem
      split
      · omega
      · simp
    omega
theorem all_len4 {l : List Cf} (h : allB l = true) : l.length ≤ 4 := (of_decide_eq_true h : AllC l).2.1
end Go.Proofs.YtclfecninhipnaaGreatDoor
namespace Go.Proofs.YtclfecninhipnaaGreatDoor
open Go.RowKit
set_option linter.unusedVariables false

theorem CloneN_any (v : Value) (l : List Int) (F : Nat → Prop) (w : World) (h : NSl w F v l) (hl : l.length ≤ 1000) :
    Calls Tryz.prog 52 #[v] w fun e w' => ∃ v', e = .returned v' ∧ IOwn w.heap.size w' v' l ∧ Kept NoB w w' := by
  obtain ⟨a, cap, rfl, _, _, hn0, _⟩ := id h
  cases a with
  | none =>
    have h0 := hn0 rfl
    have h1 := h.len.2.1
    subst h0
    obtain rfl : l = [] := List.eq_nil_of_length_eq_zero (by omega)
    have hn := fun (w : World) => Lib.run_eql_slice_nil (P := Tryz.prog) w 42 3 none 0 0 0 0 Tryz.underlying42
    clear h hn0
    go_enter Tryz.func52, Tryz.ntmps52
    go_wp2
    go_ret
    exact ⟨_, rfl, IOwn.nil _ _, Kept.refl _ _⟩
  | some ad =>
    have hn := fun (w : World) => Lib.run_eql_slice_nil (P := Tryz.prog) w 42 3 (some ad) l.length cap 0 0 Tryz.underlying42
    have HM : Hid (IOwn w.heap.size (w.alloc (.cells #[] 3)) (.slice (some ⟨w.heap.size, 0, none⟩) 0 0) []) := Lib.hid (World.ownsRow_made (base := w.heap.size) (size := 1) w #[] (e := 3) 0 (Nat.le_refl _) (by decide) rfl)
    have HN := Lib.hid (h.kept ((Kept.refl NoB w).alloc (.cells #[] 3)) (fun _ _ _ h => h))
    clear h hn0
    go_enter Tryz.func52, Tryz.ntmps52
    go_wp2_with (at_builtin; refine wpList_append_nsl _ rfl (.tmp 5) (.tmp 6) rfl w.heap.size (.slice (some ⟨w.heap.size, 0, none⟩) 0 0) [] rfl HM.out F (.slice (some ad) l.length cap) l rfl HN.out (by simp; omega) (by simp) ?_; intro a1 c1 w1 hown1 hg1 hat1; clear hat1)
    go_ret
    exact ⟨_, rfl, by simpa using hown1, ((Kept.refl _ _).alloc _).grown hg1 (fun k hk => .inr (by have : w.heap.size = k := (by simpa [Value.ownBlock] using hk); omega))⟩
/-- The cells of a list of configurations; us: their nodes' slices. -/
def cellC (l : List Cf) (us : Nat → Value) (m : Nat) : Value :=
  if m % 5 = 0 then .int .i64 (nthC l (m / 5)).ch else if m % 5 = 1 then .int .u64 (nthC l (m / 5)).ep else if m % 5 = 2 then us (m / 5) else if m % 5 = 3 then .bool (nthC l (m / 5)).fr else .int .i64 (nthC l (m / 5)).jn
theorem cellC0 (l : List Cf) (us : Nat → Value) (j : Nat) : cellC l us (j * 5) = .int .i64 (nthC l j).ch := by
  unfold cellC
  rw [if_pos (by omega), show j * 5 / 5 = j by omega]
theorem cellC1 (l : List Cf) (us : Nat → Value) (j : Nat) : cellC l us (j * 5 + 1) = .int .u64 (nthC l j).ep := by
  unfold cellC
  rw [if_neg (by omega), if_pos (by omega), show (j * 5 + 1) / 5 = j by omega]
theorem cellC2 (l : List Cf) (us : Nat → Value) (j : Nat) : cellC l us (j * 5 + 2) = us j := by
  unfold cellC
  rw [if_neg (by omega), if_neg (by omega), if_pos (by omega), show (j * 5 + 2) / 5 = j by omega]
theorem cellC3 (l : List Cf) (us : Nat → Value) (j : Nat) : cellC l us (j * 5 + 3) = .bool (nthC l j).fr := by
  unfold cellC
  rw [if_neg (by omega), if_neg (by omega), if_neg (by omega), if_pos (by omega), show (j * 5 + 3) / 5 = j by omega]
theorem cellC4 (l : List Cf) (us : Nat → Value) (j : Nat) : cellC l us (j * 5 + 4) = .int .i64 (nthC l j).jn := by
  unfold cellC
  rw [if_neg (by omega), if_neg (by omega), if_neg (by omega), if_neg (by omega), show (j * 5 + 4) / 5 = j by omega]
def cellsC (l : List Cf) (us : Nat → Value) : List Value := (List.range (l.length * 5)).map (cellC l us)
theorem cellsC_at {l : List Cf} {us : Nat → Value} {m : Nat} (h : m < l.length * 5) : (cellsC l us)[m]? = some (cellC l us m) := by
  unfold cellsC
  rw [List.getElem?_map, List.getElem?_range h]
  rfl
/-- Block r is a row of these configurations. -/
def RowC (w : World) (r cap : Nat) (l : List Cf) (us : Nat → Value) : Prop :=
  ∃ cs : Array Value, w.heap[r]? = some (.cells cs 44 (0, 0)) ∧ cs.size = cap * 5 ∧ l.length ≤ cap ∧ cap ≤ maxLen ∧ ∀ m, m < l.length * 5 → cs[m]? = some (cellC l us m)
theorem RowC.kept {S : Nat → Prop} {w w' : World} {r cap : Nat} {l : List Cf} {us : Nat → Value} (h : RowC w r cap l us) (hk : Kept S w w') (hs : ¬ S r) : RowC w' r cap l us := by
  obtain ⟨cs, h1, h2⟩ := h
  exact ⟨cs, hk.heap hs h1, h2⟩
theorem RowC.cell {w : World} {r cap : Nat} {l : List Cf} {us : Nat → Value} (h : RowC w r cap l us) {m : Nat} (hm : m < l.length * 5) : w.cell? ⟨r, m, none⟩ = some (cellC l us m) ∧ w.frozen? ⟨r, m, none⟩ = false := by
  obtain ⟨cs, h1, h2, _, _, h3⟩ := h
  exact ⟨(cell_of_row _ _ _ _ _ _ h1).trans (h3 m hm), by simp [World.frozen?, h1]⟩
theorem RowC.lt {w : World} {r cap : Nat} {l : List Cf} {us : Nat → Value} (h : RowC w r cap l us) : r < w.heap.size := by
  obtain ⟨cs, h1, _⟩ := h
  exact heap_lt h1
/-- Each one's nodes lie where they are read. -/
def NodesC (w : World) (F : Nat → Prop) (l : List Cf) (us : Nat → Value) : Prop := ∀ j, j < l.length → NSl w F (us j) (nthC l j).ns ∧ 0 ≤ (nthC l j).ep ∧ (nthC l j).ep ≤ topE ∧ (nthC l j).ns.length ≤ 1000
theorem NodesC.kept {S F : Nat → Prop} {w w' : World} {l : List Cf} {us : Nat → Value} (h : NodesC w F l us) (hk : Kept S w w') (hs : ∀ k, k < w.heap.size → F k → ¬ S k) : NodesC w' F l us :=
  fun j hj => ⟨(h j hj).1.kept hk hs, (h j hj).2⟩
theorem RowC.cfs {w : World} {r cap : Nat} {l : List Cf} {us : Nat → Value} {F : Nat → Prop} (h : RowC w r cap l us) (hn : NodesC w F l us) (hF : F r) : CfsAt w F (.slice (some ⟨r, 0, none⟩) l.length cap) l := by
  have hlt := h.lt
  obtain ⟨_, _, _, h3, h4, _⟩ := id h
  refine ⟨_, cap, rfl, h3, h4, (fun h => by cases h), fun _ => ⟨r, 0, rfl, hF, hlt, fun j hj => ?_⟩⟩
  obtain ⟨hu, hb⟩ := hn j hj
  have c0 := (h.cell (m := j * 5) (by omega)).1
  have c1 := (h.cell (m := j * 5 + 1) (by omega)).1
  have c2 := (h.cell (m := j * 5 + 2) (by omega)).1
  have c3 := (h.cell (m := j * 5 + 3) (by omega)).1
  have c4 := (h.cell (m := j * 5 + 4) (by omega)).1
  rw [cellC0] at c0
  rw [cellC1] at c1
  rw [cellC2] at c2
  rw [cellC3] at c3
  rw [cellC4] at c4
  refine ⟨us j, ?_, ?_, ?_, ?_, ?_, hu, hb⟩
  · simpa using c0
  · simpa using c1
  · simpa using c2
  · simpa using c3
  · simpa using c4
/-- The slices of the nodes of configurations that are read. -/
theorem cfs_us {F : Nat → Prop} {w : World} {a : Option Addr} {n cap : Nat} {l : List Cf} (h : CfsAt w F (.slice a n cap) l) :
    ∃ us : Nat → Value, NodesC w F l us ∧ ∀ ad, a = some ad → ∀ m u, (cellsC l us)[m]? = some u → w.cell? (ad.add m) = some u := by
  have key : ∀ j, ∃ u, j < l.length → (NSl w F u (nthC l j).ns ∧ 0 ≤ (nthC l j).ep ∧ (nthC l j).ep ≤ topE ∧ (nthC l j).ns.length ≤ 1000) ∧ ∀ ad, a = some ad → ∀ i, i < 5 → w.cell? (ad.add (j * 5 + i)) = some (cellC l (fun _ => u) (j * 5 + i)) := by
    intro j
    by_cases hj : j < l.length
    · obtain ⟨b, o, ha, _, _, u, e0, e1, e2, e3, e4, hn, hb⟩ := h.at_ hj
      refine ⟨u, fun _ => ⟨⟨hn, hb⟩, fun ad had i hi => ?_⟩⟩
      rw [ha] at had
      injection had with had
      subst had
      have hadd : ∀ m, (⟨b, o, none⟩ : Addr).add m = ⟨b, o + m, none⟩ := fun m => by unfold Addr.add; split <;> simp_all
      rw [hadd]
      rcases (by omega : i = 0 ∨ i = 1 ∨ i = 2 ∨ i = 3 ∨ i = 4) with rfl | rfl | rfl | rfl | rfl
      · rw [Nat.add_zero, cellC0]; exact e0
      · rw [cellC1, ← Nat.add_assoc]; exact e1
      · rw [cellC2, ← Nat.add_assoc]; exact e2
      · rw [cellC3, ← Nat.add_assoc]; exact e3
      · rw [cellC4, ← Nat.add_assoc]; exact e4
    · exact ⟨undef, fun h => absurd h hj⟩
  refine ⟨fun j => Classical.choose (key j), fun j hj => (Classical.choose_spec (key j) hj).1, fun ad had m u hu => ?_⟩
  have hm : m < l.length * 5 := by
    rcases Nat.lt_or_ge m (l.length * 5) with h | h
    · exact h
    · rw [List.getElem?_eq_none (by simpa [cellsC] using h)] at hu; cases hu
  rw [cellsC_at hm] at hu
  injection hu with hu
  have hs := (Classical.choose_spec (key (m / 5)) (by omega)).2 ad had (m % 5) (by omega)
  rw [show m / 5 * 5 + m % 5 = m by omega] at hs
  rw [hs, ← hu]
  rfl
theorem cellsC_one {l : List Cf} {us : Nat → Value} {w : World} {F : Nat → Prop} (h : NodesC w F l us) : ∀ u ∈ cellsC l us, u.oneCell' = true := by
  intro u hu
  unfold cellsC at hu
  obtain ⟨m, hm, rfl⟩ := List.mem_map.1 hu
  rw [List.mem_range] at hm
  unfold cellC
  split
  · rfl
  · split
    · rfl
    · split
      · obtain ⟨a, cap, he, _⟩ := (h (m / 5) (by omega)).1
        rw [he]
        rfl
      · split <;> rfl
theorem info_conf : (Tryz.prog.info? 44).map (fun i => (i.zero.map (·.cells.size), i.size, i.bytes)) = some (some 5, 5, 56) := by kernel_rfl
theorem conf_zero : (Tryz.prog.info? 44).map (fun i => (i.zero, i.size, i.bytes)) = some (some (.agg #[.int .i64 0, .int .u64 0, .slice none 0 0, .bool false, .int .i64 0]), 5, 56) := by kernel_rfl
theorem row_of_own {w : World} {base r cap n : Nat} {l : List Cf} {us : Nat → Value} (h : w.ownsRow base 44 5 (.slice (some ⟨r, 0, none⟩) n cap) l.length (cellsC l us)) : RowC w r cap l us ∧ base ≤ r := by
  rcases h.2 with ⟨hv, _⟩ | ⟨g, c, cur, hv, hb, hr, hc, hm, hs, ht⟩
  · cases hv
  · injection hv with hv hn hcap
    injection hv with hv
    injection hv with hv _ _
    subst hv hcap
    refine ⟨⟨cur, hr, hs, hc, hm, fun m hm => ?_⟩, hb⟩
    have := cellsC_at (us := us) hm
    rw [← ht] at this
    rw [List.getElem?_take, if_pos (by omega)] at this
    simpa using this
set_option maxRecDepth 100000 in
theorem CloneC_any (v : Value) (l : List Cf) (F : Nat → Prop) (w : World) (h : CfsAt w F v l) (hl : l.length ≤ 1000) :
    Calls Tryz.prog 51 #[v] w fun e w' => Kept NoB w w' ∧ ((l = [] ∧ ∃ a c, e = .returned (.slice a 0 c) ∧ c ≤ maxLen ∧ (a = none → c = 0)) ∨ ∃ r cap us, e = .returned (.slice (some ⟨r, 0, none⟩) l.length cap) ∧ w.heap.size ≤ r ∧ RowC w' r cap l us ∧ NodesC w F l us) := by
  obtain ⟨i0, hi0, hz0, hz1, hz2⟩ := info_parts conf_zero
  obtain ⟨a, cap, rfl, _, _, hn0, _⟩ := id h
  cases a with
  | none =>
    have h0 := hn0 rfl
    have h1 := h.len.2.1
    subst h0
    obtain rfl : l = [] := List.eq_nil_of_length_eq_zero (by omega)
    have hn := fun (w : World) => Lib.run_eql_slice_nil (P := Tryz.prog) w 28 44 none 0 0 0 0 Tryz.underlying28
    clear h hn0
    go_enter Tryz.func51, Tryz.ntmps51
    go_wp2
    go_ret
    exact ⟨Kept.refl _ _, .inl ⟨(by simp), none, 0, rfl, Nat.zero_le _, fun _ => rfl⟩⟩
  | some ad =>
    have hn := fun (w : World) => Lib.run_eql_slice_nil (P := Tryz.prog) w 28 44 (some ad) l.length cap 0 0 Tryz.underlying28
    obtain ⟨us, hus, hcell⟩ := cfs_us h
    have HM := Lib.hid (World.ownsRow_made (base := w.heap.size) (size := 5) w #[] (e := 44) 0 (Nat.le_refl _) (by decide) rfl)
    have HU := Lib.hid hus
    have HC : Hid (∀ m u, (cellsC l us)[m]? = some u → (w.alloc (.cells #[] 44)).cell? (ad.add m) = some u) := Lib.hid (fun m u hu => cell_alloc (hcell ad rfl m u hu) _)
    have HO := Lib.hid (cellsC_one hus)
    have HL : Hid ((cellsC l us).length = l.length * 5) := Lib.hid (by simp [cellsC])
    clear h hn0 hus hcell
    go_enter Tryz.func51, Tryz.ntmps51
    go_wp2_with (at_builtin; refine wpList_append_own _ (by rfl) (.tmp 5) (.tmp 6) 28 (by rfl) w.heap.size 44 i0 _ 5 56 Tryz.underlying28 hi0 hz0 hz1 hz2 rfl (by decide) (.slice (some ⟨w.heap.size, 0, none⟩) 0 0) 0 [] (by rfl) HM.out ad l.length cap (cellsC l us) (by rfl) HL.out HC.out HO.out (by unfold maxLen; omega) (by omega) (by simp) ?_; intro v' w1 hown1 hgrow _; have HO1 := Lib.hid hown1; have HG1 := Lib.hid hgrow; clear hown1 hgrow)
    go_ret
    have h1 := HO1.out
    rw [Nat.zero_add, List.nil_append] at h1
    have hk : Kept NoB w w1 := (Kept.refl _ _).alloc _ |>.grown HG1.out (fun k hk => .inr (by have : w.heap.size = k := (by simpa [Value.ownBlock] using hk); omega))
    refine ⟨hk, ?_⟩
    rcases h1.2 with ⟨rfl, h0⟩ | ⟨g, c, cur, rfl, hb, hr, hc, hm, hs, ht⟩
    · have hnil : l = [] := List.eq_nil_of_length_eq_zero h0
      exact .inl ⟨hnil, none, 0, by subst hnil; rfl, Nat.zero_le _, fun _ => rfl⟩
    · exact .inr ⟨g, c, us, rfl, hb, (row_of_own h1).1, HU.out⟩
end Go.Proofs.YtclfecninhipnaaGreatDoor
namespace Go.Proofs.YtclfecninhipnaaGreatDoor
open Go.RowKit
set_option linter.unusedVariables false

/-- Each one's nodes are a row of the call's own, each another one. -/
def OwnC (B : Nat) (w : World) (l : List Cf) (us : Nat → Value) : Prop :=
  (∀ j, j < l.length → IOwn B w (us j) (nthC l j).ns ∧ 0 ≤ (nthC l j).ep ∧ (nthC l j).ep ≤ topE ∧ (nthC l j).ns.length ≤ 1000) ∧ (∀ i j k, i < l.length → j < l.length → i ≠ j → (us i).ownBlock = some k → (us j).ownBlock ≠ some k)
theorem OwnC.nodes {B : Nat} {w : World} {l : List Cf} {us : Nat → Value} (h : OwnC B w l us) : NodesC w (fun k => B ≤ k) l us := fun j hj => ⟨((h.1 j hj).1).nslB, (h.1 j hj).2⟩
theorem OnlyB.not {g k : Nat} (h : k ≠ g) : ¬ (fun i => i = g) k := h
theorem Kept.only' {S : Nat → Prop} {a w : World} (h : Kept S a w) {g : Nat} (hg : S g ∨ a.heap.size ≤ g) (o : Nat) (u : Value) : Kept S a (w.setCell ⟨g, o, none⟩ u) := h.setCell (p := ⟨g, o, none⟩) hg u
theorem row_ne {w : World} {r cap B : Nat} {l : List Cf} {us : Nat → Value} {v : Value} {ns : List Int} (h : RowC w r cap l us) (hv : IOwn B w v ns) : v.ownBlock ≠ some r := by
  obtain ⟨cs, h1, _⟩ := h
  exact (own_ne hv h1 (by decide)).symm
theorem RowC.put {w : World} {r cap : Nat} {l : List Cf} {us : Nat → Value} (h : RowC w r cap l us) {k : Nat} (hk : k < l.length) (v : Value) : RowC (w.setCell ⟨r, k * 5 + 2, none⟩ v) r cap l (fun j => if j = k then v else us j) := by
  obtain ⟨cs, h1, h2, h3, h4, h5⟩ := h
  refine ⟨cs.setIfInBounds (k * 5 + 2) v, by simp [World.setCell, Array.getElem?_modify, h1], by simpa using h2, h3, h4, fun m hm => ?_⟩
  rw [Array.getElem?_setIfInBounds]
  by_cases e : k * 5 + 2 = m
  · subst e
    rw [if_pos rfl, if_pos (by omega), cellC2, if_pos rfl]
  · rw [if_neg e, h5 m hm]
    congr 1
    unfold cellC
    split
    · rfl
    · split
      · rfl
      · split
        · rename_i hm2
          show us (m / 5) = if m / 5 = k then v else us (m / 5)
          rw [if_neg (by omega)]
        · rfl
def CopyEnd (l : List Cf) (w : World) (e : Ending) (w' : World) : Prop :=
  Kept NoB w w' ∧ ((l = [] ∧ ∃ a c, e = .returned (.slice a 0 c) ∧ c ≤ maxLen ∧ (a = none → c = 0)) ∨ ∃ r cap us, e = .returned (.slice (some ⟨r, 0, none⟩) l.length cap) ∧ w.heap.size ≤ r ∧ RowC w' r cap l us ∧ OwnC w.heap.size w' l us)
set_option maxRecDepth 100000 in
set_option maxHeartbeats 1000000 in
theorem Copy_any (v : Value) (l : List Cf) (w : World) (F : Nat → Prop) (h : CfsAt w F v l) (hl : l.length ≤ 1000) : Calls Tryz.prog 28 #[v] w (CopyEnd l w) := by
  obtain ⟨a, cap, rfl, _⟩ := id h
  have HC := Lib.hid (CloneC_any _ l F w h hl)
  have H := Lib.hid h
  clear h
  go_enter Tryz.func28, Tryz.ntmps28
  go_wp2_with fail
  refine HC.out.mono ?_
  rintro e w1 ⟨hk1, ⟨rfl, a', c', rfl, hc', hn'⟩ | ⟨r, rc, us, rfl, hr, hrow, hnod⟩⟩
  · have HK1 := Lib.hid hk1
    have HX := Lib.hid hc'
    have HY := Lib.hid hn'
    clear hk1 hc' hn'
    go_wp2_with fail
    go_loopw [10] (fun i wr => i = .int .i64 0 ∧ wr = w1) (fun _ _ => 0)
    case atStart => exact ⟨rfl, rfl⟩
    case round =>
      obtain ⟨rfl, rfl⟩ := hrel
      go_wp2
      go_ret
      exact ⟨HK1.out, .inl ⟨(by simp), a', c', rfl, HX.out, HY.out⟩⟩
  · have HR := Lib.hid hrow
    have HK1 := Lib.hid hk1
    clear hk1 hrow hnod
    go_wp2_with fail
    go_loopw [4, 5, 10] (fun _ _ i wr => ∃ (k : Nat) (us : Nat → Value), i = .int .i64 k ∧ k ≤ l.length ∧ RowC wr r rc l us ∧ Kept NoB w wr ∧ (∀ j, j < k → IOwn w.heap.size wr (us j) (nthC l j).ns) ∧ (∀ i j b, i < k → j < k → i ≠ j → (us i).ownBlock = some b → (us j).ownBlock ≠ some b)) (fun _ _ i _ => l.length - (intOf i).toNat)
    case atStart => exact ⟨0, us, rfl, Nat.zero_le _, HR.out, HK1.out, fun j h => absurd h (by omega), fun i j b h => absurd h (by omega)⟩
    case round =>
      obtain ⟨k, us, rfl, hk, hrow, hkk, hown, hap⟩ := hrel
      have HRO := Lib.hid hrow
      have HK := Lib.hid hkk
      have HOW := Lib.hid hown
      have HAP := Lib.hid hap
      clear hrow hkk hown hap
      by_cases hlt : k < l.length
      · have hcs := (H.out.kept HK.out (fun _ _ _ h => h))
        obtain ⟨b, o, rfl, _, _, u, e0, e1, e2, e3, e4, hns, hep, htop, hnl⟩ := hcs.at_ hlt
        obtain ⟨ua, uc, rfl, _⟩ := id hns
        obtain ⟨y, hy⟩ : ∃ y, y = nthC l k := ⟨_, rfl⟩
        rw [← hy] at e0 e1 e2 e3 e4 hns hnl
        have HY := Lib.hid hy
        have hk1 : (k : Int) < (l.length : Int) := by omega
        have hk0 : (0 : Int) ≤ (k : Int) := by omega
        have HCL := Lib.hid (CloneN_any _ y.ns F _ (hns.kept ((Kept.refl NoB wr).alloc (.cells #[.int .i64 y.ch, .int .u64 y.ep, .slice ua y.ns.length uc, .bool y.fr, .int .i64 y.jn] 44)) (fun _ _ _ h => h)) hnl)
        clear hy hns hcs hep htop hnl
        go_wp2_with fail
        refine HCL.out.mono ?_
        rintro e w2 ⟨v', rfl, hown, hk2⟩
        have hka := ((Kept.refl NoB wr).alloc (.cells #[.int .i64 y.ch, .int .u64 y.ep, .slice ua y.ns.length uc, .bool y.fr, .int .i64 y.jn] 44)).trans hk2 (fun _ _ h => h)
        have HKA := Lib.hid hka
        have hr2 := HRO.out.kept hka (fun h => h)
        obtain ⟨hx2, hz2⟩ := hr2.cell (m := k * 5 + 2) (by omega)
        rw [cellC2] at hx2
        have HR2 := Lib.hid hr2
        have HO2 := Lib.hid hown
        have HLB : Hid (∀ b, v'.ownBlock = some b → wr.heap.size ≤ b) := Lib.hid (fun b hb => by have := (World.ownsRow.lt hown b hb).1; simp at this; omega)
        obtain ⟨va, vc, rfl⟩ := hown.form
        have hcapr : k < rc := by obtain ⟨_, _, _, hh, _⟩ := HRO.out; omega
        clear hown hk2 hka hr2
        go_wp2
        have hset : Kept (fun i => i = r) w2 (w2.setCell ⟨r, k * 5 + 2, none⟩ (.slice va y.ns.length vc)) := (Kept.refl (fun i => i = r) w2).only' (.inl rfl) _ _
        have hvr := row_ne HR2.out HO2.out
        refine ⟨⟨k + 1, fun j => if j = k then .slice va y.ns.length vc else us j, by go_num, by omega, HR2.out.put hlt _, ?_, fun j hj => ?_, fun i j bb hi hj hij => ?_⟩, by simp [intOf]; omega⟩
        · have hw := HK.out.trans HKA.out (fun _ _ h => h)
          exact hw.only' (.inr (by have := HK1.out.size; omega)) _ _
        · by_cases e : j = k
          · subst e
            simp only [if_true]
            rw [← HY.out]
            exact (row_keptI HO2.out hset (fun i hi h => hvr (h ▸ hi))).low (by have := HK.out.size; simp; omega)
          · simp only [if_neg e]
            have h1 := row_keptI (HOW.out j (by omega)) HKA.out (fun _ _ h => h)
            exact row_keptI h1 hset (fun i hi h => row_ne HR2.out h1 (h ▸ hi))
        · intro hb hb'
          simp only at hb hb'
          by_cases e : i = k
          · have e2 : j ≠ k := by omega
            rw [if_pos e] at hb
            rw [if_neg e2] at hb'
            have h1 := HLB.out bb hb
            have h2 := (World.ownsRow.lt (HOW.out j (by omega)) bb hb').2
            omega
          · rw [if_neg e] at hb
            by_cases e2 : j = k
            · rw [if_pos e2] at hb'
              have h1 := HLB.out bb hb'
              have h2 := (World.ownsRow.lt (HOW.out i (by omega)) bb hb).2
              omega
            · rw [if_neg e2] at hb'
              exact HAP.out i j bb (by omega) (by omega) hij hb hb'
      · obtain rfl : k = l.length := by omega
        go_wp2
        go_ret
        refine ⟨HK.out, .inr ⟨r, rc, us, rfl, hr, HRO.out, fun j hj => ?_, HAP.out⟩⟩
        obtain ⟨b, o, _, _, _, u, _, _, _, _, _, _, h1, h2, h3⟩ := H.out.at_ hj
        exact ⟨HOW.out j hj, h1, h2, h3⟩
end Go.Proofs.YtclfecninhipnaaGreatDoor
