/-
  Layer 29: Add of the package where it succeeds.
-/
import Derived.Test.YtokafgleejcbgaaDoorDirAF
namespace Go.Proofs.YtokafgleejcbgaaDoor
open Go.RowKit
set_option linter.unusedVariables false

/-- A slice whose address, where there is room behind it, is a plain one. -/
def PlainA (v : Value) : Prop := ∃ a n c, v = .slice a n c ∧ (c = n ∨ ∃ bb oo, a = some ⟨bb, oo, none⟩)
theorem ESl.zero29 (w : World) (F : Nat → Prop) (a : Option Addr) : ESl w F (.slice a 0 0) [] := ⟨_, 0, rfl, Nat.le_refl _, Nat.zero_le _, (fun _ => rfl), fun h => by cases h⟩
set_option maxRecDepth 100000 in
set_option maxHeartbeats 1000000 in
theorem vAdd29_ok (v : Value) (l : List En) (n : List UInt8) (m : Int) (F : Nat → Prop) (w : World) (h : ESl w F v l) (hF : ∀ k, F k → k < w.heap.size) (hz : chkE l = 0) (ho : oneE (n, m) = 0) (ha : ¬ l.any (nmIs n) = true) (h32 : l.length ≠ 32) (hadr : PlainA v) :
    Calls Tryd.prog 6 #[v, .agg #[.string ⟨n.toArray⟩, .int .i64 m]] w (GetE29 0 (insE (n, m) l) w) := by
  have hl32 := (chkE_zero hz).1
  have HC := Lib.hid (fun w (h : ESl w F v l) => vCheck29_any v l F w h (fun j hj => Nat.le_trans ((chkE_zero hz).2.2 _ (eth_mem hj)).1.1.2 (by decide)))
  have HO := Lib.hid (fun w => checkOne_any n m w (Nat.le_trans (oneE_zero ho).1.1.2 (by decide)))
  have HPL := Lib.hid (fun w (h : ESl w F v l) => place_any v l n F w h)
  rw [hz] at HC
  rw [ho] at HO
  rw [show idxE (nmIs n) l = -1 from by unfold idxE; rw [if_neg ha]] at HPL
  have HIX := Lib.hid (fun w' (h : ESl w' F v l) (hb : w'.heap[w.heap.size]? = some (.cells #[.string ⟨n.toArray⟩, .int .i64 m] 32 (0, 0))) => IndexE_any v l 22 #[.pointer (some ⟨w.heap.size, 0, none⟩)] (beh29 n) F w' h ⟨ent_add1, fun x w'' _ hk => add1_any x.1 x.2 n m w.heap.size w'' (hk.heap (fun h => h) hb)⟩)
  have hia := idx_aft29 (any_names29 ha)
  have hie := insE_eq (n, m) l
  obtain ⟨a, cap, rfl, hmax⟩ := h.form
  unfold maxLen at hmax
  have hcap : l.length ≤ cap ∧ cap ≤ 9223372036854775807 ∧ (a = none → cap = 0) := by
    obtain ⟨a', c', he, h1, h2, h3, _⟩ := h
    injection he with he1 _ he
    subst he he1
    unfold maxLen at h2
    exact ⟨h1, by omega, h3⟩
  have HAE : Hid (¬ cap = l.length → ∃ bb oo, a = some ⟨bb, oo, none⟩) := Lib.hid (fun hne => by
    obtain ⟨a', n', c', he, hh⟩ := hadr
    injection he with he1 he2 he3
    subst he1
    rcases hh with hh | hh
    · omega
    · exact hh)
  have hk0 := (Kept.refl NoB w).alloc (.cells #[.string ⟨n.toArray⟩, .int .i64 m] 32)
  have HK0 := Lib.hid hk0
  have HB0 := Lib.hid (heap_alloc_new w (.cells #[.string ⟨n.toArray⟩, .int .i64 m] 32))
  obtain ⟨c0, c1⟩ := cell2_29 HB0.out
  have HP0 := Lib.hid (h.no hk0)
  obtain ⟨at0, hat⟩ : ∃ k, k = aftE n l := ⟨_, rfl⟩
  have hie : insE (n, m) l = l.take at0 ++ (n, m) :: l.drop at0 := by rw [hat]; exact hie
  rw [← hat] at hia
  rw [hie]
  obtain ⟨sn, hsn⟩ : ∃ s : ByteArray, s = ⟨n.toArray⟩ := ⟨_, rfl⟩
  rw [← hsn] at HO HPL HIX HK0 HB0 c0 c1 HP0 ⊢
  have HSN := Lib.hid hsn
  have HLE := Lib.hid hl32
  have HFF := Lib.hid hF
  have HAD : Hid (¬ cap = l.length → ∃ bb oo, a = some ⟨bb, oo, none⟩) := Lib.hid (fun hne => HAE.out hne)
  have g32 : ((l.length : Int) == 32) = false := by simpa using (show ¬ (l.length : Int) = 32 by omega)
  have hatl : at0 ≤ l.length := by omega
  have hatc : at0 ≤ cap := by omega
  have hat0 : (0 : Int) ≤ (at0 : Int) := by omega
  have hat1 : (at0 : Int) ≤ (cap : Int) := by omega
  have hat2 : (at0 : Int) ≤ (l.length : Int) := by omega
  clear h hF hz ho ha h32 hie hat hsn hk0 hadr
  rcases hia with ⟨hi, he⟩ | ⟨hi, he⟩
  · rw [hi] at HIX
    subst he
    clear hi
    by_cases hcl : cap = l.length
    · subst hcl
      clear hat0 hat1 hat2 hatl hatc
      have hl0 : (0 : Int) ≤ (l.length : Int) := by omega
      go_enter Tryd.func6, Tryd.ntmps6
      go_wp2_with (first
      | (go_at_call 18; refine (HC.out _ HP0.out).mono ?_; rintro e w1 ⟨rfl, hk⟩; have HK1 := Lib.hid (HK0.out.trans hk (fun _ _ h => h)); have HP1 := Lib.hid (HP0.out.no hk); have HB1 := Lib.hid (hk.heap (fun h => h) HB0.out); clear hk c0 c1; obtain ⟨c0, c1⟩ := cell2_29 HB1.out)
      | (go_at_call 19; refine (HO.out _).mono ?_; rintro e w2 ⟨rfl, hk⟩; have HK2 := Lib.hid (HK1.out.trans hk (fun _ _ h => h)); have HP2 := Lib.hid (HP1.out.no hk); have HB2 := Lib.hid (hk.heap (fun h => h) HB1.out); clear hk c0 c1; obtain ⟨c0, c1⟩ := cell2_29 HB2.out)
      | (go_at_call 20; refine (HPL.out _ HP2.out).mono ?_; rintro e w3 ⟨rfl, hk⟩; have HK3 := Lib.hid (HK2.out.trans hk (fun _ _ h => h)); have HP3 := Lib.hid (HP2.out.no hk); have HB3 := Lib.hid (hk.heap (fun h => h) HB2.out); clear hk c0 c1; obtain ⟨c0, c1⟩ := cell2_29 HB3.out)
      | (go_at_call 21; refine (HIX.out _ HP3.out HB3.out).mono ?_; rintro e w4 ⟨rfl, hk⟩; have HK4 := Lib.hid (HK3.out.trans hk (fun _ _ h => h)); have HP4 := Lib.hid (HP3.out.no hk); have HB4 := Lib.hid (hk.heap (fun h => h) HB3.out); clear hk c0 c1; obtain ⟨c0, c1⟩ := cell2_29 HB4.out))
      obtain ⟨W2, hW2⟩ : ∃ W2, W2 = (w4.drew.alloc (.cells #[.string sn, .int .i64 m] 32)).alloc (.cells #[(.slice a l.length l.length), (.slice (some ⟨w4.heap.size, 0, none⟩) 1 1), (.slice a 0 0)] 27) := ⟨_, rfl⟩
      have hka : Kept NoB w4 W2 := by rw [hW2]; exact (((Kept.refl NoB w4).drew.alloc _).alloc _)
      have hbn : W2.heap[w4.heap.size]? = some (.cells #[.string sn, .int .i64 m] 32 (0, 0)) := by rw [hW2]; exact ((Kept.refl NoB _).alloc _).heap (fun h => h) (heap_alloc_new w4.drew _)
      have hbp : W2.heap[w4.heap.size + 1]? = some (.cells #[(.slice a l.length l.length), (.slice (some ⟨w4.heap.size, 0, none⟩) 1 1), (.slice a 0 0)] 27 (0, 0)) := by
        rw [hW2]
        have := heap_alloc_new (w4.drew.alloc (.cells #[.string sn, .int .i64 m] 32)) (.cells #[(.slice a l.length l.length), (.slice (some ⟨w4.heap.size, 0, none⟩) 1 1), (.slice a 0 0)] 27)
        simpa using this
      have hlt4 : ∀ k, F k → k < W2.heap.size := fun k hk => by have := HFF.out k hk; have := HK4.out.size; have := hka.size; omega
      have hs1 : ESl W2 (fun k => k < W2.heap.size) (.slice a l.length l.length) (l.take l.length) := ((show ESl w4 F (.slice a l.length l.length) (l.take l.length) from HP4.out.take29 _ (Nat.le_refl _)).no hka).mono (fun k _ hk => hlt4 k hk)
      have hs3 : ESl W2 (fun k => k < W2.heap.size) (.slice a 0 0) (l.drop l.length) := ((show ESl w4 F (.slice a 0 0) (l.drop l.length) from by rw [List.drop_length]; exact ESl.zero29 _ _ _).no hka).mono (fun k _ hk => hlt4 k hk)
      obtain ⟨q0, q1⟩ := cell2_29 hbn
      have hs2 : ESl W2 (fun k => k < W2.heap.size) (.slice (some ⟨w4.heap.size, 0, none⟩) 1 1) [(n, m)] := ⟨_, 1, rfl, Nat.le_refl _, by decide, (fun h => by cases h), fun _ => ⟨w4.heap.size, 0, rfl, heap_lt hbn, heap_lt hbn, fun j hj => by
        have hj : j = 0 := by simpa using hj
        subst hj
        rw [HSN.out] at q0
        exact ⟨q0, q1⟩⟩⟩
      have HPT : Hid (PtsAt W2 (fun k => k < W2.heap.size) (w4.heap.size + 1) [((.slice a l.length l.length), l.take l.length), ((.slice (some ⟨w4.heap.size, 0, none⟩) 1 1), [(n, m)]), ((.slice a 0 0), l.drop l.length)]) := Lib.hid ⟨hbp, fun p hp => by
        rcases List.mem_cons.1 hp with rfl | hp
        · exact hs1
        rcases List.mem_cons.1 hp with rfl | hp
        · exact hs2
        · rw [List.mem_singleton] at hp; subst hp; exact hs3⟩
      have HCC := Lib.hid (Concat29_any (w4.heap.size + 1) 3 3 _ _ W2 HPT.out (fun i hi => hi) rfl (by decide) (by decide) (by decide) (by unfold sumE; simp; have := HLE.out; omega))
      have HKA := Lib.hid (HK4.out.trans hka (fun _ _ h => h))
      have HW2 := Lib.hid hW2
      rw [hW2] at HCC
      have HKB := HKA
      rw [hW2] at HKB
      clear hka hbn hbp hlt4 hs1 hs2 hs3 q0 q1 hW2
      have HBW1 : Hid ((w4.drew.alloc (.cells #[.string sn, .int .i64 m] 32)).heap[w.heap.size]? = some (.cells #[.string sn, .int .i64 m] 32 (0, 0))) := Lib.hid (((Kept.refl NoB w4).drew.alloc _).heap (fun h => h) HB4.out)
      have HBW2 := Lib.hid (((Kept.refl NoB _).alloc (.cells #[(.slice a l.length l.length), (.slice (some ⟨w4.heap.size, 0, none⟩) 1 1), (.slice a 0 0)] 27)).heap (fun h => h) HBW1.out)
      go_region_held3 (fun w' => w'.cell? ⟨w.heap.size, 0, none⟩ = some (.string sn) ∧ w'.cell? ⟨w.heap.size, 1, none⟩ = some (.int .i64 m))
        (first
          | exact ⟨cell_drew c0, cell_drew c1⟩
          | exact cell2_29 HBW1.out
          | exact cell2_29 HBW2.out
          | exact cell2_29 HBW5.out)
        (first
          | (go_at_call 23; refine HCC.out.mono ?_; rintro e w5 ⟨v5, rfl, hv5, hk5⟩; have HBW5 := Lib.hid (hk5.heap (fun h => h) HBW2.out); have HV5 := Lib.hid (hv5.mono (G := fun i => w.heap.size ≤ i) (fun i _ h => Nat.le_trans HKB.out.size h)); have HK5 := Lib.hid (HKB.out.trans hk5 (fun _ _ h => h)); (obtain ⟨a5, c5, rfl, _⟩ := hv5); clear hk5)
          | fail)
      all_goals
        go_wp2_with fail
        exact bodyPost_ret (v := .tuple #[.slice a5 (catE [((.slice a l.length l.length), l.take l.length), ((.slice (some ⟨w4.heap.size, 0, none⟩) 1 1), [(n, m)]), ((.slice a 0 0), l.drop l.length)]).length c5, .int .i64 0]) (by simp [results, Tryd.results6, go_sem]) rfl ⟨_, rfl, by have := HV5.out; unfold catE at this ⊢; simpa using this, HK5.out⟩
    · obtain ⟨bb, oo, rfl⟩ : ∃ bb oo, a = some ⟨bb, oo, none⟩ := HAD.out hcl
      have hl0 : (0 : Int) ≤ (l.length : Int) := by omega
      clear hat0 hat1 hat2 hatl hatc
      have hlc : (l.length : Int) ≤ (cap : Int) := by omega
      go_enter Tryd.func6, Tryd.ntmps6
      go_wp2_with (first
      | (go_at_call 18; refine (HC.out _ HP0.out).mono ?_; rintro e w1 ⟨rfl, hk⟩; have HK1 := Lib.hid (HK0.out.trans hk (fun _ _ h => h)); have HP1 := Lib.hid (HP0.out.no hk); have HB1 := Lib.hid (hk.heap (fun h => h) HB0.out); clear hk c0 c1; obtain ⟨c0, c1⟩ := cell2_29 HB1.out)
      | (go_at_call 19; refine (HO.out _).mono ?_; rintro e w2 ⟨rfl, hk⟩; have HK2 := Lib.hid (HK1.out.trans hk (fun _ _ h => h)); have HP2 := Lib.hid (HP1.out.no hk); have HB2 := Lib.hid (hk.heap (fun h => h) HB1.out); clear hk c0 c1; obtain ⟨c0, c1⟩ := cell2_29 HB2.out)
      | (go_at_call 20; refine (HPL.out _ HP2.out).mono ?_; rintro e w3 ⟨rfl, hk⟩; have HK3 := Lib.hid (HK2.out.trans hk (fun _ _ h => h)); have HP3 := Lib.hid (HP2.out.no hk); have HB3 := Lib.hid (hk.heap (fun h => h) HB2.out); clear hk c0 c1; obtain ⟨c0, c1⟩ := cell2_29 HB3.out)
      | (go_at_call 21; refine (HIX.out _ HP3.out HB3.out).mono ?_; rintro e w4 ⟨rfl, hk⟩; have HK4 := Lib.hid (HK3.out.trans hk (fun _ _ h => h)); have HP4 := Lib.hid (HP3.out.no hk); have HB4 := Lib.hid (hk.heap (fun h => h) HB3.out); clear hk c0 c1; obtain ⟨c0, c1⟩ := cell2_29 HB4.out))
      obtain ⟨W2, hW2⟩ : ∃ W2, W2 = (w4.drew.alloc (.cells #[.string sn, .int .i64 m] 32)).alloc (.cells #[(.slice (some ⟨bb, oo, none⟩) l.length cap), (.slice (some ⟨w4.heap.size, 0, none⟩) 1 1), (.slice (some ⟨bb, oo + l.length * 2, none⟩) 0 (cap - l.length))] 27) := ⟨_, rfl⟩
      have hka : Kept NoB w4 W2 := by rw [hW2]; exact (((Kept.refl NoB w4).drew.alloc _).alloc _)
      have hbn : W2.heap[w4.heap.size]? = some (.cells #[.string sn, .int .i64 m] 32 (0, 0)) := by rw [hW2]; exact ((Kept.refl NoB _).alloc _).heap (fun h => h) (heap_alloc_new w4.drew _)
      have hbp : W2.heap[w4.heap.size + 1]? = some (.cells #[(.slice (some ⟨bb, oo, none⟩) l.length cap), (.slice (some ⟨w4.heap.size, 0, none⟩) 1 1), (.slice (some ⟨bb, oo + l.length * 2, none⟩) 0 (cap - l.length))] 27 (0, 0)) := by
        rw [hW2]
        have := heap_alloc_new (w4.drew.alloc (.cells #[.string sn, .int .i64 m] 32)) (.cells #[(.slice (some ⟨bb, oo, none⟩) l.length cap), (.slice (some ⟨w4.heap.size, 0, none⟩) 1 1), (.slice (some ⟨bb, oo + l.length * 2, none⟩) 0 (cap - l.length))] 27)
        simpa using this
      have hlt4 : ∀ k, F k → k < W2.heap.size := fun k hk => by have := HFF.out k hk; have := HK4.out.size; have := hka.size; omega
      have hs1 : ESl W2 (fun k => k < W2.heap.size) (.slice (some ⟨bb, oo, none⟩) l.length cap) (l.take l.length) := ((show ESl w4 F (.slice (some ⟨bb, oo, none⟩) l.length cap) (l.take l.length) from HP4.out.take29 _ (Nat.le_refl _)).no hka).mono (fun k _ hk => hlt4 k hk)
      have hs3 : ESl W2 (fun k => k < W2.heap.size) (.slice (some ⟨bb, oo + l.length * 2, none⟩) 0 (cap - l.length)) (l.drop l.length) := ((show ESl w4 F (.slice (some ⟨bb, oo + l.length * 2, none⟩) 0 (cap - l.length)) (l.drop l.length) from by have := HP4.out.drop29 l.length (Nat.le_refl _); rwa [Nat.sub_self] at this).no hka).mono (fun k _ hk => hlt4 k hk)
      obtain ⟨q0, q1⟩ := cell2_29 hbn
      have hs2 : ESl W2 (fun k => k < W2.heap.size) (.slice (some ⟨w4.heap.size, 0, none⟩) 1 1) [(n, m)] := ⟨_, 1, rfl, Nat.le_refl _, by decide, (fun h => by cases h), fun _ => ⟨w4.heap.size, 0, rfl, heap_lt hbn, heap_lt hbn, fun j hj => by
        have hj : j = 0 := by simpa using hj
        subst hj
        rw [HSN.out] at q0
        exact ⟨q0, q1⟩⟩⟩
      have HPT : Hid (PtsAt W2 (fun k => k < W2.heap.size) (w4.heap.size + 1) [((.slice (some ⟨bb, oo, none⟩) l.length cap), l.take l.length), ((.slice (some ⟨w4.heap.size, 0, none⟩) 1 1), [(n, m)]), ((.slice (some ⟨bb, oo + l.length * 2, none⟩) 0 (cap - l.length)), l.drop l.length)]) := Lib.hid ⟨hbp, fun p hp => by
        rcases List.mem_cons.1 hp with rfl | hp
        · exact hs1
        rcases List.mem_cons.1 hp with rfl | hp
        · exact hs2
        · rw [List.mem_singleton] at hp; subst hp; exact hs3⟩
      have HCC := Lib.hid (Concat29_any (w4.heap.size + 1) 3 3 _ _ W2 HPT.out (fun i hi => hi) rfl (by decide) (by decide) (by decide) (by unfold sumE; simp; have := HLE.out; omega))
      have HKA := Lib.hid (HK4.out.trans hka (fun _ _ h => h))
      have HW2 := Lib.hid hW2
      rw [hW2] at HCC
      have HKB := HKA
      rw [hW2] at HKB
      clear hka hbn hbp hlt4 hs1 hs2 hs3 q0 q1 hW2
      have HBW1 : Hid ((w4.drew.alloc (.cells #[.string sn, .int .i64 m] 32)).heap[w.heap.size]? = some (.cells #[.string sn, .int .i64 m] 32 (0, 0))) := Lib.hid (((Kept.refl NoB w4).drew.alloc _).heap (fun h => h) HB4.out)
      have HBW2 := Lib.hid (((Kept.refl NoB _).alloc (.cells #[(.slice (some ⟨bb, oo, none⟩) l.length cap), (.slice (some ⟨w4.heap.size, 0, none⟩) 1 1), (.slice (some ⟨bb, oo + l.length * 2, none⟩) 0 (cap - l.length))] 27)).heap (fun h => h) HBW1.out)
      go_region_held3 (fun w' => w'.cell? ⟨w.heap.size, 0, none⟩ = some (.string sn) ∧ w'.cell? ⟨w.heap.size, 1, none⟩ = some (.int .i64 m))
        (first
          | exact ⟨cell_drew c0, cell_drew c1⟩
          | exact cell2_29 HBW1.out
          | exact cell2_29 HBW2.out
          | exact cell2_29 HBW5.out)
        (first
          | (go_at_call 23; refine HCC.out.mono ?_; rintro e w5 ⟨v5, rfl, hv5, hk5⟩; have HBW5 := Lib.hid (hk5.heap (fun h => h) HBW2.out); have HV5 := Lib.hid (hv5.mono (G := fun i => w.heap.size ≤ i) (fun i _ h => Nat.le_trans HKB.out.size h)); have HK5 := Lib.hid (HKB.out.trans hk5 (fun _ _ h => h)); (obtain ⟨a5, c5, rfl, _⟩ := hv5); clear hk5)
          | fail)
      all_goals
        go_wp2_with fail
        exact bodyPost_ret (v := .tuple #[.slice a5 (catE [((.slice (some ⟨bb, oo, none⟩) l.length cap), l.take l.length), ((.slice (some ⟨w4.heap.size, 0, none⟩) 1 1), [(n, m)]), ((.slice (some ⟨bb, oo + l.length * 2, none⟩) 0 (cap - l.length)), l.drop l.length)]).length c5, .int .i64 0]) (by simp [results, Tryd.results6, go_sem]) rfl ⟨_, rfl, by have := HV5.out; unfold catE at this ⊢; simpa using this, HK5.out⟩
  · rw [hi] at HIX
    have d0 : decide ((at0 : Int) < 0) = false := decide_eq_false (by omega)
    clear hi
    obtain ⟨bb, oo, rfl, _⟩ := HP0.out.at_ he
    have hcn : ¬ cap = at0 := by omega
    clear he
    go_enter Tryd.func6, Tryd.ntmps6
    go_wp2_with (first
      | (go_at_call 18; refine (HC.out _ HP0.out).mono ?_; rintro e w1 ⟨rfl, hk⟩; have HK1 := Lib.hid (HK0.out.trans hk (fun _ _ h => h)); have HP1 := Lib.hid (HP0.out.no hk); have HB1 := Lib.hid (hk.heap (fun h => h) HB0.out); clear hk c0 c1; obtain ⟨c0, c1⟩ := cell2_29 HB1.out)
      | (go_at_call 19; refine (HO.out _).mono ?_; rintro e w2 ⟨rfl, hk⟩; have HK2 := Lib.hid (HK1.out.trans hk (fun _ _ h => h)); have HP2 := Lib.hid (HP1.out.no hk); have HB2 := Lib.hid (hk.heap (fun h => h) HB1.out); clear hk c0 c1; obtain ⟨c0, c1⟩ := cell2_29 HB2.out)
      | (go_at_call 20; refine (HPL.out _ HP2.out).mono ?_; rintro e w3 ⟨rfl, hk⟩; have HK3 := Lib.hid (HK2.out.trans hk (fun _ _ h => h)); have HP3 := Lib.hid (HP2.out.no hk); have HB3 := Lib.hid (hk.heap (fun h => h) HB2.out); clear hk c0 c1; obtain ⟨c0, c1⟩ := cell2_29 HB3.out)
      | (go_at_call 21; refine (HIX.out _ HP3.out HB3.out).mono ?_; rintro e w4 ⟨rfl, hk⟩; have HK4 := Lib.hid (HK3.out.trans hk (fun _ _ h => h)); have HP4 := Lib.hid (HP3.out.no hk); have HB4 := Lib.hid (hk.heap (fun h => h) HB3.out); clear hk c0 c1; obtain ⟨c0, c1⟩ := cell2_29 HB4.out))
    obtain ⟨W2, hW2⟩ : ∃ W2, W2 = (w4.drew.alloc (.cells #[.string sn, .int .i64 m] 32)).alloc (.cells #[(.slice (some ⟨bb, oo, none⟩) at0 cap), (.slice (some ⟨w4.heap.size, 0, none⟩) 1 1), (.slice (some ⟨bb, oo + at0 * 2, none⟩) (l.length - at0) (cap - at0))] 27) := ⟨_, rfl⟩
    have hka : Kept NoB w4 W2 := by rw [hW2]; exact (((Kept.refl NoB w4).drew.alloc _).alloc _)
    have hbn : W2.heap[w4.heap.size]? = some (.cells #[.string sn, .int .i64 m] 32 (0, 0)) := by rw [hW2]; exact ((Kept.refl NoB _).alloc _).heap (fun h => h) (heap_alloc_new w4.drew _)
    have hbp : W2.heap[w4.heap.size + 1]? = some (.cells #[(.slice (some ⟨bb, oo, none⟩) at0 cap), (.slice (some ⟨w4.heap.size, 0, none⟩) 1 1), (.slice (some ⟨bb, oo + at0 * 2, none⟩) (l.length - at0) (cap - at0))] 27 (0, 0)) := by
      rw [hW2]
      have := heap_alloc_new (w4.drew.alloc (.cells #[.string sn, .int .i64 m] 32)) (.cells #[(.slice (some ⟨bb, oo, none⟩) at0 cap), (.slice (some ⟨w4.heap.size, 0, none⟩) 1 1), (.slice (some ⟨bb, oo + at0 * 2, none⟩) (l.length - at0) (cap - at0))] 27)
      simpa using this
    have hlt4 : ∀ k, F k → k < W2.heap.size := fun k hk => by have := HFF.out k hk; have := HK4.out.size; have := hka.size; omega
    have hs1 : ESl W2 (fun k => k < W2.heap.size) (.slice (some ⟨bb, oo, none⟩) at0 cap) (l.take at0) := ((show ESl w4 F (.slice (some ⟨bb, oo, none⟩) at0 cap) (l.take at0) from HP4.out.take29 _ hatl).no hka).mono (fun k _ hk => hlt4 k hk)
    have hs3 : ESl W2 (fun k => k < W2.heap.size) (.slice (some ⟨bb, oo + at0 * 2, none⟩) (l.length - at0) (cap - at0)) (l.drop at0) := ((show ESl w4 F (.slice (some ⟨bb, oo + at0 * 2, none⟩) (l.length - at0) (cap - at0)) (l.drop at0) from HP4.out.drop29 _ hatl).no hka).mono (fun k _ hk => hlt4 k hk)
    obtain ⟨q0, q1⟩ := cell2_29 hbn
    have hs2 : ESl W2 (fun k => k < W2.heap.size) (.slice (some ⟨w4.heap.size, 0, none⟩) 1 1) [(n, m)] := ⟨_, 1, rfl, Nat.le_refl _, by decide, (fun h => by cases h), fun _ => ⟨w4.heap.size, 0, rfl, heap_lt hbn, heap_lt hbn, fun j hj => by
      have hj : j = 0 := by simpa using hj
      subst hj
      rw [HSN.out] at q0
      exact ⟨q0, q1⟩⟩⟩
    have HPT : Hid (PtsAt W2 (fun k => k < W2.heap.size) (w4.heap.size + 1) [((.slice (some ⟨bb, oo, none⟩) at0 cap), l.take at0), ((.slice (some ⟨w4.heap.size, 0, none⟩) 1 1), [(n, m)]), ((.slice (some ⟨bb, oo + at0 * 2, none⟩) (l.length - at0) (cap - at0)), l.drop at0)]) := Lib.hid ⟨hbp, fun p hp => by
      rcases List.mem_cons.1 hp with rfl | hp
      · exact hs1
      rcases List.mem_cons.1 hp with rfl | hp
      · exact hs2
      · rw [List.mem_singleton] at hp; subst hp; exact hs3⟩
    have HCC := Lib.hid (Concat29_any (w4.heap.size + 1) 3 3 _ _ W2 HPT.out (fun i hi => hi) rfl (by decide) (by decide) (by decide) (by unfold sumE; simp; have := HLE.out; omega))
    have HKA := Lib.hid (HK4.out.trans hka (fun _ _ h => h))
    have HW2 := Lib.hid hW2
    rw [hW2] at HCC
    have HKB := HKA
    rw [hW2] at HKB
    clear hka hbn hbp hlt4 hs1 hs2 hs3 q0 q1 hW2
    have HBW1 : Hid ((w4.drew.alloc (.cells #[.string sn, .int .i64 m] 32)).heap[w.heap.size]? = some (.cells #[.string sn, .int .i64 m] 32 (0, 0))) := Lib.hid (((Kept.refl NoB w4).drew.alloc _).heap (fun h => h) HB4.out)
    have HBW2 := Lib.hid (((Kept.refl NoB _).alloc (.cells #[(.slice (some ⟨bb, oo, none⟩) at0 cap), (.slice (some ⟨w4.heap.size, 0, none⟩) 1 1), (.slice (some ⟨bb, oo + at0 * 2, none⟩) (l.length - at0) (cap - at0))] 27)).heap (fun h => h) HBW1.out)
    go_region_held3 (fun w' => w'.cell? ⟨w.heap.size, 0, none⟩ = some (.string sn) ∧ w'.cell? ⟨w.heap.size, 1, none⟩ = some (.int .i64 m))
      (first
        | exact ⟨cell_drew c0, cell_drew c1⟩
        | exact cell2_29 HBW1.out
        | exact cell2_29 HBW2.out
        | exact cell2_29 HBW5.out)
      (first
        | (go_at_call 23; refine HCC.out.mono ?_; rintro e w5 ⟨v5, rfl, hv5, hk5⟩; have HBW5 := Lib.hid (hk5.heap (fun h => h) HBW2.out); have HV5 := Lib.hid (hv5.mono (G := fun i => w.heap.size ≤ i) (fun i _ h => Nat.le_trans HKB.out.size h)); have HK5 := Lib.hid (HKB.out.trans hk5 (fun _ _ h => h)); (obtain ⟨a5, c5, rfl, _⟩ := hv5); clear hk5)
        | fail)
    all_goals
      go_wp2_with fail
      exact bodyPost_ret (v := .tuple #[.slice a5 (catE [((.slice (some ⟨bb, oo, none⟩) at0 cap), l.take at0), ((.slice (some ⟨w4.heap.size, 0, none⟩) 1 1), [(n, m)]), ((.slice (some ⟨bb, oo + at0 * 2, none⟩) (l.length - at0) (cap - at0)), l.drop at0)]).length c5, .int .i64 0]) (by simp [results, Tryd.results6, go_sem]) rfl ⟨_, rfl, by have := HV5.out; unfold catE at this ⊢; simpa using this, HK5.out⟩
end Go.Proofs.YtokafgleejcbgaaDoor
