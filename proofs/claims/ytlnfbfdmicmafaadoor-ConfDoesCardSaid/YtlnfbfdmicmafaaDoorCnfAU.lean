/-
  The chapter's Do.
-/
import Derived.Test.YtlnfbfdmicmafaaDoorCnfAG
import Derived.Test.YtlnfbfdmicmafaaDoorCnfAF
namespace Go.Proofs.YtlnfbfdmicmafaaDoor
open Go.RowKit
set_option linter.unusedVariables false

/-- A row of which one configuration was stored whole. -/
theorem RowC.putC {w : World} {r cap : Nat} {l : List Cf} {us : Nat → Value} (h : RowC w r cap l us) {j : Nat} (hj : j < l.length) (c' : Cf) (v : Value) :
    RowC (((((w.setCell ⟨r, j * 5, none⟩ (.int .i64 c'.ch)).setCell ⟨r, j * 5 + 1, none⟩ (.int .u64 c'.ep)).setCell ⟨r, j * 5 + 2, none⟩ v).setCell ⟨r, j * 5 + 3, none⟩ (.bool c'.fr)).setCell ⟨r, j * 5 + 4, none⟩ (.int .i64 c'.jn)) r cap (l.set j c') (Go.Proofs.YtlnfbfdmicmafaaDoor.upd us j v) := by
  obtain ⟨cs, h1, h2, h3, h4, h5⟩ := h
  refine ⟨_, bset1 (bset1 (bset1 (bset1 (bset1 h1 _ _) _ _) _ _) _ _) _ _, by simpa using h2, by rw [List.length_set]; exact h3, h4, fun m hm => ?_⟩
  rw [List.length_set] at hm
  have hsz : j * 5 + 4 < cs.size := by omega
  simp only [Array.getElem?_setIfInBounds, Array.size_setIfInBounds]
  by_cases e : m / 5 = j
  · have hm5 : m = j * 5 + m % 5 := by omega
    have hlt : m % 5 < 5 := Nat.mod_lt _ (by decide)
    have key : ∀ i, i < 5 → m % 5 = i → cellC (l.set j c') (Go.Proofs.YtlnfbfdmicmafaaDoor.upd us j v) m = cellC (l.set j c') (Go.Proofs.YtlnfbfdmicmafaaDoor.upd us j v) (j * 5 + i) := fun i _ hi => by rw [← hi, ← hm5]
    rcases (by omega : m % 5 = 0 ∨ m % 5 = 1 ∨ m % 5 = 2 ∨ m % 5 = 3 ∨ m % 5 = 4) with hi | hi | hi | hi | hi
    · rw [key _ (by decide) hi, cell_set hj _ _ _ (by decide), if_neg (by omega), if_neg (by omega), if_neg (by omega), if_neg (by omega), if_pos (by omega), if_pos (by omega)]; rfl
    · rw [key _ (by decide) hi, cell_set hj _ _ _ (by decide), if_neg (by omega), if_neg (by omega), if_neg (by omega), if_pos (by omega), if_pos (by omega)]; rfl
    · rw [key _ (by decide) hi, cell_set hj _ _ _ (by decide), if_neg (by omega), if_neg (by omega), if_pos (by omega), if_pos (by omega)]; rfl
    · rw [key _ (by decide) hi, cell_set hj _ _ _ (by decide), if_neg (by omega), if_pos (by omega), if_pos (by omega)]; rfl
    · rw [key _ (by decide) hi, cell_set hj _ _ _ (by decide), if_pos (by omega), if_pos (by omega)]; rfl
  · rw [if_neg (by omega), if_neg (by omega), if_neg (by omega), if_neg (by omega), if_neg (by omega), h5 m hm]
    congr 1
    unfold cellC
    rw [nthC_set hj, if_neg e, upd_far e]
def RDoE (F : Nat → Prop) (l' : List Cf) (ok : Bool) (w : World) (e : Ending) (w' : World) : Prop := ∃ v, e = .returned (.tuple #[v, .bool ok]) ∧ CfsAt w' (fun k => F k ∨ w.heap.size ≤ k) v l' ∧ Kept NoB w w'
set_option maxRecDepth 100000 in
set_option maxHeartbeats 4000000 in
theorem RDo_made (v : Value) (l : List Cf) (j : Nat) (k ep nd : Int) (F : Nat → Prop) (w : World) (h : CfsAt w F v l) (hA : AllC l) (hx : Chk k j ep nd 0) (hep : 0 ≤ ep) (hj : j < l.length) (hk0 : k ≠ 0) (hcan : canC l 0 k j ep nd = 0) :
    Calls Tryd.prog 27 #[v, .agg #[.int .i64 k, .int .i64 j, .int .u64 ep, .int .i64 nd]] w (RDoE F (l.set j (madeC (nthC l j) k nd)) true w) := by
  obtain ⟨i0, hi0, hz0, hz1, hz2⟩ := info_parts conf_zero
  obtain ⟨a, cap, rfl, _⟩ := id h
  have hl4 : l.length ≤ 4 := hA.2.1
  have hl : l.length ≤ 1000 := by omega
  have ejn : ((j : Int)).toNat = j := by omega
  have HCA : Hid (∀ w', Kept NoB w w' → Calls Tryd.prog 25 #[.slice a l.length cap, .agg #[.int .i64 k, .int .i64 j, .int .u64 ep, .int .i64 nd]] w' (IntE 0 w')) := Lib.hid (fun w' hk => by
    have := RCan_any _ l 0 k j ep nd F w' (h.kept hk (fun _ _ _ h => h)) hl hx hep
    rw [hcan] at this
    exact this)
  obtain ⟨_, _, hck⟩ := can_ok hcan
  have hne : (nthC l j).ep ≠ topE := by
    rcases hck with h0 | ⟨_, _, _, _, h5⟩
    · exact absurd h0 hk0
    · rw [ejn] at h5; exact h5
  obtain ⟨us, hus, hcell⟩ := cfs_us h
  obtain ⟨b, o, rfl, _, hbl, u, e0, e1, e2, e3, e4, hns, hbd⟩ := h.at_ hj
  have hone := (hA.2.2 j hj).1
  have hcv : CfV w F (.agg #[.int .i64 (nthC l j).ch, .int .u64 (nthC l j).ep, u, .bool (nthC l j).fr, .int .i64 (nthC l j).jn]) (nthC l j) := ⟨_, rfl, hns, hbd⟩
  have HMD : Hid (∀ w', Kept NoB w w' → Calls Tryd.prog 62 #[.agg #[.int .i64 (nthC l j).ch, .int .u64 (nthC l j).ep, u, .bool (nthC l j).fr, .int .i64 (nthC l j).jn], .agg #[.int .i64 k, .int .i64 j, .int .u64 ep, .int .i64 nd]] w' (MadeE (madeC (nthC l j) k nd) w')) :=
    Lib.hid (fun w' hk => made_any _ (nthC l j) k j ep nd F w' (hcv.kept hk (fun _ _ _ h => h)) hone.2.2.2.1 hone.2.2.2.2.1 hne)
  obtain ⟨ua, uc, rfl, _⟩ := id hns
  obtain ⟨R, hR⟩ : ∃ R, R = madeC (nthC l j) k nd := ⟨_, rfl⟩
  rw [← hR] at HMD ⊢
  obtain ⟨c, hc⟩ : ∃ c, c = nthC l j := ⟨_, rfl⟩
  rw [← hc] at e0 e1 e2 e3 e4 HMD
  have HUS := Lib.hid (fun w' (hk : Kept NoB w w') => (show NodesC w' (fun k => F k ∧ k < w.heap.size) l us from fun i hi => ⟨((hus i hi).1.mono (G := fun k => F k ∧ k < w.heap.size) (fun k hk h => ⟨h, hk⟩)).kept hk (fun _ _ _ h => h), (hus i hi).2⟩))
  have HCL := Lib.hid hcell
  have HON := Lib.hid (cellsC_one hus)
  have HLN : Hid ((cellsC l us).length = l.length * 5) := Lib.hid (by simp [cellsC])
  obtain ⟨cch, cep, ns, fr, jn⟩ := c
  simp only at e0 e1 e2 e3 e4 HMD
  have hk1 : (j : Int) < (l.length : Int) := by omega
  have hk00 : (0 : Int) ≤ (j : Int) := by omega
  have hkb : (k == 0) = false := by simpa using hk0
  have HB := Lib.hid (heap_alloc_new w (.cells #[.int .i64 k, .int .i64 (j : Int), .int .u64 ep, .int .i64 nd] 42))
  have HK := Lib.hid ((Kept.refl NoB w).alloc (.cells #[.int .i64 k, .int .i64 (j : Int), .int .u64 ep, .int .i64 nd] 42))
  have E := Lib.hid (And.intro e0 (And.intro e1 (And.intro e2 (And.intro e3 e4))))
  clear e0 e1 e2 e3 e4 hA hx h hcv hns hbd hus hcell hR hc hck hne hone hcan hep ejn
  go_enter Tryd.func27, Tryd.ntmps27
  go_wp2_with fail
  refine (HCA.out _ HK.out).mono ?_
  rintro e w1 ⟨rfl, hk⟩
  have HK1 := Lib.hid (HK.out.trans hk (fun _ _ h => h))
  have HB1 := Lib.hid (hk.heap (fun h => h) HB.out)
  obtain ⟨c0, c1, c2, c3⟩ := cells4c HB1.out
  clear hk
  have HCW : Hid (∀ m u, (cellsC l us)[m]? = some u → w1.cell? ((⟨b, o, none⟩ : Addr).add m) = some u) := Lib.hid (fun m u hu => HK1.out.cell (fun h => h) (HCL.out _ rfl m u hu))
  go_upto_region 6 with (at_builtin; refine wpList_append_own _ (by rfl) (.const (.slice none 0 0)) (.tmp 16) 22 (by rfl) w1.heap.size 26 i0 _ 5 56 Tryd.underlying22 hi0 hz0 hz1 hz2 rfl (by decide) (.slice none 0 0) 0 [] (by rfl) (World.ownsRow_nil _ _ _ _) ⟨b, o, none⟩ l.length cap (cellsC l us) (by rfl) HLN.out HCW.out HON.out (by unfold maxLen; omega) (by omega) (Nat.le_refl _) ?_; intro v' w2 hown1 hgrow _; have HO1 := Lib.hid hown1; have HG1 := Lib.hid hgrow; clear hown1 hgrow)
  have ho := HO1.out
  rw [Nat.zero_add, List.nil_append] at ho
  rcases ho.2 with ⟨_, h0⟩ | ⟨r, rc, cur, rfl, hrb, hr1, hr2, hr3, hr4, hr5⟩
  · exact absurd h0 (by omega)
  have HRW := Lib.hid (row_of_own (r := r) ho).1
  have HRB : Hid (w1.heap.size ≤ r) := Lib.hid hrb
  have HK2 : Hid (Kept NoB w w2) := Lib.hid (HK1.out.grown HG1.out (fun k hk => by cases hk))
  have HKG : Hid (Kept NoB w1 w2) := Lib.hid ((Kept.refl NoB w1).grown HG1.out (fun k hk => by cases hk))
  have HB2 := Lib.hid (HKG.out.heap (fun h => h) HB1.out)
  clear c0 c1 c2 c3 ho hrb hr1 hr2 hr3 hr4 hr5 HO1 HG1 HCW
  obtain ⟨c0, c1, c2, c3⟩ := cells4c HB2.out
  have hrc : l.length ≤ rc := by obtain ⟨_, _, _, h, _⟩ := HRW.out; exact h
  obtain ⟨e0, e1, e2, e3, e4⟩ := E.out
  have f0 := HK2.out.cell (p := ⟨b, o + j * 5, none⟩) (fun h => h) e0
  have f1 := HK2.out.cell (p := ⟨b, o + j * 5 + 1, none⟩) (fun h => h) e1
  have f2 := HK2.out.cell (p := ⟨b, o + j * 5 + 2, none⟩) (fun h => h) e2
  have f3 := HK2.out.cell (p := ⟨b, o + j * 5 + 3, none⟩) (fun h => h) e3
  have f4 := HK2.out.cell (p := ⟨b, o + j * 5 + 4, none⟩) (fun h => h) e4
  clear e0 e1 e2 e3 e4
  have hzw : w.heap.size < w1.heap.size := heap_lt HB1.out
  have hq1 : ¬ r = b := fun h => by have := HRB.out; omega
  have hq2 : ¬ b = r := fun h => hq1 h.symm
  have hq3 : ¬ r = w.heap.size := fun h => by have := HRB.out; omega
  have hq4 : ¬ w.heap.size = r := fun h => hq3 h.symm
  have HKQ : Hid (Kept NoB w2 w2.drew) := Lib.hid (Kept.refl NoB w2).drew
  have HMW : Hid (Calls Tryd.prog 62 #[.agg #[.int .i64 cch, .int .u64 cep, .slice ua ns.length uc, .bool fr, .int .i64 jn], .agg #[.int .i64 k, .int .i64 j, .int .u64 ep, .int .i64 nd]] w2.drew fun e w' => ∃ va vc, e = .returned (.agg #[.int .i64 R.ch, .int .u64 R.ep, .slice va R.ns.length vc, .bool R.fr, .int .i64 R.jn]) ∧ NSl w' (fun k => w2.heap.size ≤ k) (.slice va R.ns.length vc) R.ns ∧ (0 ≤ R.ep ∧ R.ep ≤ topE ∧ R.ns.length ≤ 1000) ∧ Kept NoB w2.drew w') := Lib.hid ((HMD.out _ (HK2.out.trans HKQ.out (fun _ _ h => h))).mono fun e w' ⟨v, h1, ⟨u, h2, h3, h4⟩, h5⟩ => by
    obtain ⟨va, vc, rfl, _⟩ := id h3
    exact ⟨va, vc, by rw [h1, h2], h3, h4, h5⟩)
  clear HMD HCA
  obtain ⟨rch, rep, rns, rfr, rjn⟩ := R
  simp only at HMW
  have hj5 : (j : Int) < (rc : Int) := by omega
  go_region_held3 (fun w' => w'.cell? ⟨w.heap.size, 0, none⟩ = some (.int .i64 k) ∧ w'.cell? ⟨w.heap.size, 1, none⟩ = some (.int .i64 (j : Int)) ∧ w'.cell? ⟨w.heap.size, 2, none⟩ = some (.int .u64 ep) ∧ w'.cell? ⟨w.heap.size, 3, none⟩ = some (.int .i64 nd) ∧
      w'.cell? ⟨b, o + j * 5, none⟩ = some (.int .i64 cch) ∧ w'.cell? ⟨b, o + j * 5 + 1, none⟩ = some (.int .u64 cep) ∧ w'.cell? ⟨b, o + j * 5 + 2, none⟩ = some (.slice ua ns.length uc) ∧ w'.cell? ⟨b, o + j * 5 + 3, none⟩ = some (.bool fr) ∧ w'.cell? ⟨b, o + j * 5 + 4, none⟩ = some (.int .i64 jn))
    (first
      | (with_reducible exact ⟨cell_drew c0, cell_drew c1, cell_drew c2, cell_drew c3, cell_drew f0, cell_drew f1, cell_drew f2, cell_drew f3, cell_drew f4⟩)
      | (with_reducible exact ⟨k0, k1, k2, k3, l0, l1, l2, l3, l4⟩)
      | go_keep)
    ((go_at_call 62; (with_reducible refine HMW.out.mono ?_); rintro e w3 ⟨va, vc, rfl, hn3, hb3, hk3⟩; have HN3 := Lib.hid hn3; have HB3 := Lib.hid hb3; have HKA := Lib.hid (HKQ.out.trans hk3 (fun _ _ h => h)); have HR3 := Lib.hid (HRW.out.kept HKA.out (fun h => h)); clear hn3 hb3 hk3
      have y0 := (HR3.out.cell (m := j * 5) (by omega)); have y1 := (HR3.out.cell (m := j * 5 + 1) (by omega)); have y2 := (HR3.out.cell (m := j * 5 + 2) (by omega)); have y3 := (HR3.out.cell (m := j * 5 + 3) (by omega)); have y4 := (HR3.out.cell (m := j * 5 + 4) (by omega))
      obtain ⟨y0, z0⟩ := y0; obtain ⟨y1, z1⟩ := y1; obtain ⟨y2, z2⟩ := y2; obtain ⟨y3, z3⟩ := y3; obtain ⟨y4, z4⟩ := y4
      have k0 := HKA.out.cell (p := ⟨w.heap.size, 0, none⟩) (fun h => h) c0; have k1 := HKA.out.cell (p := ⟨w.heap.size, 1, none⟩) (fun h => h) c1; have k2 := HKA.out.cell (p := ⟨w.heap.size, 2, none⟩) (fun h => h) c2; have k3 := HKA.out.cell (p := ⟨w.heap.size, 3, none⟩) (fun h => h) c3
      have l0 := HKA.out.cell (p := ⟨b, o + j * 5, none⟩) (fun h => h) f0; have l1 := HKA.out.cell (p := ⟨b, o + j * 5 + 1, none⟩) (fun h => h) f1; have l2 := HKA.out.cell (p := ⟨b, o + j * 5 + 2, none⟩) (fun h => h) f2; have l3 := HKA.out.cell (p := ⟨b, o + j * 5 + 3, none⟩) (fun h => h) f3; have l4 := HKA.out.cell (p := ⟨b, o + j * 5 + 4, none⟩) (fun h => h) f4))
  all_goals
    have hrow := HR3.out.putC hj ⟨rch, rep, rns, rfr, rjn⟩ (.slice va rns.length vc)
    have hks := (((((Kept.refl (fun k => k = r) w3).setCell (p := ⟨r, j * 5, none⟩) (.inl rfl) (.int .i64 rch)).setCell (p := ⟨r, j * 5 + 1, none⟩) (.inl rfl) (.int .u64 rep)).setCell (p := ⟨r, j * 5 + 2, none⟩) (.inl rfl) (.slice va rns.length vc)).setCell (p := ⟨r, j * 5 + 3, none⟩) (.inl rfl) (.bool rfr)).setCell (p := ⟨r, j * 5 + 4, none⟩) (.inl rfl) (.int .i64 rjn)
    simp only at hrow
    clear y0 y1 y2 y3 y4 z0 z1 z2 z3 z4 k0 k1 k2 k3 l0 l1 l2 l3 l4 c0 c1 c2 c3 f0 f1 f2 f3 f4
    generalize hW : World.setCell _ _ _ = W3 at hrow hks ⊢
    clear hW
    have HKE : Hid (Kept NoB w W3) := Lib.hid (by
      have h1 := HK2.out.trans HKA.out (fun _ _ h => h)
      exact h1.trans hks (fun i hi e => by have e : i = r := e; have := HRB.out; omega))
    have HND : Hid (NodesC W3 (fun k => F k ∨ w.heap.size ≤ k) (l.set j ⟨rch, rep, rns, rfr, rjn⟩) (upd us j (.slice va rns.length vc))) := Lib.hid (fun i hi => by
      rw [List.length_set] at hi
      rw [nthC_set hj]
      by_cases e : i = j
      · rw [if_pos e, e, upd_at]
        exact ⟨(HN3.out.kept hks (fun k hk h1 h2 => by have h2 : k = r := h2; have := HRW.out.lt; omega)).mono (fun k _ h => .inr (by have := HK2.out.size; omega)), HB3.out⟩
      · rw [if_neg e, upd_far e]
        have h1 := HUS.out _ (HK2.out.trans HKA.out (fun _ _ h => h)) i hi
        exact ⟨(h1.1.kept hks (fun k hk h1 h2 => by have h2 : k = r := h2; have := HRB.out; omega)).mono (fun k _ h => .inl h.1), h1.2⟩)
    have HCF := Lib.hid (hrow.cfs HND.out (.inr (by have := HRB.out; omega)))
    have hls : (l.set j ⟨rch, rep, rns, rfr, rjn⟩).length = l.length := List.length_set ..
    rw [hls] at HCF
    clear hrow hks hls
    go_wp2
    go_ret2
    exact ⟨_, rfl, HCF.out, HKE.out⟩
set_option maxRecDepth 100000 in
set_option maxHeartbeats 2000000 in
theorem RDo_any (v : Value) (l : List Cf) (e0 k ch ep nd : Int) (F : Nat → Prop) (w : World) (h : CfsAt w F v l) (hlen : l.length ≤ 1000) (hx : Chk k ch ep nd e0) (hep : 0 ≤ ep) :
    Calls Tryd.prog 27 #[v, cmdv k ch ep nd] w (RDoE F (doC l e0 k ch ep nd) (decide (canC l e0 k ch ep nd = 0)) w) := by
  have HB := Lib.hid (heap_alloc_new w (.cells #[.int .i64 k, .int .i64 ch, .int .u64 ep, .int .i64 nd] 42))
  have HK := Lib.hid ((Kept.refl NoB w).alloc (.cells #[.int .i64 k, .int .i64 ch, .int .u64 ep, .int .i64 nd] 42))
  have HCA : Hid (∀ w', Kept NoB w w' → _) := Lib.hid (fun w' hk => RCan_any _ l e0 k ch ep nd F w' (h.kept hk (fun _ _ _ h => h)) hlen hx hep)
  have HCF : Hid (∀ w', Kept NoB w w' → CfsAt w' (fun k => F k ∨ w.heap.size ≤ k) v l) := Lib.hid (fun w' hk => (h.kept hk (fun _ _ _ h => h)).mono (fun k _ h => .inl h))
  by_cases hc : canC l e0 k ch ep nd = 0
  rotate_left
  · rw [doC_no hc, decide_eq_false hc]
    obtain ⟨a, cap, rfl, _⟩ := id h
    obtain ⟨x, hxx⟩ : ∃ x, x = canC l e0 k ch ep nd := ⟨_, rfl⟩
    rw [← hxx] at hc HCA
    have hxb : ((x : Int) != 0) = true := by simpa using hc
    clear h hx hep hc hxx
    go_enter Tryd.func27, Tryd.ntmps27
    go_wp2_with fail
    refine (HCA.out _ HK.out).mono ?_
    rintro e w2 ⟨rfl, hk⟩
    have HK2 := Lib.hid (HK.out.trans hk (fun _ _ h => h))
    clear hk
    go_wp2
    go_ret2
    exact ⟨_, rfl, HCF.out _ HK2.out, HK2.out⟩
  obtain ⟨hA, rfl, hcs⟩ := can_ok hc
  by_cases hk0 : k = 0
  · subst hk0
    rw [doC_zero, decide_eq_true hc]
    rw [hc] at HCA
    obtain ⟨a, cap, rfl, _⟩ := id h
    clear h hx hep hc hcs
    go_enter Tryd.func27, Tryd.ntmps27
    go_wp2_with fail
    refine (HCA.out _ HK.out).mono ?_
    rintro e w2 ⟨rfl, hk⟩
    have HK2 := Lib.hid (HK.out.trans hk (fun _ _ h => h))
    have d0 := (cells4c (hk.heap (fun h => h) HB.out)).1
    clear hk
    go_wp2
    go_ret2
    exact ⟨_, rfl, HCF.out _ HK2.out, HK2.out⟩
  rcases hcs with h0 | ⟨_, hlt, _, _, _⟩
  · exact absurd h0 hk0
  have hV := Chk.ok.1 hx
  unfold Vld at hV
  have hch0 : 0 ≤ ch := by omega
  rw [doC_yes hc hk0, decide_eq_true hc]
  obtain ⟨j, rfl⟩ := Int.eq_ofNat_of_zero_le hch0
  have ejn : ((j : Int)).toNat = j := by omega
  rw [ejn]
  exact RDo_made _ l j k ep nd F w h hA hx hep (by omega) hk0 hc
end Go.Proofs.YtlnfbfdmicmafaaDoor
