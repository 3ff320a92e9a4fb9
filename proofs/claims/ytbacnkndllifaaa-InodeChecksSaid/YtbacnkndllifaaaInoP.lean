/-
  Layer 28: InodeMakes.
-/
import Derived.Test.YtbacnkndllifaaaInoO
namespace Go.Proofs.Ytbacnkndllifaaa
open Go.RowKit
set_option linter.unusedVariables false

theorem blk_exts {bs : List Int} (hb : ∀ x ∈ bs, -9223372036854775808 ≤ x ∧ x ≤ 9223372036854775807) : blk (exts bs) = bs := by
  have key : ∀ j, j ≤ bs.length → blk (exts (bs.take j)) = bs.take j := by
    intro j
    induction j with
    | zero => intro _; rfl
    | succ j ih =>
      intro hj
      have hm : bs.getD j 0 ∈ bs := getD_mem28 (by omega)
      rw [take_snoc (by omega), exts_snoc]
      obtain ⟨x, hx⟩ : ∃ x, x = bs.getD j 0 := ⟨_, rfl⟩
      rw [← hx] at hm ⊢
      have ih := ih (by omega)
      have hln := exts_lens (bs.take j)
      obtain ⟨L, hL⟩ : ∃ L, L = exts (bs.take j) := ⟨_, rfl⟩
      rw [← hL] at ih hln ⊢
      cases hf : fits28 L x with
      | false =>
        rw [addB_new hf, blk_snoc, ih]
        congr 1
        have : eblk (x, 1) = run28 x 1 := rfl
        rw [this, run28_succ]
        have h0 : run28 x 0 = [] := rfl
        rw [h0, List.nil_append]
        congr 1
        have := hb x hm
        rw [show x + ((0 : Nat) : Int) = x by omega, wr28 this.1 this.2]
      | true =>
        have hli : L ≠ [] := by intro h; rw [h] at hf; cases hf
        obtain ⟨m, ⟨s, n⟩, rfl⟩ := snoc28 hli
        rw [fits_snoc] at hf
        simp only [Bool.and_eq_true, decide_eq_true_eq] at hf
        rw [addB_last m s n x hf.1 hf.2, blk_snoc]
        rw [blk_snoc] at ih
        obtain ⟨n1, n8⟩ := hln (s, n) (by simp)
        simp only at n1 n8
        have e1 : eblk (s, n) = run28 s n.toNat := by unfold eblk; rw [if_pos ⟨n1, n8⟩]
        have e2 : eblk (s, n + 1) = run28 s (n.toNat + 1) := by
          unfold eblk
          rw [if_pos ⟨by show 1 ≤ n + 1; omega, by show n + 1 ≤ 8; omega⟩]
          show run28 s (n + 1).toNat = _
          congr 1; omega
        rw [e2, run28_succ, ← List.append_assoc, ← e1, ih]
        congr 2
        rw [← hf.2]; congr 1; omega
  have := key bs.length (Nat.le_refl _)
  rwa [List.take_length] at this
theorem rOf_all (m s : Int) (v : Value) (bs : List Int) (F : Nat → Prop) (w : World) (h : NSl w F v bs) (hl : bs.length ≤ 1000) (hb : ∀ x ∈ bs, -9223372036854775808 ≤ x ∧ x ≤ 9223372036854775807) :
    Calls Try.prog 45 #[.int .i64 m, .int .i64 s, v] w (IRes (ofE m s bs) (ofR m s bs).1 (ofR m s bs).2.1 (ofR m s bs).2.2 w) := by
  by_cases hm : m = 1 ∨ m = 2
  · exact rOf_any m s v bs F w h hl hm hb
  · have he : ofE m s bs = 1 := by
      unfold ofE
      by_cases h0 : m = 0
      · rw [if_pos h0]
      · rw [if_neg h0]; unfold chk28; rw [if_pos (by omega)]
    rw [show ofR m s bs = (0, 0, []) by unfold ofR; rw [he]; rfl, he]
    exact rOf_bad m s v bs w (by omega)
theorem ofR_len (m s : Int) (bs : List Int) : (ofR m s bs).2.2.length ≤ bs.length := by
  unfold ofR
  split
  · exact exts_len bs
  · simp

theorem IAt.cells {t : TypeId} {w : World} {g : Nat} {m s : Int} {v : Value} (h : IAt t w g m s v) : w.cell? ⟨g, 0, none⟩ = some (.int .i64 m) ∧ w.cell? ⟨g, 1, none⟩ = some (.int .i64 s) ∧ w.cell? ⟨g, 2, none⟩ = some v := cells3 h
theorem IAt.no {t : TypeId} {w w' : World} {g : Nat} {m s : Int} {v : Value} (h : IAt t w g m s v) (hk : Kept NoB w w') : IAt t w' g m s v := h.kept hk (fun h => h)
theorem IAt.new (t : TypeId) (w : World) (m s : Int) (v : Value) : IAt t (w.alloc (.cells #[.int .i64 m, .int .i64 s, v] t)) w.heap.size m s v := heap_alloc_new w _
set_option maxRecDepth 100000 in
theorem InodeMakes_any (m s : Int) (v : Value) (bs : List Int) (W : World) (h : NSl W (fun k => k < W.heap.size) v bs) (h0 : -9223372036854775808 ≤ s) (h1 : s ≤ 9223372036854775807) (hb : ∀ x ∈ bs, -9223372036854775808 ≤ x ∧ x ≤ 9223372036854775807) :
    Calls Try.prog 9 #[.int .i64 m, .int .i64 s, v] W fun e W' => e = .returned (.bool true) ∧ Kept NoB W W' := by
  obtain ⟨a, cap, rfl, _, hcm, _⟩ := id h
  have HAW := Lib.hid awake28_any
  by_cases hl : 40 < bs.length
  · have d1 : decide ((40 : Int) < (bs.length : Int)) = true := decide_eq_true (by omega)
    have d2 : decide (40 < bs.length) = true := decide_eq_true hl
    clear h hl hb
    go_enter Try.func9, Try.ntmps9
    go_wp2_with (go_at_call 30; refine (HAW.out _).mono ?_; rintro e w' ⟨rfl, hk⟩; have HK := Lib.hid hk; clear hk)
    go_ret
    exact ⟨rfl, HK.out⟩
  · have d1 : decide ((40 : Int) < (bs.length : Int)) = false := decide_eq_false (by omega)
    have d2 : decide (40 < bs.length) = false := decide_eq_false hl
    have HN := Lib.hid h
    have hO1 : ∀ W', Kept NoB W W' → _ := fun W' hk => iOf_any m s _ bs _ W' (h.kept (S := NoB) hk (fun _ _ _ h => h)) (by omega) h0 h1
    have hO2 : ∀ W', Kept NoB W W' → _ := fun W' hk => rOf_all m s _ bs _ W' (h.kept (S := NoB) hk (fun _ _ _ h => h)) (by omega) hb
    have HND := Lib.hid (fun W => iNeed_any s W h0 h1)
    have HND2 := Lib.hid (fun W => rNeed_any s W h0 h1)
    have hrl := ofR_len m s bs
    have HBB : Hid (ofE m s bs = 0 → blk (ofR m s bs).2.2 = bs) := Lib.hid (fun he => by unfold ofR; rw [if_pos he]; exact blk_exts hb)
    have HO1 := Lib.hid hO1
    have HO2 := Lib.hid hO2
    obtain ⟨er, her⟩ : ∃ er, er = ofE m s bs := ⟨_, rfl⟩
    obtain ⟨R, hR⟩ : ∃ R, R = ofR m s bs := ⟨_, rfl⟩
    rw [← her, ← hR] at HO1 HO2 HBB
    rw [← hR] at hrl
    obtain ⟨rm, rs, L⟩ := R
    simp only at hrl
    have HK := Lib.hid (Kept.refl NoB W)
    obtain ⟨nd, hnd⟩ : ∃ nd, nd = need28 s := ⟨_, rfl⟩
    rw [← hnd] at HND HND2
    have hLL : L.length ≤ 1000 := by omega
    clear h hl hb hO1 hO2 her hR hnd
    have key : ∀ eb : Bool, (er != 0) = eb → Calls Try.prog 9 #[.int .i64 m, .int .i64 s, .slice a bs.length cap] W fun e W' => e = .returned (.bool true) ∧ Kept NoB W W' := by
      intro eb heb
      have HEB := Lib.hid heb
      cases eb with
      | true =>
        clear heb
        have heb := HEB.out
        go_enter Try.func9, Try.ntmps9
        go_wp2_with (first
          | (go_at_call 44; refine (HO1.out _ HK.out).mono ?_; rintro e w1 ⟨a1, c1, rfl, hx, hk⟩; (try simp only at hx); (have hk2 := (Kept.refl NoB w1).alloc (.cells #[.int .i64 rm, .int .i64 rs, .slice a1 L.length c1] 47)); replace HK := Lib.hid ((HK.out.trans hk (fun _ _ h => h)).trans hk2 (fun _ _ h => h)); have HX := Lib.hid (hx.any.no hk2); have HZ := Lib.hid (IAt.new 47 w1 rm rs (.slice a1 L.length c1)); clear hx hk hk2)
          | (go_at_call 45; refine (HO2.out _ HK.out).mono ?_; rintro e w2 ⟨a2, c2, rfl, hx, hk⟩; (try simp only at hx); (have hk2 := (Kept.refl NoB w2).alloc (.cells #[.int .i64 rm, .int .i64 rs, .slice a2 L.length c2] 43)); replace HK := Lib.hid ((HK.out.trans hk (fun _ _ h => h)).trans hk2 (fun _ _ h => h)); replace HX := Lib.hid ((HX.out.no hk).no hk2); have HY := Lib.hid (hx.any.no hk2); replace HZ := Lib.hid ((HZ.out.no hk).no hk2); obtain ⟨z0, z1, z2⟩ := HZ.out.cells; clear hx hk hk2)
          | (go_at_call 41; refine (like_true rm rs _ _ L _ _ _ HX.out HY.out hLL).mono ?_; rintro e w3 ⟨rfl, hk⟩; replace HK := Lib.hid (HK.out.trans hk (fun _ _ h => h)); clear hk)
          | (go_at_call 46; refine (HND.out _).mono ?_; rintro e w4 ⟨rfl, rfl⟩)
          | (go_at_call 47; refine (HND2.out _).mono ?_; rintro e w4 ⟨rfl, rfl⟩)
          | (go_at_call 30; refine (HAW.out _).mono ?_; rintro e w' ⟨rfl, hk⟩; replace HK := Lib.hid (HK.out.trans hk (fun _ _ h => h)); clear hk))
        go_ret
        exact ⟨rfl, HK.out⟩
      | false =>
        have hbb := HBB.out (by simpa using heb)
        have HBE := Lib.hid hbb
        clear hbb heb
        have heb := HEB.out
        go_enter Try.func9, Try.ntmps9
        go_wp2_with (first
          | (go_at_call 44; refine (HO1.out _ HK.out).mono ?_; rintro e w1 ⟨a1, c1, rfl, hx, hk⟩; (try simp only at hx); (have hk2 := (Kept.refl NoB w1).alloc (.cells #[.int .i64 rm, .int .i64 rs, .slice a1 L.length c1] 47)); replace HK := Lib.hid ((HK.out.trans hk (fun _ _ h => h)).trans hk2 (fun _ _ h => h)); have HX := Lib.hid (hx.any.no hk2); have HZ := Lib.hid (IAt.new 47 w1 rm rs (.slice a1 L.length c1)); clear hx hk hk2)
          | (go_at_call 45; refine (HO2.out _ HK.out).mono ?_; rintro e w2 ⟨a2, c2, rfl, hx, hk⟩; (try simp only at hx); (have hk2 := (Kept.refl NoB w2).alloc (.cells #[.int .i64 rm, .int .i64 rs, .slice a2 L.length c2] 43)); replace HK := Lib.hid ((HK.out.trans hk (fun _ _ h => h)).trans hk2 (fun _ _ h => h)); replace HX := Lib.hid ((HX.out.no hk).no hk2); have HY := Lib.hid (hx.any.no hk2); replace HZ := Lib.hid ((HZ.out.no hk).no hk2); obtain ⟨z0, z1, z2⟩ := HZ.out.cells; clear hx hk hk2)
          | (go_at_call 41; refine (like_true rm rs _ _ L _ _ _ HX.out HY.out hLL).mono ?_; rintro e w3 ⟨rfl, hk⟩; replace HK := Lib.hid (HK.out.trans hk (fun _ _ h => h)); replace HX := Lib.hid (HX.out.no hk); replace HZ := Lib.hid (HZ.out.no hk); clear z0 z1 z2; obtain ⟨z0, z1, z2⟩ := HZ.out.cells; clear hk)
          | (go_at_call 46; refine (HND.out _).mono ?_; rintro e w4 ⟨rfl, rfl⟩)
          | (go_at_call 47; refine (HND2.out _).mono ?_; rintro e w4 ⟨rfl, rfl⟩)
          | (go_at_call 37; refine (iBlocks_any rm rs _ L _ _ HX.out hLL).mono ?_; rw [HBE.out]; rintro e w5 ⟨a5, c5, rfl, ho, hk⟩; replace HK := Lib.hid (HK.out.trans hk (fun _ _ h => h)); have HO5 := Lib.hid ho.nslB; have HN5 := Lib.hid (HN.out.kept HK.out (fun _ _ _ h => h)); clear ho hk)
          | (go_at_call 24; refine (SameN_any _ _ bs bs _ _ _ HO5.out HN5.out).mono ?_; rw [decide_eq_true rfl]; rintro e w9 ⟨rfl, hk⟩; replace HK := Lib.hid (HK.out.trans hk (fun _ _ h => h)); clear hk)
          | (go_at_call 30; refine (HAW.out _).mono ?_; rintro e w' ⟨rfl, hk⟩; replace HK := Lib.hid (HK.out.trans hk (fun _ _ h => h)); clear hk))
        go_ret
        exact ⟨rfl, HK.out⟩
    exact key _ rfl
end Go.Proofs.Ytbacnkndllifaaa
