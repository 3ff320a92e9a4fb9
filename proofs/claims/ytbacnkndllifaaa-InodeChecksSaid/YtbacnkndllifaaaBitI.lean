/-
  Package bits: Give. The chapter's: Set, Take, Give.
-/
import Derived.Test.YtbacnkndllifaaaBitH
namespace Go.Proofs.Ytbacnkndllifaaa
open Go.RowKit
set_option linter.unusedVariables false

/-- What Give tells, number by number. -/
def gvE (f : Nat → Bool) (n : Nat) (done : List Int) : List Int → Int
  | [] => 0
  | x :: r => if x < 0 ∨ (n : Int) ≤ x then 20 else if f x.toNat && !decide (x ∈ done) then gvE f n (done ++ [x]) r else 7
theorem drop_cons27 {L : List Int} {j : Nat} (h : j < L.length) : L.drop j = L.getD j 0 :: L.drop (j + 1) := by
  rw [List.drop_eq_getElem_cons h, List.getD_eq_getElem?_getD, List.getElem?_eq_getElem h]; rfl
theorem gvE_range {f : Nat → Bool} {n : Nat} {L : List Int} {j : Nat} (h : j < L.length) (hx : L.getD j 0 < 0 ∨ (n : Int) ≤ L.getD j 0) : gvE f n (L.take j) (L.drop j) = 20 := by
  rw [drop_cons27 h, gvE, if_pos hx]
theorem gvE_none {f : Nat → Bool} {n : Nat} {L : List Int} {j k : Nat} (h : j < L.length) (hx : L.getD j 0 = (k : Int)) (hk : k < n) (hb : (f k && !decide ((k : Int) ∈ L.take j)) = false) : gvE f n (L.take j) (L.drop j) = 7 := by
  rw [drop_cons27 h, gvE, hx, if_neg (by omega), Int.toNat_natCast, hb]; rfl
theorem gvE_step {f : Nat → Bool} {n : Nat} {L : List Int} {j k : Nat} (h : j < L.length) (hx : L.getD j 0 = (k : Int)) (hk : k < n) (hb : (f k && !decide ((k : Int) ∈ L.take j)) = true) : gvE f n (L.take j) (L.drop j) = gvE f n (L.take (j + 1)) (L.drop (j + 1)) := by
  rw [drop_cons27 h, gvE, take_snoc h, hx, if_neg (by omega), Int.toNat_natCast, hb]; rfl
theorem gvE_end (f : Nat → Bool) (n : Nat) (L D : List Int) : gvE f n D (L.drop L.length) = 0 := by rw [List.drop_length]; rfl
/-- What Give is. -/
def gv27 (l : List Int) (n : Int) (L : List Int) : Int := if fitB l n then gvE (bitN l) n.toNat [] L else 4
def GvM (l : List Int) (n : Int) (L : List Int) (M : List Int) : Prop := if gv27 l n L = 0 then BM (fun j => bitN l j && !decide ((j : Int) ∈ L)) n.toNat M else M = []
theorem GvM.uniq {l : List Int} {n : Int} {L M M' : List Int} (h : GvM l n L M) (h' : GvM l n L M') : M = M' := by
  unfold GvM at h h'
  by_cases e : gv27 l n L = 0
  · rw [if_pos e] at h h'
    exact h.uniq h' (fun _ _ => rfl)
  · rw [if_neg e] at h h'
    rw [h, h']
def GiveE (er : Int) (P : List Int → Prop) (w : World) (e : Ending) (w' : World) : Prop :=
  ∃ a c M, e = .returned (.tuple #[.slice a M.length c, .int .i64 er]) ∧ P M ∧ BSl w' (fun k => w.heap.size ≤ k) (.slice a M.length c) M ∧ Kept NoB w w'
theorem GiveE.nil {er er' : Int} {P : List Int → Prop} {w w' : World} (he : er = er') (hp : P []) (hk : Kept NoB w w') : GiveE er P w (.returned (.tuple #[.slice none 0 0, .int .i64 er'])) w' := by
  subst he
  exact ⟨none, 0, [], rfl, hp, BSl.nil _ _, hk⟩
set_option maxRecDepth 100000 in
theorem bGive27_any (v u : Value) (l L : List Int) (F G : Nat → Prop) (n : Int) (w : World) (h : BSl w F v l) (hL : NSl w G u L) (hlen : L.length ≤ 5000) (hbd : ∀ x ∈ L, x ≤ 9223372036854775807) :
    Calls Try.prog 28 #[v, .int .i64 n, u] w (GiveE (gv27 l n L) (GvM l n L) w) := by
  have HF := Lib.hid (bFits_any v l F n w h)
  cases hf : fitB l n with
  | false =>
    rw [hf] at HF
    have he : gv27 l n L = 4 := by simp [gv27, hf]
    have HP : Hid (GvM l n L []) := Lib.hid (by simp [GvM, he])
    rw [he]
    clear hf h he hL
    go_enter Try.func28, Try.ntmps28
    go_wp2_with (go_at_call 18; refine HF.out.mono ?_; rintro e w' ⟨rfl, rfl⟩)
    go_ret2
    exact GiveE.nil rfl HP.out (Kept.refl _ _)
  | true =>
    rw [hf] at HF
    obtain ⟨n', rfl, hn4, hl, hbz⟩ := fitB_nat hf
    have HE0 : Hid (gv27 l n' L = gvE (bitN l) n' [] L) := Lib.hid (by simp [gv27, hf])
    have HP : Hid (∀ M, gv27 l n' L = 0 → BM (fun j => bitN l j && !decide ((j : Int) ∈ L)) n' M → GvM l n' L M) := Lib.hid (fun M he hM => by
      unfold GvM; rw [if_pos he]; simpa using hM)
    have HPN : Hid (gv27 l n' L ≠ 0 → GvM l n' L []) := Lib.hid (fun he => by unfold GvM; rw [if_neg he])
    obtain ⟨er, her⟩ : ∃ er, er = gv27 l n' L := ⟨_, rfl⟩
    rw [← her] at HE0 HP HPN ⊢
    have HW := Lib.hid (whole_any v l F n' w h hn4 hl)
    have hwl := wholeB_len hl
    have hb1 := byt_le n'
    have hb2 := byt_lt n'
    have HBM := Lib.hid (wholeB_BM h.isB hl hbz)
    obtain ⟨m, hm⟩ : ∃ m, m = byt n' := ⟨_, rfl⟩
    rw [← hm] at HW hwl hb1 hb2
    have HM := Lib.hid hm
    have HBD := Lib.hid hbd
    obtain ⟨au, cu, rfl, _⟩ := id hL
    have HL := Lib.hid hL
    have HWS := Lib.hid hwl
    clear hf h hl hbz hm hwl her hbd hL
    go_enter Try.func28, Try.ntmps28
    go_wp2_with (first
      | (go_at_call 18; refine HF.out.mono ?_; rintro e w' ⟨rfl, rfl⟩)
      | (go_at_call 52; refine HW.out.mono ?_; rintro e w2 ⟨rfl, hb, hk⟩; have HB := Lib.hid hb; have HK2 := Lib.hid hk; have hgl := heap_lt hb.2; clear hb hk))
    go_loopw [20] (fun i wr => ∃ (j : Nat) (M : List Int), j ≤ L.length ∧ i = .int .i64 j ∧ er = gvE (bitN l) n' (L.take j) (L.drop j) ∧ BytB wr w.heap.size M ∧ BM (fun p => bitN l p && !decide ((p : Int) ∈ L.take j)) n' M ∧ Kept NoB w wr) (fun i _ => L.length - (intOf i).toNat)
    case atStart => exact ⟨0, _, by omega, rfl, by rw [HE0.out]; rfl, HB.out, HBM.out.cong (fun i _ => by simp), HK2.out⟩
    case round =>
      obtain ⟨j, M, hj, rfl, her, hby, hbm, hkk⟩ := hrel
      have HY := Lib.hid hby
      have HBM2 := Lib.hid hbm
      have HKK := Lib.hid hkk
      have HER := Lib.hid her
      have hml : M.length = m := hbm.len.trans HM.out.symm
      have HML := Lib.hid hml
      clear hby hbm hkk her
      by_cases hlt : j < L.length
      · obtain ⟨b, o, rfl, _, hb, hcell⟩ := (HL.out.kept HKK.out (fun _ _ _ h => h)).at_ hlt
        have hxb := HBD.out (L.getD j 0) (by rw [List.getD_eq_getElem?_getD, List.getElem?_eq_getElem hlt]; exact List.getElem_mem hlt)
        obtain ⟨x, hx⟩ : ∃ x, x = L.getD j 0 := ⟨_, rfl⟩
        rw [← hx] at hcell hxb
        have HX := Lib.hid hx
        have hj0 : (0 : Int) ≤ (j : Int) := by omega
        have hj1 : (j : Int) < (L.length : Int) := by omega
        clear hx
        by_cases hr : x < 0 ∨ (n' : Int) ≤ x
        · have HR : Hid (er = 20 ∧ er ≠ 0) := Lib.hid (by have := HER.out; rw [gvE_range hlt (by rw [← HX.out]; exact hr)] at this; exact ⟨this, by rw [this]; decide⟩)
          by_cases h0 : x < 0
          · clear hr hml
            go_wp2
            go_ret2
            exact GiveE.nil HR.out.1 (HPN.out HR.out.2) HKK.out
          · have h1 : 0 ≤ x := by omega
            have h2 : (n' : Int) ≤ x := by omega
            clear hr h0 hml
            go_wp2
            go_ret2
            exact GiveE.nil HR.out.1 (HPN.out HR.out.2) HKK.out
        · obtain ⟨k, rfl⟩ := Int.eq_ofNat_of_zero_le (show 0 ≤ x by omega)
          have hkn : k < n' := by omega
          have h1 : (0 : Int) ≤ (k : Int) := by omega
          have h2 : ¬ (n' : Int) ≤ (k : Int) := by omega
          have HH := Lib.hid (bHas27_any (bv w.heap.size M.length) M _ (k : Int) wr (HY.out.bsl (by unfold maxLen; omega)) (by omega))
          have hbit : bitN M k = (bitN l k && !decide ((k : Int) ∈ L.take j)) := by rw [HBM2.out.bit, decide_eq_true hkn]; rfl
          rw [bitI_nat, hml] at HH
          clear hr hml
          cases hm2 : bitN M k with
          | true =>
            rw [hm2] at HH hbit
            have HER2 : Hid (er = gvE (bitN l) n' (L.take (j + 1)) (L.drop (j + 1))) := Lib.hid (by rw [HER.out, gvE_step hlt HX.out.symm hkn hbit.symm])
            have HPU := Lib.hid (put_any w.heap.size M k false wr HY.out (by rw [HML.out]; omega) (by rw [HML.out]; omega))
            rw [HML.out] at HPU
            have HBM3 : Hid (BM (fun p => bitN l p && !decide ((p : Int) ∈ L.take (j + 1))) n' (turnB M k false)) := Lib.hid ((HBM2.out.turn hkn false).cong fun i _ => by
              rw [take_snoc hlt, ← HX.out]
              by_cases e : i = k
              · subst e; simp
              · have : ¬ (i : Int) = (k : Int) := by omega
                simp only [List.mem_append, List.mem_singleton, this, or_false, if_neg e])
            clear hm2 hbit
            go_wp2_with (first
              | (go_at_call 20; refine HH.out.mono ?_; rintro e w' ⟨rfl, rfl⟩)
              | (go_at_call 53; refine HPU.out.mono ?_; rintro e w4 ⟨rfl, hb4, hk4⟩; have HB4 := Lib.hid hb4; have HK4 := Lib.hid (HKK.out.trans hk4 (fun i h1 h2 => absurd h1 (by omega))); clear hb4 hk4))
            go_roundw
            case rel => exact ⟨j + 1, _, by omega, by go_num, HER2.out, HB4.out, HBM3.out, HK4.out⟩
            case measure => simp [intOf]; omega
          | false =>
            rw [hm2] at HH hbit
            have HR : Hid (er = 7 ∧ er ≠ 0) := Lib.hid (by have := HER.out; rw [gvE_none hlt HX.out.symm hkn hbit.symm] at this; exact ⟨this, by rw [this]; decide⟩)
            clear hm2 hbit
            go_wp2_with (go_at_call 20; refine HH.out.mono ?_; rintro e w' ⟨rfl, rfl⟩)
            go_ret2
            exact GiveE.nil HR.out.1 (HPN.out HR.out.2) HKK.out
      · obtain rfl : j = L.length := by omega
        have HR : Hid (er = 0) := Lib.hid (by rw [HER.out, gvE_end])
        have HX := Lib.hid (HP.out M HR.out (by have := HBM2.out; rw [List.take_length] at this; exact this))
        have HBS := Lib.hid ((HY.out.bsl (by unfold maxLen; omega)).mono (G := fun k => w.heap.size ≤ k) (fun k _ e => by omega))
        clear hlt hml
        go_wp2
        go_ret2
        rw [HR.out]
        have hx := HBS.out
        exact ⟨some ⟨w.heap.size, 0, none⟩, M.length, M, (by rw [HML.out] <;> rfl), HX.out, hx, HKK.out⟩
end Go.Proofs.Ytbacnkndllifaaa
