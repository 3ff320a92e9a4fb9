/-
  Layer 31: parent, file.
-/
import Derived.Test.YtokafgleejcbgaaGreatDoorTreD
namespace Go.Proofs.YtokafgleejcbgaaGreatDoor
open Go.RowKit
set_option linter.unusedVariables false
set_option maxRecDepth 100000

theorem rs31_cases (L : List It) (r : It) (p : List UInt8) (h : r ∈ L) : ((rs31 L r p).1 ≠ 0 ∧ (rs31 L r p).2 = none) ∨ ∃ x ∈ L, rs31 L r p = (0, some x) := by
  unfold rs31
  by_cases he : pathE p ≠ 0
  · rw [if_pos he]; exact .inl ⟨he, rfl⟩
  · rw [if_neg he]
    by_cases hz : (rsT L (pathNs p) (pathNs p).length r).1 = 0
    · rw [if_pos hz, hz]; exact .inr ⟨_, rsT_mem h, rfl⟩
    · rw [if_neg hz]; exact .inl ⟨hz, rfl⟩
/-- The directory that has a path's entry, or may get it. -/
def pa31 (L : List It) (r : It) (p : List UInt8) : Int × Option It :=
  if (abv29 p).2.2 ≠ 0 then ((abv29 p).2.2, none) else
    match (rs31 L r (abv29 p).1).2 with
    | none => ((rs31 L r (abv29 p).1).1, none)
    | some x => if x.dir then (0, some x) else (14, none)
/-- The file at a path, of so many bytes at least. -/
def fl31 (L : List It) (r : It) (p : List UInt8) (n : Int) : Int × Option It :=
  match (rs31 L r p).2 with
  | none => ((rs31 L r p).1, none)
  | some x => if x.dir then (15, none) else if (x.d.length : Int) < n then (20, none) else (0, some x)
theorem pa31_cases (L : List It) (r : It) (p : List UInt8) (h : r ∈ L) : ((pa31 L r p).1 ≠ 0 ∧ (pa31 L r p).2 = none) ∨ ∃ x ∈ L, x.dir = true ∧ pa31 L r p = (0, some x) := by
  unfold pa31
  by_cases he : (abv29 p).2.2 ≠ 0
  · rw [if_pos he]; exact .inl ⟨he, rfl⟩
  · rw [if_neg he]
    rcases rs31_cases L r (abv29 p).1 h with ⟨h1, h2⟩ | ⟨x, hx, h1⟩
    · rw [h2]; exact .inl ⟨h1, rfl⟩
    · rw [h1]
      simp only
      cases hd : x.dir with
      | true => exact .inr ⟨x, hx, hd, rfl⟩
      | false => exact .inl ⟨by simp, rfl⟩
theorem fl31_cases (L : List It) (r : It) (p : List UInt8) (n : Int) (h : r ∈ L) : ((fl31 L r p n).1 ≠ 0 ∧ (fl31 L r p n).2 = none) ∨ ∃ x ∈ L, x.dir = false ∧ n ≤ x.d.length ∧ fl31 L r p n = (0, some x) := by
  unfold fl31
  rcases rs31_cases L r p h with ⟨h1, h2⟩ | ⟨x, hx, h1⟩
  · rw [h2]; exact .inl ⟨h1, rfl⟩
  · rw [h1]
    simp only
    cases hd : x.dir with
    | true => exact .inl ⟨by simp, rfl⟩
    | false =>
      by_cases hn : (x.d.length : Int) < n
      · rw [if_neg (by simp), if_pos hn]; exact .inl ⟨by simp, rfl⟩
      · rw [if_neg (by simp), if_neg hn]; exact .inr ⟨x, hx, hd, by omega, rfl⟩
theorem abv_len31 (p : List UInt8) : (abv29 p).1.length ≤ 1000 := by
  unfold abv29
  split
  · show (jn29 _).length ≤ 1000
    unfold jn29
    rw [List.length_cons]
    have h1 := join_short29 ((pathNs p).take ((pathNs p).length - 1)) 11 (fun y hy => (pathNs_short p).2 y (List.mem_of_mem_take hy))
    have h2 := (pathNs_short p).1
    rw [List.length_take] at h1
    have h3 : min ((pathNs p).length - 1) (pathNs p).length * (11 + 1) ≤ 8 * 12 := Nat.mul_le_mul (by omega) (Nat.le_refl _)
    omega
  · simp
set_option maxHeartbeats 4000000 in
theorem file31_any (w : World) (g bm : Nat) (I B : Int) (L : List It) (r : It) (s : ByteArray) (n : Int) (h : TrAt w g bm I B L) (hr : atT L [47] = some r) (hs : s.size ≤ 1000000) (hv : Lng w) :
    Calls Tryz.prog 43 #[.pointer (some ⟨g, 0, none⟩), .string s, .int .i64 n] w fun e w' => e = .returned (.tuple #[lookV (fl31 L r s.data.toList n).2, .int .i64 (fl31 L r s.data.toList n).1]) ∧ Kept NoB w w' := by
  have HRS := Lib.hid (resolve31_any w g bm I B L r s h hr hs hv)
  have HH := Lib.hid h
  have hc := rs31_cases L r s.data.toList (atT_key hr).2
  have hf : fl31 L r s.data.toList n = fl31 L r s.data.toList n := rfl
  conv at hf => rhs; unfold fl31
  obtain ⟨R, hR⟩ : ∃ R, R = rs31 L r s.data.toList := ⟨_, rfl⟩
  rw [← hR] at HRS hc hf
  obtain ⟨V, hV⟩ : ∃ V, V = fl31 L r s.data.toList n := ⟨_, rfl⟩
  rw [← hV] at hf ⊢
  clear h hr hs hv hR hV
  rcases hc with ⟨h1, h2⟩ | ⟨x, hx, h1⟩
  · obtain ⟨R1, R2⟩ := R
    simp only at h1 h2 HRS hf
    subst h2
    simp only at hf
    rw [show lookV none = .pointer none from rfl] at HRS
    subst hf
    have g1 : (R1 != 0) = true := bne_iff_ne.2 h1
    clear h1
    go_enter Tryz.func43, Tryz.ntmps43
    go_wp2_with (go_at_call 44; refine HRS.out.mono ?_; rintro e w1 ⟨rfl, hk⟩; have HK := Lib.hid hk; clear hk)
    exact bodyPost_ret (v := .tuple #[.pointer none, .int .i64 R1]) (by simp [results, Tryz.results43, go_sem]) rfl ⟨rfl, HK.out⟩
  · subst h1
    simp only at HRS hf
    rw [lookV_some] at HRS
    unfold itv at HRS
    cases hd : x.dir with
    | true =>
      rw [hd] at hf
      have hf : V = (15, none) := hf
      subst hf
      have HD := Lib.hid hd
      clear hd
      go_enter Tryz.func43, Tryz.ntmps43
      go_wp2_with (go_at_call 44; refine HRS.out.mono ?_; rintro e w1 ⟨rfl, hk⟩; have HK := Lib.hid hk; (obtain ⟨a, c, x0, x1, -⟩ := ((HH.out.no hk).it x hx).cells); rw [HD.out] at x0; clear hk)
      exact bodyPost_ret (v := .tuple #[.pointer none, .int .i64 15]) (by simp [results, Tryz.results43, go_sem]) rfl ⟨rfl, HK.out⟩
    | false =>
      rw [hd, if_neg (by simp)] at hf
      have HD := Lib.hid hd
      clear hd
      by_cases hn : (x.d.length : Int) < n
      · rw [if_pos hn] at hf
        subst hf
        have g1 : decide ((x.d.length : Int) < n) = true := decide_eq_true hn
        clear hn
        go_enter Tryz.func43, Tryz.ntmps43
        go_wp2_with (go_at_call 44; refine HRS.out.mono ?_; rintro e w1 ⟨rfl, hk⟩; have HK := Lib.hid hk; (obtain ⟨a, c, x0, x1, -⟩ := ((HH.out.no hk).it x hx).cells); rw [HD.out] at x0; clear hk)
        exact bodyPost_ret (v := .tuple #[.pointer none, .int .i64 20]) (by simp [results, Tryz.results43, go_sem]) rfl ⟨rfl, HK.out⟩
      · rw [if_neg hn] at hf
        subst hf
        have g1 : decide ((x.d.length : Int) < n) = false := decide_eq_false hn
        clear hn
        go_enter Tryz.func43, Tryz.ntmps43
        go_wp2_with (go_at_call 44; refine HRS.out.mono ?_; rintro e w1 ⟨rfl, hk⟩; have HK := Lib.hid hk; (obtain ⟨a, c, x0, x1, -⟩ := ((HH.out.no hk).it x hx).cells); rw [HD.out] at x0; clear hk)
        exact bodyPost_ret (v := .tuple #[.pointer (some ⟨x.b, 0, none⟩), .int .i64 0]) (by simp [results, Tryz.results43, go_sem]) rfl ⟨rfl, HK.out⟩
set_option maxHeartbeats 4000000 in
theorem parent31_any (w : World) (g bm : Nat) (I B : Int) (L : List It) (r : It) (s : ByteArray) (h : TrAt w g bm I B L) (hr : atT L [47] = some r) (hs : s.size ≤ 1000000) (hv : Lng w) :
    Calls Tryz.prog 37 #[.pointer (some ⟨g, 0, none⟩), .string s] w fun e w' => e = .returned (.tuple #[lookV (pa31 L r s.data.toList).2, .int .i64 (pa31 L r s.data.toList).1]) ∧ Kept NoB w w' := by
  have HAB := Lib.hid (vAbove_any s w hs hv)
  have HH := Lib.hid h
  have hal := abv_len31 s.data.toList
  have HRS0 := fun w' (hk : Kept NoB w w') (q : ByteArray) (hq : q.size ≤ 1000000) => resolve31_any w' g bm I B L r q (h.no hk) hr hq (hv.no hk)
  have hp : pa31 L r s.data.toList = pa31 L r s.data.toList := rfl
  conv at hp => rhs; unfold pa31
  obtain ⟨X, hX⟩ : ∃ X, X = abv29 s.data.toList := ⟨_, rfl⟩
  rw [← hX] at HAB hp hal
  obtain ⟨V, hV⟩ : ∃ V, V = pa31 L r s.data.toList := ⟨_, rfl⟩
  rw [← hV] at hp ⊢
  obtain ⟨xa, xn, xe⟩ := X
  simp only at HAB hp hal
  have hsl : (⟨xa.toArray⟩ : ByteArray).data.toList = xa := by simp
  have hss : (⟨xa.toArray⟩ : ByteArray).size ≤ 1000000 := by show xa.toArray.size ≤ _; rw [List.size_toArray]; omega
  have HRS := Lib.hid (fun w' hk => HRS0 w' hk ⟨xa.toArray⟩ hss)
  rw [hsl] at HRS
  have hc := rs31_cases L r xa (atT_key hr).2
  obtain ⟨R, hR⟩ : ∃ R, R = rs31 L r xa := ⟨_, rfl⟩
  rw [← hR] at HRS hc hp
  clear HRS0 h hr hs hv hR hV hX hal hsl hss
  unfold AbvE at HAB
  simp only at HAB
  by_cases he : xe ≠ 0
  · rw [if_pos he] at hp
    subst hp
    have g1 : (xe != 0) = true := bne_iff_ne.2 he
    clear he hc
    go_enter Tryz.func37, Tryz.ntmps37
    go_wp2_with (go_at_call 35; refine HAB.out.mono ?_; rintro e w1 ⟨rfl, hk⟩; have HK1 := Lib.hid hk; clear hk)
    exact bodyPost_ret (v := .tuple #[.pointer none, .int .i64 xe]) (by simp [results, Tryz.results37, go_sem]) rfl ⟨rfl, HK1.out⟩
  · rw [if_neg he] at hp
    have he : xe = 0 := Decidable.not_not.1 he
    subst he
    rcases hc with ⟨h1, h2⟩ | ⟨x, hx, h1⟩
    · obtain ⟨R1, R2⟩ := R
      simp only at h1 h2 HRS hp
      subst h2
      simp only at hp
      rw [show lookV none = .pointer none from rfl] at HRS
      subst hp
      have g1 : (R1 == 0) = false := by simpa using h1
      clear h1
      go_enter Tryz.func37, Tryz.ntmps37
      go_wp2_with (first
        | (go_at_call 35; refine HAB.out.mono ?_; rintro e w1 ⟨rfl, hk⟩; have HK1 := Lib.hid hk; clear hk)
        | (go_at_call 44; refine (HRS.out _ HK1.out).mono ?_; rintro e w2 ⟨rfl, hk⟩; have HK := Lib.hid (HK1.out.trans hk (fun _ _ h => h)); clear hk))
      exact bodyPost_ret (v := .tuple #[.pointer none, .int .i64 R1]) (by simp [results, Tryz.results37, go_sem]) rfl ⟨rfl, HK.out⟩
    · subst h1
      simp only at HRS hp
      rw [lookV_some] at HRS
      unfold itv at HRS
      cases hd : x.dir with
      | true =>
        rw [hd, if_pos rfl] at hp
        subst hp
        have HD := Lib.hid hd
        clear hd
        go_enter Tryz.func37, Tryz.ntmps37
        go_wp2_with (first
          | (go_at_call 35; refine HAB.out.mono ?_; rintro e w1 ⟨rfl, hk⟩; have HK1 := Lib.hid hk; clear hk)
          | (go_at_call 44; refine (HRS.out _ HK1.out).mono ?_; rintro e w2 ⟨rfl, hk⟩; have HK := Lib.hid (HK1.out.trans hk (fun _ _ h => h)); (obtain ⟨a, c, x0, -, -⟩ := ((HH.out.no HK.out).it x hx).cells); rw [HD.out] at x0; clear hk))
        exact bodyPost_ret (v := .tuple #[.pointer (some ⟨x.b, 0, none⟩), .int .i64 0]) (by simp [results, Tryz.results37, go_sem]) rfl ⟨rfl, HK.out⟩
      | false =>
        rw [hd, if_neg (by simp)] at hp
        subst hp
        have HD := Lib.hid hd
        clear hd
        go_enter Tryz.func37, Tryz.ntmps37
        go_wp2_with (first
          | (go_at_call 35; refine HAB.out.mono ?_; rintro e w1 ⟨rfl, hk⟩; have HK1 := Lib.hid hk; clear hk)
          | (go_at_call 44; refine (HRS.out _ HK1.out).mono ?_; rintro e w2 ⟨rfl, hk⟩; have HK := Lib.hid (HK1.out.trans hk (fun _ _ h => h)); (obtain ⟨a, c, x0, -, -⟩ := ((HH.out.no HK.out).it x hx).cells); rw [HD.out] at x0; clear hk))
        exact bodyPost_ret (v := .tuple #[.pointer none, .int .i64 14]) (by simp [results, Tryz.results37, go_sem]) rfl ⟨rfl, HK.out⟩
end Go.Proofs.YtokafgleejcbgaaGreatDoor
