/-
  The chapter's Number.
-/
import Derived.Test.YtdohnobfaignpaaDoorCmdH
namespace Go.Proofs.YtdohnobfaignpaaDoor
open Go.RowKit Go.Sort Go.Lib
set_option linter.unusedVariables false

theorem valF_snoc (l : List UInt8) (a : Nat) (c : UInt8) : valF a (l ++ [c]) = valF a l * 10 + (c.toNat - 48) := by simp [valF]
/-- How far the chapter's loop has come. -/
def NSt (l : List UInt8) (j : Nat) (b : Bool) (a : Int) : Prop :=
  Dgs (l.take j) ∧ ((b = false ∧ a = (valF 0 (l.take j) : Nat) ∧ valF 0 (l.take j) ≤ MaxU) ∨ (b = true ∧ MaxU < valF 0 (l.take j) ∧ 0 ≤ a ∧ a ≤ 18446744073709551615))
theorem NSt.bound {l : List UInt8} {j : Nat} {b : Bool} {a : Int} (h : NSt l j b a) : 0 ≤ a ∧ a ≤ 18446744073709551615 := by
  have hM : MaxU = 18446744073709551615 := rfl
  rcases h.2 with ⟨_, h1, h2⟩ | ⟨_, _, h1, h2⟩ <;> omega
theorem take_at {l : List UInt8} {j : Nat} {c : UInt8} (h : l[j]? = some c) : l.take (j + 1) = l.take j ++ [c] := by
  rw [List.take_add_one, h]; rfl
theorem NSt.step {l : List UInt8} {j : Nat} {b : Bool} {a d : Int} {c : UInt8} (h : NSt l j b a) (hc : l[j]? = some c) (h1 : 48 ≤ c.toNat) (h2 : c.toNat ≤ 57) (hd : d = (c.toNat : Int) - 48) :
    ((18446744073709551615 - d) / 10 < a → NSt l (j + 1) true a) ∧ (a ≤ (18446744073709551615 - d) / 10 → NSt l (j + 1) b (10 * a + d)) := by
  have hM : MaxU = 18446744073709551615 := rfl
  have hg : Dgs (l.take (j + 1)) := by
    rw [take_at hc]
    intro x hx
    rcases List.mem_append.1 hx with hx | hx
    · exact h.1 x hx
    · have : x = c := by simpa using hx
      rw [this]; exact ⟨h1, h2⟩
  have hv : valF 0 (l.take (j + 1)) = valF 0 (l.take j) * 10 + (c.toNat - 48) := by rw [take_at hc, valF_snoc]
  refine ⟨fun ht => ⟨hg, .inr ⟨rfl, ?_, ?_⟩⟩, fun ht => ⟨hg, ?_⟩⟩
  · rcases h.2 with ⟨_, e, _⟩ | ⟨_, e, _⟩ <;> omega
  · exact h.bound
  · rcases h.2 with ⟨e0, e, _⟩ | ⟨e0, e, _⟩
    · exact .inl ⟨e0, by omega, by omega⟩
    · exact .inr ⟨e0, by omega, by omega, by omega⟩
theorem NSt.notDig {l : List UInt8} {j : Nat} {c : UInt8} (hc : l[j]? = some c) (h : ¬ (48 ≤ c.toNat ∧ c.toNat ≤ 57)) (most : Nat) : NumIs l most 0 4 :=
  .inl ⟨fun hd => h (hd.1.1 c (List.mem_of_getElem? hc)), rfl, rfl⟩
/-- The end of the loop. -/
theorem NSt.end_ {l : List UInt8} {b : Bool} {a : Int} {most : Nat} (h : NSt l l.length b a) (h20 : l.length ≤ 20) (h1 : 1 ≤ l.length) (hz : l.length = 1 ∨ ∀ c, l[0]? = some c → c.toNat ≠ 48) :
    ((b = true ∨ (most : Int) < a) → NumIs l most 0 6) ∧ (b = false → a ≤ (most : Int) → ∃ n : Nat, a = n ∧ NumIs l most n 0) := by
  have hM : MaxU = 18446744073709551615 := rfl
  obtain ⟨hg, h⟩ := h
  rw [List.take_length] at hg h
  have hd : Dig l := by
    refine ⟨hg, ?_⟩
    cases l with
    | nil => simp at h1
    | cons c r =>
      by_cases h48 : c.toNat = 48
      · rcases hz with hz | hz
        · have : r = [] := List.length_eq_zero_iff.1 (by simpa using hz)
          subst this
          exact .inl (by rw [UInt8.toNat_inj.1 (show c.toNat = (48 : UInt8).toNat from h48)])
        · exact absurd h48 (hz c rfl)
      · exact .inr ⟨c, r, rfl, fun e => h48 (by rw [e]; rfl)⟩
  refine ⟨fun hb => .inr ⟨hd, h20, .inr ⟨?_, rfl, rfl⟩⟩, fun hb ha => ?_⟩
  · rintro ⟨h2, h3⟩
    rcases h with ⟨e0, e, _⟩ | ⟨e0, e, _⟩
    · rcases hb with hb | hb
      · rw [e0] at hb; cases hb
      · omega
    · omega
  · rcases h with ⟨e0, e, e2⟩ | ⟨e0, e, _⟩
    · exact ⟨valF 0 l, e, .inr ⟨hd, h20, .inl ⟨e2, by omega, rfl, rfl⟩⟩⟩
    · rw [hb] at e0; cases e0
set_option maxRecDepth 100000 in
theorem RNumber_any (s : ByteArray) (most : Nat) (w : World) (hs : s.size ≤ 9223372036854775807) :
    Calls Tryd.prog 30 #[.string s, .int .u64 most] w (NumEnds s.data.toList most w) := by
  have hsl := size_len s
  by_cases h0 : s.size < 1
  · have HN : Hid (NumIs s.data.toList most 0 4) := Lib.hid (.inl ⟨fun h => by
      rcases h.1.2 with h' | ⟨c, r, h', _⟩ <;> rw [h'] at hsl <;> simp at hsl <;> omega, rfl, rfl⟩)
    have h0' : (s.size : Int) < 1 := by omega
    clear hsl h0
    go_enter Tryd.func30, Tryd.ntmps30
    go_wp2
    go_ret2
    exact ⟨0, 4, HN.out, rfl, Kept.refl _ _⟩
  · have h1 : (1 : Int) ≤ (s.size : Int) := by omega
    by_cases h20 : 20 < s.size
    · have HN : Hid (NumIs s.data.toList most 0 4) := Lib.hid (.inl ⟨fun h => by have := h.2; omega, rfl, rfl⟩)
      have h20' : (20 : Int) < (s.size : Int) := by omega
      clear hsl h0 h20
      go_enter Tryd.func30, Tryd.ntmps30
      go_wp2
      go_ret2
      exact ⟨0, 4, HN.out, rfl, Kept.refl _ _⟩
    · have h20' : (s.size : Int) ≤ 20 := by omega
      have hp0 : 0 < s.size := by omega
      have hat := byte_at s 0 hp0
      have H20 := Lib.hid (show s.data.toList.length ≤ 20 by omega)
      have H1 := Lib.hid (show 1 ≤ s.data.toList.length by omega)
      by_cases hz : 1 < s.size ∧ (s[0]'hp0).toNat = 48
      · obtain ⟨hz1, hz2⟩ := hz
        have HN : Hid (NumIs s.data.toList most 0 4) := Lib.hid (.inl ⟨fun h => by
          rcases h.1.2 with h' | ⟨c, r, h', hc⟩
          · rw [h'] at hsl; simp at hsl; omega
          · rw [h'] at hat; injection hat with hat; exact hc (by rw [hat]; exact UInt8.toNat_inj.1 hz2), rfl, rfl⟩)
        have hz1' : (1 : Int) < (s.size : Int) := by omega
        have hz2' : ((s[0]'hp0).toNat : Int) = 48 := by omega
        clear hsl h0 h20 hat hz2 hz1
        go_enter Tryd.func30, Tryd.ntmps30
        go_wp2
        go_ret2
        exact ⟨0, 4, HN.out, rfl, Kept.refl _ _⟩
      · have HZ : Hid (s.data.toList.length = 1 ∨ ∀ c, s.data.toList[0]? = some c → c.toNat ≠ 48) := Lib.hid (by
          by_cases h : 1 < s.size
          · exact .inr (fun c hc h48 => hz ⟨h, by rw [hat] at hc; injection hc with hc; rw [hc]; exact h48⟩)
          · exact .inl (by omega))
        have hg : s.size = 1 ∨ (1 < s.size ∧ (s[0]'hp0).toNat ≠ 48) := by
          by_cases h : 1 < s.size
          · exact .inr ⟨h, fun e => hz ⟨h, e⟩⟩
          · exact .inl (by omega)
        obtain ⟨mi, hmi⟩ : ∃ x : Int, x = (most : Int) := ⟨_, rfl⟩
        rw [← hmi]
        have HMI := Lib.hid hmi
        have HST : Hid (NSt s.data.toList 0 false 0) := Lib.hid ⟨fun c hc => by simp at hc, .inl ⟨rfl, by simp [valF], by simp [valF]⟩⟩
        have HSL := Lib.hid hsl
        clear hz hsl hat h20 h0 hmi
        rcases hg with hg | ⟨hg, hg2⟩
        · have hg' : (s.size : Int) ≤ 1 := by omega
          go_enter Tryd.func30, Tryd.ntmps30
          go_wp2
          go_loop [6, 7, 8] (fun n o i => ∃ (j : Nat) (b : Bool) (a : Int), j ≤ s.size ∧ i = .int .i64 j ∧ n = .int .u64 a ∧ o = .bool b ∧ Hid (NSt s.data.toList j b a)) (fun _ _ i => s.size - (RowKit.intOf i).toNat)
          case atStart => exact ⟨0, false, 0, Nat.zero_le _, rfl, rfl, rfl, HST.out⟩
          case round =>
            obtain ⟨j, b, a, hj, rfl, rfl, rfl, HN⟩ := hrel
            obtain ⟨ha0, ha1⟩ := HN.out.bound
            clear HST
            by_cases hlt : j < s.size
            · have hat := byte_at s j hlt
              have HAT := Lib.hid hat
              obtain ⟨c, hc⟩ : ∃ c, c = s[j]'hlt := ⟨_, rfl⟩
              rw [← hc] at HAT
              by_cases hd : 48 ≤ c.toNat ∧ c.toNat ≤ 57
              · obtain ⟨d, hdd⟩ : ∃ d : Int, d = (c.toNat : Int) - 48 := ⟨_, rfl⟩
                have HS := Lib.hid (HN.out.step HAT.out hd.1 hd.2 hdd)
                have hd0 : 0 ≤ d := by omega
                have hd9 : d ≤ 9 := by omega
                have hcd : ((s[j]'hlt).toNat : Int) = d + 48 := by rw [← hc]; omega
                clear hat hd hdd hc
                by_cases ht : (18446744073709551615 - d) / 10 < a
                · have HS1 := Lib.hid (HS.out.1 ht)
                  go_wp2
                  go_round
                  case rel => exact ⟨j + 1, true, a, by omega, by go_num, rfl, rfl, HS1.out⟩
                  case measure => simp [RowKit.intOf]; omega
                · have ht' : a ≤ (18446744073709551615 - d) / 10 := by omega
                  have HS1 := Lib.hid (HS.out.2 ht')
                  have hw : 10 * a + d ≤ 18446744073709551615 := by omega
                  have hw2 : 10 * a ≤ 18446744073709551615 := by omega
                  clear ht
                  go_wp2
                  go_round
                  case rel => exact ⟨j + 1, b, 10 * a + d, by omega, by go_num, rfl, rfl, HS1.out⟩
                  case measure => simp [RowKit.intOf]; omega
              · have HX := Lib.hid (NSt.notDig HAT.out hd most)
                have hx : ((s[j]'hlt).toNat : Int) < 48 ∨ 57 < ((s[j]'hlt).toNat : Int) := by rw [← hc]; omega
                clear hat hd hc
                rcases hx with hx | hx
                · go_wp2
                  go_ret2
                  exact ⟨0, 4, HX.out, rfl, Kept.refl _ _⟩
                · have hx2 : (48 : Int) ≤ ((s[j]'hlt).toNat : Int) := by omega
                  go_wp2
                  go_ret2
                  exact ⟨0, 4, HX.out, rfl, Kept.refl _ _⟩
            · obtain rfl : j = s.size := by omega
              have HE := Lib.hid (NSt.end_ (most := most) (HSL.out ▸ HN.out) H20.out H1.out HZ.out)
              cases b with
              | true =>
                have HX := Lib.hid (HE.out.1 (.inl rfl))
                go_wp2
                go_ret2
                exact ⟨0, 6, HX.out, rfl, Kept.refl _ _⟩
              | false =>
                by_cases hm : mi < a
                · have HX := Lib.hid (HE.out.1 (.inr (by rw [← HMI.out]; exact hm)))
                  go_wp2
                  go_ret2
                  exact ⟨0, 6, HX.out, rfl, Kept.refl _ _⟩
                · have hm' : a ≤ mi := by omega
                  have HX := Lib.hid (HE.out.2 rfl (by rw [← HMI.out]; exact hm'))
                  clear hm
                  go_wp2
                  go_ret2
                  obtain ⟨n, hn, hx⟩ := HX.out
                  exact ⟨n, 0, hx, by rw [← hn]; rfl, Kept.refl _ _⟩
        · have hg' : (1 : Int) < (s.size : Int) := by omega
          have hg3 : (((s[0]'hp0).toNat : Int) == 48) = false := by simpa using (by omega : ¬ ((s[0]'hp0).toNat : Int) = 48)
          clear hg2
          go_enter Tryd.func30, Tryd.ntmps30
          go_wp2
          go_loop [6, 7, 8] (fun n o i => ∃ (j : Nat) (b : Bool) (a : Int), j ≤ s.size ∧ i = .int .i64 j ∧ n = .int .u64 a ∧ o = .bool b ∧ Hid (NSt s.data.toList j b a)) (fun _ _ i => s.size - (RowKit.intOf i).toNat)
          case atStart => exact ⟨0, false, 0, Nat.zero_le _, rfl, rfl, rfl, HST.out⟩
          case round =>
            obtain ⟨j, b, a, hj, rfl, rfl, rfl, HN⟩ := hrel
            obtain ⟨ha0, ha1⟩ := HN.out.bound
            clear HST
            by_cases hlt : j < s.size
            · have hat := byte_at s j hlt
              have HAT := Lib.hid hat
              obtain ⟨c, hc⟩ : ∃ c, c = s[j]'hlt := ⟨_, rfl⟩
              rw [← hc] at HAT
              by_cases hd : 48 ≤ c.toNat ∧ c.toNat ≤ 57
              · obtain ⟨d, hdd⟩ : ∃ d : Int, d = (c.toNat : Int) - 48 := ⟨_, rfl⟩
                have HS := Lib.hid (HN.out.step HAT.out hd.1 hd.2 hdd)
                have hd0 : 0 ≤ d := by omega
                have hd9 : d ≤ 9 := by omega
                have hcd : ((s[j]'hlt).toNat : Int) = d + 48 := by rw [← hc]; omega
                clear hat hd hdd hc
                by_cases ht : (18446744073709551615 - d) / 10 < a
                · have HS1 := Lib.hid (HS.out.1 ht)
                  go_wp2
                  go_round
                  case rel => exact ⟨j + 1, true, a, by omega, by go_num, rfl, rfl, HS1.out⟩
                  case measure => simp [RowKit.intOf]; omega
                · have ht' : a ≤ (18446744073709551615 - d) / 10 := by omega
                  have HS1 := Lib.hid (HS.out.2 ht')
                  have hw : 10 * a + d ≤ 18446744073709551615 := by omega
                  have hw2 : 10 * a ≤ 18446744073709551615 := by omega
                  clear ht
                  go_wp2
                  go_round
                  case rel => exact ⟨j + 1, b, 10 * a + d, by omega, by go_num, rfl, rfl, HS1.out⟩
                  case measure => simp [RowKit.intOf]; omega
              · have HX := Lib.hid (NSt.notDig HAT.out hd most)
                have hx : ((s[j]'hlt).toNat : Int) < 48 ∨ 57 < ((s[j]'hlt).toNat : Int) := by rw [← hc]; omega
                clear hat hd hc
                rcases hx with hx | hx
                · go_wp2
                  go_ret2
                  exact ⟨0, 4, HX.out, rfl, Kept.refl _ _⟩
                · have hx2 : (48 : Int) ≤ ((s[j]'hlt).toNat : Int) := by omega
                  go_wp2
                  go_ret2
                  exact ⟨0, 4, HX.out, rfl, Kept.refl _ _⟩
            · obtain rfl : j = s.size := by omega
              have HE := Lib.hid (NSt.end_ (most := most) (HSL.out ▸ HN.out) H20.out H1.out HZ.out)
              cases b with
              | true =>
                have HX := Lib.hid (HE.out.1 (.inl rfl))
                go_wp2
                go_ret2
                exact ⟨0, 6, HX.out, rfl, Kept.refl _ _⟩
              | false =>
                by_cases hm : mi < a
                · have HX := Lib.hid (HE.out.1 (.inr (by rw [← HMI.out]; exact hm)))
                  go_wp2
                  go_ret2
                  exact ⟨0, 6, HX.out, rfl, Kept.refl _ _⟩
                · have hm' : a ≤ mi := by omega
                  have HX := Lib.hid (HE.out.2 rfl (by rw [← HMI.out]; exact hm'))
                  clear hm
                  go_wp2
                  go_ret2
                  obtain ⟨n, hn, hx⟩ := HX.out
                  exact ⟨n, 0, hx, by rw [← hn]; rfl, Kept.refl _ _⟩
end Go.Proofs.YtdohnobfaignpaaDoor
