/-
  Package cmds and its answer: isDigits, Number.
-/
import Derived.Test.YtdohnobfaignpaaDoorCmdC
import Derived.Laws.RangeAny
import Derived.Laws.RangeString
namespace Go.Proofs.YtdohnobfaignpaaDoor
open Go.RowKit Go.Sort Go.Lib
set_option linter.unusedVariables false

def Dgs (l : List UInt8) : Prop := ∀ c ∈ l, 48 ≤ c.toNat ∧ c.toNat ≤ 57
/-- Digits, with no 0 ahead but for 0 itself. -/
def Dig (l : List UInt8) : Prop := Dgs l ∧ (l = [48] ∨ ∃ c r, l = c :: r ∧ c ≠ 48)
def BoolEnd (b : Bool) (w : World) (e : Ending) (w' : World) : Prop := e = .returned (.bool b) ∧ Kept NoB w w'
theorem iter_kept (w : World) (s : ByteArray) (pos : Nat) : Kept NoB w (w.iter s pos) := (Kept.refl _ _).alloc _
theorem byte_at (s : ByteArray) (i : Nat) (h : i < s.size) : s.data.toList[i]? = some (s[i]'h) := by
  have : i < s.data.toList.length := by simpa using h
  rw [List.getElem?_eq_getElem this]
  rfl
theorem toL (s : ByteArray) : s.toList = s.data.toList := ByteArray.toList_eq s
theorem isDigits_any (s : ByteArray) (w : World) (hs : s.size ≤ 9223372036854775807) (b : Bool) (hb : b = true ↔ Dig s.data.toList) : Calls Tryd.prog 47 #[.string s] w (BoolEnd b w) := by
  have HB := Lib.hid hb
  clear hb
  go_enter Tryd.func47, Tryd.ntmps47
  go_wp2
  go_loopw [4] (fun _ wr => ∃ pos : Nat, pos ≤ s.size ∧ wr = w.iter s pos ∧ ∀ j, j < pos → ∀ c, s.data.toList[j]? = some c → 48 ≤ c.toNat ∧ c.toNat ≤ 57) (fun _ wr => s.size - wr.iterPos w.heap.size)
  case atStart => exact ⟨0, Nat.zero_le _, rfl, fun j hj => by omega⟩
  case round =>
    obtain ⟨pos, hps, rfl, hd⟩ := hrel
    have HD := Lib.hid hd
    clear hd
    by_cases hp : pos < s.size
    · have hat := byte_at s pos hp
      by_cases h128 : (s[pos]'hp).toNat < 128
      · have hnext : ∀ ty, (Instr.next (.pointer (some ⟨w.heap.size, 0, none⟩)) true ty).run Tryd.prog (w.iter s pos) = _ := fun ty => run_next_ascii w s pos ty hp h128
        obtain ⟨c, hc⟩ : ∃ c, c = s[pos]'hp := ⟨_, rfl⟩
        rw [← hc] at hat hnext h128
        have HA := Lib.hid hat
        clear hat hc
        by_cases hdg : 48 ≤ c.toNat ∧ c.toNat ≤ 57
        · obtain ⟨d1, d2⟩ := hdg
          have d1' : (48 : Int) ≤ (c.toNat : Int) := by omega
          have d2' : (c.toNat : Int) ≤ 57 := by omega
          go_wp2
          go_roundw
          case rel => exact ⟨pos + 1, by omega, rfl, fun j hj x hx => by
            rcases (by omega : j < pos ∨ j = pos) with h | rfl
            · exact HD.out j h x hx
            · rw [HA.out] at hx; injection hx with hx; subst hx; exact ⟨d1, d2⟩⟩
          case measure => simp [World.iterPos, World.iter_heap]; omega
        · have hbf : b = false := by
            cases b with
            | false => rfl
            | true => exact absurd ((HB.out.1 rfl).1 c (List.mem_of_getElem? HA.out)) hdg
          subst hbf
          have hx : (c.toNat : Int) < 48 ∨ 57 < (c.toNat : Int) := by omega
          clear hdg
          rcases hx with hx | hx
          · go_wp2
            go_ret
            exact ⟨rfl, iter_kept _ _ _⟩
          · have hx2 : (48 : Int) ≤ (c.toNat : Int) := by omega
            go_wp2
            go_ret
            exact ⟨rfl, iter_kept _ _ _⟩
      · have hnext : ∀ ty, (Instr.next (.pointer (some ⟨w.heap.size, 0, none⟩)) true ty).run Tryd.prog (w.iter s pos) = _ := fun ty => run_next_any w s pos ty hp
        have hh := (decode_high s pos hp (by omega)).1
        have hle := decode_le s pos
        have hbf : b = false := by
          cases b with
          | false => rfl
          | true => exact absurd ((HB.out.1 rfl).1 _ (List.mem_of_getElem? hat)) (by omega)
        subst hbf
        obtain ⟨r, hr⟩ : ∃ r, r = (Utf8.decode s pos).1 := ⟨_, rfl⟩
        obtain ⟨q, hq⟩ : ∃ q, q = (Utf8.decode s pos).2 := ⟨_, rfl⟩
        rw [← hr, ← hq] at hnext
        rw [← hr] at hh hle
        have r1 : (48 : Int) ≤ (r : Int) := by omega
        have r2 : (57 : Int) < (r : Int) := by omega
        clear hr hq hat h128
        go_wp2
        go_ret
        exact ⟨rfl, iter_kept _ _ _⟩
    · have hnext : ∀ ty, (Instr.next (.pointer (some ⟨w.heap.size, 0, none⟩)) true ty).run Tryd.prog (w.iter s pos) = _ := fun ty => run_next_end w s pos ty hp
      obtain rfl : pos = s.size := by omega
      have HAll : Hid (Dgs s.data.toList) := Lib.hid (fun c hc => by
        obtain ⟨j, hj, hx⟩ := List.getElem_of_mem hc
        exact HD.out j (by simpa using hj) c (by rw [List.getElem?_eq_getElem hj, hx]))
      clear HD hp hps
      by_cases h48 : s.toList = [48]
      · have hbt : b = true := HB.out.2 ⟨HAll.out, .inl (by rw [← toL]; exact h48)⟩
        subst hbt
        go_wp2
        go_ret
        exact ⟨rfl, iter_kept _ _ _⟩
      · have h48b : (s.toList == [48]) = false := by simpa using h48
        by_cases h0 : 0 < s.size
        · have hat := byte_at s 0 h0
          have hne : ¬ s.toList = [] := by rw [toL]; intro h; rw [h] at hat; cases hat
          have hie : s.toList.isEmpty = false := by cases h : s.toList with
            | nil => exact absurd h hne
            | cons a r => rfl
          by_cases hz : (s[0]'h0).toNat = 48
          · have hbf : b = false := by
              cases b with
              | false => rfl
              | true =>
                rcases (HB.out.1 rfl).2 with h | ⟨c, r, h, hc⟩
                · exact absurd (by rw [toL]; exact h) h48
                · rw [h] at hat
                  injection hat with hat
                  exact absurd (by rw [hat]; exact UInt8.toNat_inj.1 hz) hc
            subst hbf
            have hz' : ((s[0]'h0).toNat : Int) = 48 := by omega
            clear hat hz
            go_wp2
            go_ret
            exact ⟨rfl, iter_kept _ _ _⟩
          · have hbt : b = true := HB.out.2 ⟨HAll.out, .inr (by
              cases hl : s.data.toList with
              | nil => rw [hl] at hat; cases hat
              | cons c r =>
                rw [hl] at hat
                injection hat with hat
                exact ⟨c, r, rfl, fun h => hz (by rw [← hat, h]; rfl)⟩)⟩
            subst hbt
            have hz' : (((s[0]'h0).toNat : Int) != 48) = true := by simpa using (by omega : ¬ ((s[0]'h0).toNat : Int) = 48)
            clear hat hz
            go_wp2
            go_ret
            exact ⟨rfl, iter_kept _ _ _⟩
        · have hse : s.toList = [] := by
            rw [toL]
            have h1 : s.data.toList.length = s.size := by simp
            exact List.length_eq_zero_iff.1 (by omega)
          have hbf : b = false := by
            cases b with
            | false => rfl
            | true =>
              rcases (HB.out.1 rfl).2 with h | ⟨c, r, h, hc⟩
              · exact absurd (by rw [toL]; exact h) h48
              · rw [toL, h] at hse; cases hse
          subst hbf
          go_wp2
          go_ret
          exact ⟨rfl, iter_kept _ _ _⟩

/-- The number that digits spell. -/
def valF (a : Nat) (l : List UInt8) : Nat := l.foldl (fun a c => a * 10 + (c.toNat - 48)) a
abbrev MaxU : Nat := 18446744073709551615
theorem valF_ge (l : List UInt8) (a : Nat) : a ≤ valF a l := by
  induction l generalizing a with
  | nil => exact Nat.le_refl _
  | cons c l ih =>
    have := ih (a * 10 + (c.toNat - 48))
    show a ≤ valF (a * 10 + (c.toNat - 48)) l
    omega
theorem parse_val (l : List UInt8) (a : Nat) (h : Dgs l) (ha : a ≤ MaxU) : Lib.parseUintM MaxU a l = if valF a l ≤ MaxU then .ok (valF a l) else .range := by
  induction l generalizing a with
  | nil => simp [Lib.parseUintM, valF, ha]
  | cons c l ih =>
    have hc := h c (by simp)
    have hl : Dgs l := fun x hx => h x (by simp [hx])
    have hge := valF_ge l (a * 10 + (c.toNat - 48))
    have e : valF a (c :: l) = valF (a * 10 + (c.toNat - 48)) l := rfl
    rw [Lib.parseUintM, if_pos hc, e]
    have hM : MaxU = 18446744073709551615 := rfl
    split
    · rw [if_neg (by omega)]
    · split
      · rw [if_neg (by omega)]
      · exact ih _ hl (by omega)
/-- What Number tells. -/
def NumIs (l : List UInt8) (most : Nat) (n : Nat) (e : Int) : Prop :=
  (¬ (Dig l ∧ l.length ≤ 20) ∧ n = 0 ∧ e = 4) ∨ (Dig l ∧ l.length ≤ 20 ∧ ((valF 0 l ≤ MaxU ∧ valF 0 l ≤ most ∧ n = valF 0 l ∧ e = 0) ∨ (¬ (valF 0 l ≤ MaxU ∧ valF 0 l ≤ most) ∧ n = 0 ∧ e = 6)))
theorem NumIs.one {l : List UInt8} {most n m : Nat} {e f : Int} (h : NumIs l most n e) (k : NumIs l most m f) : n = m ∧ e = f := by
  rcases h with ⟨h, rfl, rfl⟩ | ⟨h1, h2, h⟩ <;> rcases k with ⟨k, rfl, rfl⟩ | ⟨k1, k2, k⟩
  · exact ⟨rfl, rfl⟩
  · exact absurd ⟨k1, k2⟩ h
  · exact absurd ⟨h1, h2⟩ k
  · rcases h with ⟨a1, a2, rfl, rfl⟩ | ⟨a, rfl, rfl⟩ <;> rcases k with ⟨b1, b2, rfl, rfl⟩ | ⟨b, rfl, rfl⟩
    · exact ⟨rfl, rfl⟩
    · exact absurd ⟨a1, a2⟩ b
    · exact absurd ⟨b1, b2⟩ a
    · exact ⟨rfl, rfl⟩
theorem NumIs.le {l : List UInt8} {most n : Nat} {e : Int} (h : NumIs l most n e) : n ≤ MaxU ∧ n ≤ most := by
  rcases h with ⟨_, rfl, _⟩ | ⟨_, _, ⟨h1, h2, rfl, _⟩ | ⟨_, rfl, _⟩⟩
  · omega
  · exact ⟨h1, h2⟩
  · omega
def NumEnds (l : List UInt8) (most : Nat) (w : World) (e : Ending) (w' : World) : Prop := ∃ n x, NumIs l most n x ∧ e = .returned (.tuple #[.int .u64 (n : Nat), .int .i64 x]) ∧ Kept NoB w w'
theorem NumEnds.mk {l : List UInt8} {most n : Nat} {x : Int} {w w' : World} (h : NumIs l most n x) (hk : Kept NoB w w') : NumEnds l most w (.returned (.tuple #[.int .u64 (n : Nat), .int .i64 x])) w' := ⟨n, x, h, rfl, hk⟩
theorem bytesWorld_kept (w : World) (t : TypeId) (s : ByteArray) : Kept NoB w (Lib.bytesWorld w t s) :=
  ⟨rfl, rfl, rfl, by rw [Lib.bytesWorld_size]; omega, fun k hk _ => Lib.bytesWorld_at_old w t s k hk⟩
theorem size_len (s : ByteArray) : s.data.toList.length = s.size := by simp
/-- ParseUint, of digits. -/
def ParsedEnd (l : List UInt8) (w : World) (e : Ending) (w' : World) : Prop :=
  Kept NoB w w' ∧ ((valF 0 l ≤ MaxU ∧ e = .returned (.tuple #[.int .u64 (valF 0 l : Nat), .nilIface])) ∨ (MaxU < valF 0 l ∧ ∃ t p, e = .returned (.tuple #[.int .u64 18446744073709551615, .iface t p])))
theorem ParseUint_any (s : ByteArray) (w : World) (hd : Dig s.data.toList) (h20 : s.size ≤ 20) (hv : Vars w) :
    Calls Tryd.prog 48 #[.string s, .int .i64 10, .int .i64 64] w (ParsedEnd s.data.toList w) := by
  have hne : s.data.toList ≠ [] := by
    rintro h
    rcases hd.2 with h' | ⟨c, r, h', _⟩ <;> rw [h] at h' <;> cases h'
  have hp : Lib.parseUintB 64 s.data.toList = if valF 0 s.data.toList ≤ MaxU then .ok (valF 0 s.data.toList) else .range := by
    unfold Lib.parseUintB
    rw [if_neg hne]
    exact parse_val _ 0 hd.1 (by omega)
  by_cases hm : valF 0 s.data.toList ≤ MaxU
  · rw [if_pos hm] at hp
    refine (Tryd.strconv_ParseUint_10_at64_ok s (by omega) _ hp w).mono fun e w' ⟨he, hw⟩ => ⟨?_, .inl ⟨hm, he⟩⟩
    rcases hw with rfl | rfl
    · exact Kept.refl _ _
    · exact bytesWorld_kept _ _ _
  · rw [if_neg hm] at hp
    obtain ⟨t, p, hc⟩ := hv.rng
    exact (Tryd.strconv_ParseUint_10_at64_range s (by omega) hp _ w hc (.inr ⟨_, _, rfl⟩)).mono fun e w' ⟨N, he, _, _, hb⟩ => ⟨kept_of_below hb, .inr ⟨by omega, _, _, he⟩⟩
theorem Number_any (s : ByteArray) (most : Nat) (w : World) (hm : most ≤ MaxU) (hs : s.size ≤ 9223372036854775807) (hv : Vars w) :
    Calls Tryd.prog 29 #[.string s, .int .u64 most] w (NumEnds s.data.toList most w) := by
  have hsl := size_len s
  have hM : MaxU = 18446744073709551615 := rfl
  by_cases hd : Dig s.data.toList
  · have HD := Lib.hid (isDigits_any s w hs true (by simp [hd]))
    by_cases h20 : s.size ≤ 20
    · have h20' : (s.size : Int) ≤ 20 := by omega
      have HP : Hid (∀ w', Vars w' → Calls Tryd.prog 48 #[.string s, .int .i64 10, .int .i64 64] w' (ParsedEnd s.data.toList w')) := Lib.hid (fun w' hv' => ParseUint_any s w' hd h20 hv')
      have HDD := Lib.hid (And.intro hd (show s.data.toList.length ≤ 20 by omega))
      have HV := Lib.hid hv
      clear hd hv hsl hM
      go_enter Tryd.func29, Tryd.ntmps29
      go_wp2_with fail
      refine HD.out.mono ?_
      rintro e w1 ⟨rfl, hk⟩
      have HK := Lib.hid hk
      clear hk
      go_wp2_with fail
      refine (HP.out w1 (HV.out.kept HK.out)).mono ?_
      rintro e w2 ⟨hk, ⟨hle, rfl⟩ | ⟨hgt, t, p, rfl⟩⟩
      · have HK2 := Lib.hid (HK.out.trans hk (fun _ _ h => h))
        clear hk
        by_cases hvm : valF 0 s.data.toList ≤ most
        · have HN : Hid (NumIs s.data.toList most (valF 0 s.data.toList) 0) := Lib.hid (.inr ⟨HDD.out.1, HDD.out.2, .inl ⟨hle, hvm, rfl, rfl⟩⟩)
          obtain ⟨v, hve⟩ : ∃ v, v = valF 0 s.data.toList := ⟨_, rfl⟩
          rw [← hve] at HN hvm ⊢
          obtain ⟨vi, hvi⟩ : ∃ x : Int, x = (v : Int) := ⟨_, rfl⟩
          obtain ⟨mi, hmi⟩ : ∃ x : Int, x = (most : Int) := ⟨_, rfl⟩
          rw [← hvi, ← hmi]
          have HVI := Lib.hid hvi
          have hx2 : vi ≤ mi := by omega
          clear hle hvi hmi hvm hm hve
          go_wp2
          go_ret2
          exact ⟨v, 0, HN.out, by rw [← HVI.out]; rfl, HK2.out⟩
        · have HN : Hid (NumIs s.data.toList most 0 6) := Lib.hid (.inr ⟨HDD.out.1, HDD.out.2, .inr ⟨fun h => hvm h.2, rfl, rfl⟩⟩)
          obtain ⟨v, hve⟩ : ∃ v, v = valF 0 s.data.toList := ⟨_, rfl⟩
          rw [← hve] at hvm ⊢
          obtain ⟨vi, hvi⟩ : ∃ x : Int, x = (v : Int) := ⟨_, rfl⟩
          obtain ⟨mi, hmi⟩ : ∃ x : Int, x = (most : Int) := ⟨_, rfl⟩
          rw [← hvi, ← hmi]
          have hx2 : mi < vi := by omega
          clear hle hvi hmi hvm hm hve
          go_wp2
          go_ret2
          exact ⟨0, 6, HN.out, rfl, HK2.out⟩
      · have HK2 := Lib.hid (HK.out.trans hk (fun _ _ h => h))
        have HN : Hid (NumIs s.data.toList most 0 6) := Lib.hid (.inr ⟨HDD.out.1, HDD.out.2, .inr ⟨fun h => by have := h.1; omega, rfl, rfl⟩⟩)
        clear hk hgt hm
        go_wp2
        go_ret2
        exact ⟨0, 6, HN.out, rfl, HK2.out⟩
    · have HN : Hid (NumIs s.data.toList most 0 4) := Lib.hid (.inl ⟨fun h => by have := h.2; omega, rfl, rfl⟩)
      have h20' : (20 : Int) < (s.size : Int) := by omega
      clear hd hv hsl hM hm h20
      go_enter Tryd.func29, Tryd.ntmps29
      go_wp2_with fail
      refine HD.out.mono ?_
      rintro e w1 ⟨rfl, hk⟩
      have HK := Lib.hid hk
      clear hk
      go_wp2
      go_ret2
      exact ⟨0, 4, HN.out, rfl, HK.out⟩
  · have HD := Lib.hid (isDigits_any s w hs false (by simp [hd]))
    have HN : Hid (NumIs s.data.toList most 0 4) := Lib.hid (.inl ⟨fun h => hd h.1, rfl, rfl⟩)
    clear hd hv hsl hM hm
    go_enter Tryd.func29, Tryd.ntmps29
    go_wp2_with fail
    refine HD.out.mono ?_
    rintro e w1 ⟨rfl, hk⟩
    have HK := Lib.hid hk
    clear hk
    go_wp2
    go_ret2
    exact ⟨0, 4, HN.out, rfl, HK.out⟩
end Go.Proofs.YtdohnobfaignpaaDoor
