/-
  Package cmds: pieces of a text, the kind of a name.
-/
import Derived.Test.YtdohnobfaignpaaDoorCmdD
namespace Go.Proofs.YtdohnobfaignpaaDoor
open Go.RowKit Go.Sort Go.Lib
set_option linter.unusedVariables false

/-- The pieces of a text, five at most. -/
def pcs (s : ByteArray) : List ByteArray := Lib.splitB ⟨#[32]⟩ 0 (min 5 (s.size + 1) - 1) s
theorem pcs_len (s : ByteArray) : 1 ≤ (pcs s).length ∧ (pcs s).length ≤ 5 := by
  refine ⟨?_, ?_⟩
  · unfold pcs
    cases min 5 (s.size + 1) - 1 with
    | zero => simp [Lib.splitB]
    | succ k => unfold Lib.splitB; split <;> simp
  · have := Lib.splitB_length_le ⟨#[32]⟩ 0 (min 5 (s.size + 1) - 1) s
    unfold pcs
    omega
def pc (s : ByteArray) (i : Nat) : ByteArray := (pcs s).getD i ⟨#[]⟩
theorem Split_any (s : ByteArray) (w : World) (hs : s.size ≤ 1000000) (hv : Vars w) :
    Calls Tryd.prog 54 #[.string s, .string ⟨#[32]⟩, .int .i64 5] w fun e w' => ∃ cap, e = .returned (.slice (some ⟨w.heap.size, 0, none⟩) (pcs s).length cap) ∧ w.heap.size < w'.heap.size ∧
      (∀ i, i < (pcs s).length → w'.cell? ⟨w.heap.size, i, none⟩ = some (.string (pc s i))) ∧ Kept NoB w w' := by
  obtain ⟨m, hm⟩ := hv.long
  refine (Tryd.strings_SplitN s ⟨#[32]⟩ 5 m w (by omega) hm (by decide) (by omega) (by omega)).mono fun e w' ⟨he, hw⟩ => ⟨_, he, ?_, fun i hi => ?_, ?_⟩
  · rw [hw]; simp
  · rw [hw, cell_of_row _ _ i _ _ _ (heap_alloc_new w _)]
    have hi' : i < (Lib.splitB ⟨#[32]⟩ 0 (min 5 (s.size + 1) - 1) s).length := hi
    unfold Lib.cellsOf pc pcs
    rw [List.getElem?_toArray, List.getElem?_append_left (by simpa using hi')]
    simp [List.getElem?_eq_getElem hi', List.getD_eq_getElem?_getD]
  · rw [hw]
    exact (Kept.refl _ _).alloc _

theorem index_hit (a r : List UInt8) (h : (32 : UInt8) ∉ a) : Lib.index (a ++ 32 :: r) [32] = a.length := by
  induction a with
  | nil => simp [Lib.index]
  | cons c a ih =>
    have hc : ¬ (32 : UInt8) = c := fun e => h (by simp [e])
    have ih' := ih (fun hm => h (by simp [hm]))
    have hp : ([32] : List UInt8).isPrefixOf (c :: (a ++ 32 :: r)) = false := by simp [List.isPrefixOf, hc]
    rw [List.cons_append, Lib.index, hp, ih']
    have : ¬ ((a.length : Int) == -1) = true := by simp
    simp [this]
theorem index_miss (a : List UInt8) (h : (32 : UInt8) ∉ a) : Lib.index a [32] = -1 := by
  induction a with
  | nil => simp [Lib.index]
  | cons c a ih =>
    have hc : ¬ (32 : UInt8) = c := fun e => h (by simp [e])
    have ih' := ih (fun hm => h (by simp [hm]))
    have hp : ([32] : List UInt8).isPrefixOf (c :: a) = false := by simp [List.isPrefixOf, hc]
    rw [Lib.index, hp, ih']
    simp
theorem splitK_hit (k : Nat) (a r : List UInt8) (h : (32 : UInt8) ∉ a) : Lib.splitK [32] 0 (k + 1) (a ++ 32 :: r) = a :: Lib.splitK [32] 0 k r := by
  rw [Lib.splitK, index_hit a r h]
  have hm : ¬ ((a.length : Int) == -1) = true := by simp
  rw [if_neg hm]
  simp
theorem splitK_miss (k : Nat) (a : List UInt8) (h : (32 : UInt8) ∉ a) : Lib.splitK [32] 0 k a = [a] := by
  cases k with
  | zero => rfl
  | succ k => rw [Lib.splitK, index_miss a h]; simp
theorem dec_dgs (n : Nat) : Dgs (Lib.decDigits n) := by
  induction n using Nat.strongRecOn with
  | _ n ih =>
    rw [Lib.decDigits]
    split
    · intro c hc
      have : c = UInt8.ofNat (48 + n) := by simpa using hc
      rw [this]; simp; omega
    · intro c hc
      rcases List.mem_append.1 hc with hc | hc
      · exact ih (n / 10) (by omega) c hc
      · have : c = UInt8.ofNat (48 + n % 10) := by simpa using hc
        rw [this]; simp; omega
theorem dec_no32 (n : Nat) : (32 : UInt8) ∉ Lib.decDigits n := fun h => by
  have := (dec_dgs n _ h).1
  revert this
  decide
theorem nm_no32 (k : Nat) : (32 : UInt8) ∉ nmL k := by
  unfold nmL
  split <;> decide
theorem pcs_txt (s : ByteArray) (k ch ep nd : Nat) (h : s.data.toList = txtL k ch ep nd) : (pcs s).map (·.data.toList) = [nmL k, Lib.decDigits ch, Lib.decDigits ep, Lib.decDigits nd] := by
  have hl : s.size = (txtL k ch ep nd).length := by rw [← h]; simp
  have h4 : 3 ≤ s.size := by rw [hl]; unfold txtL; simp only [List.length_append, List.length_cons, List.length_nil]; omega
  have hk : ∃ j, min 5 (s.size + 1) - 1 = j + 3 := ⟨min 5 (s.size + 1) - 4, by omega⟩
  obtain ⟨j, hj⟩ := hk
  unfold pcs
  rw [Lib.splitB_data, h, hj]
  have e : txtL k ch ep nd = nmL k ++ 32 :: (Lib.decDigits ch ++ 32 :: (Lib.decDigits ep ++ 32 :: Lib.decDigits nd)) := by simp [txtL]
  have e32 : (⟨#[32]⟩ : ByteArray).data.toList = [32] := rfl
  rw [e, e32, splitK_hit _ _ _ (nm_no32 k), splitK_hit _ _ _ (dec_no32 ch), splitK_hit _ _ _ (dec_no32 ep), splitK_miss _ _ (dec_no32 nd)]
theorem pcs_zero (s : ByteArray) (h : s.data.toList = nmL 0) : (pcs s).map (·.data.toList) = [nmL 0] := by
  unfold pcs
  have e32 : (⟨#[32]⟩ : ByteArray).data.toList = [32] := rfl
  rw [Lib.splitB_data, h, e32, splitK_miss _ _ (nm_no32 0)]
theorem pc_of (s : ByteArray) (l : List (List UInt8)) (h : (pcs s).map (·.data.toList) = l) (i : Nat) (hi : i < l.length) : (pc s i).data.toList = l.getD i [] := by
  have hl : (pcs s).length = l.length := by rw [← h]; simp
  subst h
  unfold pc
  simp only [List.getD_eq_getElem?_getD, List.getElem?_map]
  have : i < (pcs s).length := by omega
  simp [List.getElem?_eq_getElem this]

/-! ### decimal digits and numbers -/
theorem valF_app (l m : List UInt8) (a : Nat) : valF a (l ++ m) = valF (valF a l) m := by simp [valF]
theorem val_dec (n : Nat) : valF 0 (Lib.decDigits n) = n := by
  induction n using Nat.strongRecOn with
  | _ n ih =>
    rw [Lib.decDigits]
    split
    · rename_i h
      have : (UInt8.ofNat (48 + n)).toNat = 48 + n := by simp; omega
      simp only [valF, List.foldl_cons, List.foldl_nil, this]
      omega
    · rw [valF_app, ih (n / 10) (by omega)]
      have : (UInt8.ofNat (48 + n % 10)).toNat = 48 + n % 10 := by simp; omega
      simp only [valF, List.foldl_cons, List.foldl_nil, this]
      omega
theorem dec_dig (n : Nat) : Dig (Lib.decDigits n) := by
  refine ⟨dec_dgs n, ?_⟩
  by_cases h0 : n = 0
  · subst h0
    exact .inl (by rw [Lib.decDigits]; rfl)
  · refine .inr ?_
    induction n using Nat.strongRecOn with
    | _ n ih =>
      rw [Lib.decDigits]
      split
      · refine ⟨_, [], rfl, fun h => ?_⟩
        have : (UInt8.ofNat (48 + n)).toNat = 48 := by rw [h]; rfl
        simp at this
        omega
      · obtain ⟨c, r, h, hc⟩ := ih (n / 10) (by omega) (by omega)
        exact ⟨c, r ++ [UInt8.ofNat (48 + n % 10)], by rw [h]; rfl, hc⟩
theorem num_dec (n most : Nat) (h1 : n ≤ MaxU) (h2 : n ≤ most) : NumIs (Lib.decDigits n) most n 0 := by
  have hM : MaxU = 18446744073709551615 := rfl
  exact .inr ⟨dec_dig n, dec_len n (by omega), .inl ⟨by rw [val_dec]; exact h1, by rw [val_dec]; exact h2, (val_dec n).symm, rfl⟩⟩

/-- The kind of a name. -/
def KindIs (s : ByteArray) (k : Nat) : Prop := k ≤ 5 ∧ (k < 5 → s.data.toList = nmL k) ∧ ∀ i, i < k → i < 5 → s.data.toList ≠ nmL i
theorem nm_inj {i j : Nat} (hi : i < 5) (hj : j < 5) (h : nmL i = nmL j) : i = j := by
  rcases (by omega : i = 0 ∨ i = 1 ∨ i = 2 ∨ i = 3 ∨ i = 4) with rfl | rfl | rfl | rfl | rfl <;> rcases (by omega : j = 0 ∨ j = 1 ∨ j = 2 ∨ j = 3 ∨ j = 4) with rfl | rfl | rfl | rfl | rfl <;> first | rfl | (revert h; decide)
theorem KindIs.of {s : ByteArray} {k i : Nat} (h : KindIs s k) (hi : i < 5) (he : s.data.toList = nmL i) : k = i := by
  obtain ⟨h1, h2, h3⟩ := h
  rcases Nat.lt_trichotomy k i with hlt | heq | hgt
  · exact nm_inj (by omega) hi ((h2 (by omega)).symm.trans he)
  · exact heq
  · exact absurd he (h3 i hgt hi)
theorem kindOf_any (s : ByteArray) (w : World) (hv : Vars w) : Calls Tryd.prog 55 #[.string s] w fun e w' => (∃ k : Nat, KindIs s k ∧ e = .returned (.int .i64 k)) ∧ w = w' := by
  have n0 := hv.names 0 (by omega)
  have n1 := hv.names 1 (by omega)
  have n2 := hv.names 2 (by omega)
  have n3 := hv.names 3 (by omega)
  have n4 := hv.names 4 (by omega)
  clear hv
  go_enter Tryd.func55, Tryd.ntmps55
  go_wp2
  clear n0 n1 n2 n3 n4
  obtain ⟨m0, e0⟩ : ∃ x, x = nmS 0 := ⟨_, rfl⟩
  obtain ⟨m1, e1⟩ : ∃ x, x = nmS 1 := ⟨_, rfl⟩
  obtain ⟨m2, e2⟩ : ∃ x, x = nmS 2 := ⟨_, rfl⟩
  obtain ⟨m3, e3⟩ : ∃ x, x = nmS 3 := ⟨_, rfl⟩
  obtain ⟨m4, e4⟩ : ∃ x, x = nmS 4 := ⟨_, rfl⟩
  rw [← e0, ← e1, ← e2, ← e3, ← e4]
  have hq0 : m0.toList = nmL 0 := by rw [e0, toL]; rfl
  have hq1 : m1.toList = nmL 1 := by rw [e1, toL]; rfl
  have hq2 : m2.toList = nmL 2 := by rw [e2, toL]; rfl
  have hq3 : m3.toList = nmL 3 := by rw [e3, toL]; rfl
  have hq4 : m4.toList = nmL 4 := by rw [e4, toL]; rfl
  have HQ0 := Lib.hid hq0
  have HQ1 := Lib.hid hq1
  have HQ2 := Lib.hid hq2
  have HQ3 := Lib.hid hq3
  have HQ4 := Lib.hid hq4
  clear e0 e1 e2 e3 e4 hq0 hq1 hq2 hq3 hq4
  have i0 : ∀ w, (Instr.index 65 (.agg #[.string m0, .string m1, .string m2, .string m3, .string m4]) (.int .i64 0)).run Tryd.prog w = .ok (.string m0) w := fun _ => by kernel_rfl
  have i1 : ∀ w, (Instr.index 65 (.agg #[.string m0, .string m1, .string m2, .string m3, .string m4]) (.int .i64 1)).run Tryd.prog w = .ok (.string m1) w := fun _ => by kernel_rfl
  have i2 : ∀ w, (Instr.index 65 (.agg #[.string m0, .string m1, .string m2, .string m3, .string m4]) (.int .i64 2)).run Tryd.prog w = .ok (.string m2) w := fun _ => by kernel_rfl
  have i3 : ∀ w, (Instr.index 65 (.agg #[.string m0, .string m1, .string m2, .string m3, .string m4]) (.int .i64 3)).run Tryd.prog w = .ok (.string m3) w := fun _ => by kernel_rfl
  have i4 : ∀ w, (Instr.index 65 (.agg #[.string m0, .string m1, .string m2, .string m3, .string m4]) (.int .i64 4)).run Tryd.prog w = .ok (.string m4) w := fun _ => by kernel_rfl
  go_loop [6] (fun i => ∃ j : Nat, j ≤ 5 ∧ i = .int .i64 j ∧ ∀ i, i < j → s.data.toList ≠ nmL i) (fun i => 5 - (RowKit.intOf i).toNat)
  case atStart => exact ⟨0, by omega, rfl, fun i hi => by omega⟩
  case round =>
    obtain ⟨j, hj, rfl, hno⟩ := hrel
    have HNO := Lib.hid hno
    clear hno
    by_cases hlt : j < 5
    · rcases (by omega : j = 0 ∨ j = 1 ∨ j = 2 ∨ j = 3 ∨ j = 4) with rfl | rfl | rfl | rfl | rfl
      · by_cases he : m0.toList = s.toList
        · have HK : Hid (KindIs s 0) := Lib.hid ⟨by omega, fun _ => by rw [← toL, ← he]; exact HQ0.out, fun i hi _ => HNO.out i hi⟩
          go_wp2
          go_ret
          exact ⟨⟨0, HK.out, rfl⟩, rfl⟩
        · have he' : (m0.toList == s.toList) = false := by simpa using he
          have HN2 : Hid (∀ i, i < 1 → s.data.toList ≠ nmL i) := Lib.hid (fun i hi => by
            rcases (by omega : i < 0 ∨ i = 0) with h | rfl
            · exact HNO.out i h
            · intro h; exact he (by rw [HQ0.out, toL, h]))
          go_wp2
          go_round
          case rel => exact ⟨1, by omega, by first | rfl | go_num, HN2.out⟩
          case measure => simp [RowKit.intOf]
      · by_cases he : m1.toList = s.toList
        · have HK : Hid (KindIs s 1) := Lib.hid ⟨by omega, fun _ => by rw [← toL, ← he]; exact HQ1.out, fun i hi _ => HNO.out i hi⟩
          go_wp2
          go_ret
          exact ⟨⟨1, HK.out, rfl⟩, rfl⟩
        · have he' : (m1.toList == s.toList) = false := by simpa using he
          have HN2 : Hid (∀ i, i < 2 → s.data.toList ≠ nmL i) := Lib.hid (fun i hi => by
            rcases (by omega : i < 1 ∨ i = 1) with h | rfl
            · exact HNO.out i h
            · intro h; exact he (by rw [HQ1.out, toL, h]))
          go_wp2
          go_round
          case rel => exact ⟨2, by omega, by first | rfl | go_num, HN2.out⟩
          case measure => simp [RowKit.intOf]
      · by_cases he : m2.toList = s.toList
        · have HK : Hid (KindIs s 2) := Lib.hid ⟨by omega, fun _ => by rw [← toL, ← he]; exact HQ2.out, fun i hi _ => HNO.out i hi⟩
          go_wp2
          go_ret
          exact ⟨⟨2, HK.out, rfl⟩, rfl⟩
        · have he' : (m2.toList == s.toList) = false := by simpa using he
          have HN2 : Hid (∀ i, i < 3 → s.data.toList ≠ nmL i) := Lib.hid (fun i hi => by
            rcases (by omega : i < 2 ∨ i = 2) with h | rfl
            · exact HNO.out i h
            · intro h; exact he (by rw [HQ2.out, toL, h]))
          go_wp2
          go_round
          case rel => exact ⟨3, by omega, by first | rfl | go_num, HN2.out⟩
          case measure => simp [RowKit.intOf]
      · by_cases he : m3.toList = s.toList
        · have HK : Hid (KindIs s 3) := Lib.hid ⟨by omega, fun _ => by rw [← toL, ← he]; exact HQ3.out, fun i hi _ => HNO.out i hi⟩
          go_wp2
          go_ret
          exact ⟨⟨3, HK.out, rfl⟩, rfl⟩
        · have he' : (m3.toList == s.toList) = false := by simpa using he
          have HN2 : Hid (∀ i, i < 4 → s.data.toList ≠ nmL i) := Lib.hid (fun i hi => by
            rcases (by omega : i < 3 ∨ i = 3) with h | rfl
            · exact HNO.out i h
            · intro h; exact he (by rw [HQ3.out, toL, h]))
          go_wp2
          go_round
          case rel => exact ⟨4, by omega, by first | rfl | go_num, HN2.out⟩
          case measure => simp [RowKit.intOf]
      · by_cases he : m4.toList = s.toList
        · have HK : Hid (KindIs s 4) := Lib.hid ⟨by omega, fun _ => by rw [← toL, ← he]; exact HQ4.out, fun i hi _ => HNO.out i hi⟩
          go_wp2
          go_ret
          exact ⟨⟨4, HK.out, rfl⟩, rfl⟩
        · have he' : (m4.toList == s.toList) = false := by simpa using he
          have HN2 : Hid (∀ i, i < 5 → s.data.toList ≠ nmL i) := Lib.hid (fun i hi => by
            rcases (by omega : i < 4 ∨ i = 4) with h | rfl
            · exact HNO.out i h
            · intro h; exact he (by rw [HQ4.out, toL, h]))
          go_wp2
          go_round
          case rel => exact ⟨5, by omega, by first | rfl | go_num, HN2.out⟩
          case measure => simp [RowKit.intOf]
    · obtain rfl : j = 5 := by omega
      go_wp2
      go_ret
      exact ⟨⟨5, ⟨by omega, fun h => by omega, fun i hi _ => HNO.out i hi⟩, rfl⟩, rfl⟩
end Go.Proofs.YtdohnobfaignpaaDoor
