/-
  Layer 29: the package's Split: CutPrefix, ContainsFunc over names, SplitN's pieces.
-/
import Derived.Test.YtokafgleejcbgaaGreatDoorDirC
namespace Go.Proofs.YtokafgleejcbgaaGreatDoor
open Go.RowKit
set_option linter.unusedVariables false

/-- What lies in the library's variable. -/
def Lng (w : World) : Prop := ∃ m, w.cell? ⟨0, 0, none⟩ = some (.int .i64 m)
theorem Lng.no {w w' : World} (h : Lng w) (hk : Kept NoB w w') : Lng w' := by obtain ⟨m, hm⟩ := h; exact ⟨m, hk.cell (p := ⟨_, 0, none⟩) (fun h => h) hm⟩
theorem HasPrefix29_any (s : ByteArray) (w : World) (hs : s.size ≤ 1000000) : Calls Tryz.prog 87 #[.string s, .string ⟨#[47]⟩] w fun e w' => e = .returned (.bool (decide (s.data.toList.head? = some 47))) ∧ Kept NoB w w' := by
  have hHL := len29 s
  have h47 : (⟨#[47]⟩ : ByteArray).size = 1 := rfl
  by_cases h0 : s.size = 0
  · have hl : s.data.toList = [] := List.eq_nil_of_length_eq_zero (by omega)
    have hd : decide (s.data.toList.head? = some 47) = false := by rw [hl]; rfl
    rw [hd]
    have g0 : (s.size : Int) < 1 := by omega
    have g1 : decide ((1 : Int) ≤ (s.size : Int)) = false := decide_eq_false (by omega)
    clear hd hl hHL
    go_enter Tryz.func87, Tryz.ntmps87
    go_wp2
    go_ret
    exact ⟨rfl, Kept.refl _ _⟩
  · have hp0 : 0 < s.size := by omega
    have g0 : (1 : Int) ≤ (s.size : Int) := by omega
    have hcons : s.data.toList = s[0]'hp0 :: s.data.toList.drop 1 := by
      have := List.drop_eq_getElem_cons (l := s.data.toList) (i := 0) (by omega)
      rw [List.drop_zero] at this
      exact this
    have hex := extract_one29 s 0 hp0
    rw [Nat.zero_add] at hex
    have hexl : (s.extract 0 1).toList = [s[0]'hp0] := by rw [hex]; simp
    obtain ⟨c, hc⟩ : ∃ c, c = s[0]'hp0 := ⟨_, rfl⟩
    rw [← hc] at hcons hexl
    have hd : decide (s.data.toList.head? = some 47) = ((s.extract 0 1).toList == [47]) := by rw [hcons, hexl]; by_cases h : c = 47 <;> simp [h]
    rw [hd]
    clear hd hcons hc hex hexl hHL
    go_enter Tryz.func87, Tryz.ntmps87
    go_wp2
    go_ret
    exact ⟨rfl, Kept.refl _ _⟩
theorem CutPrefixL29_any (s : ByteArray) (w : World) (hs : s.size ≤ 1000000) : Calls Tryz.prog 74 #[.string s, .string ⟨#[47]⟩] w fun e w' => e = .returned (.tuple #[.string (if s.data.toList.head? = some 47 then s.extract 1 s.size else s), .bool (decide (s.data.toList.head? = some 47))]) ∧ Kept NoB w w' := by
  have HP := Lib.hid (HasPrefix29_any s w hs)
  have h47 : (⟨#[47]⟩ : ByteArray).size = 1 := rfl
  have hHL := len29 s
  by_cases h : s.data.toList.head? = some 47
  · rw [if_pos h, decide_eq_true h]
    rw [decide_eq_true h] at HP
    have hp0 : 1 ≤ s.size := by
      rcases Nat.eq_zero_or_pos s.size with h0 | h0
      · rw [List.eq_nil_of_length_eq_zero (show s.data.toList.length = 0 by omega)] at h; cases h
      · exact h0
    have g0 : (1 : Int) ≤ (s.size : Int) := by omega
    clear h hHL
    go_enter Tryz.func74, Tryz.ntmps74
    go_wp2_with (go_at_call 87; refine HP.out.mono ?_; rintro e w2 ⟨rfl, hk2⟩; have HK := Lib.hid hk2; clear hk2)
    exact bodyPost_ret (v := .tuple #[.string (s.extract 1 s.size), .bool true]) (by simp [results, Tryz.results74, go_sem]) rfl ⟨rfl, HK.out⟩
  · rw [if_neg h, decide_eq_false h]
    rw [decide_eq_false h] at HP
    clear h hHL
    go_enter Tryz.func74, Tryz.ntmps74
    go_wp2_with (go_at_call 87; refine HP.out.mono ?_; rintro e w2 ⟨rfl, hk2⟩; have HK := Lib.hid hk2; clear hk2)
    exact bodyPost_ret (v := .tuple #[.string s, .bool false]) (by simp [results, Tryz.results74, go_sem]) rfl ⟨rfl, HK.out⟩
theorem CutPrefix29_any (s : ByteArray) (w : World) (hs : s.size ≤ 1000000) : Calls Tryz.prog 56 #[.string s, .string ⟨#[47]⟩] w fun e w' => e = .returned (.tuple #[.string (if s.data.toList.head? = some 47 then s.extract 1 s.size else s), .bool (decide (s.data.toList.head? = some 47))]) ∧ Kept NoB w w' := by
  have HP := Lib.hid (CutPrefixL29_any s w hs)
  obtain ⟨b, hb⟩ : ∃ b, b = decide (s.data.toList.head? = some 47) := ⟨_, rfl⟩
  obtain ⟨x, hx⟩ : ∃ x, x = (if s.data.toList.head? = some 47 then s.extract 1 s.size else s) := ⟨_, rfl⟩
  rw [← hb, ← hx] at HP ⊢
  clear hb hx
  go_enter Tryz.func56, Tryz.ntmps56
  go_wp2_with (go_at_call 74; refine HP.out.mono ?_; rintro e w2 ⟨rfl, hk2⟩; have HK := Lib.hid hk2; clear hk2)
  exact bodyPost_ret (v := .tuple #[.string x, .bool b]) (by simp [results, Tryz.results56, go_sem]) rfl ⟨rfl, HK.out⟩
/-- A function of the program that has a body. -/
def Enters29 (f : FuncId) : Prop := ∀ (args : Array Value) (w : World), Sem.run Tryz.prog (callFunc f args) w = .ok (.enter f args) w
/-- A function literal that tells p of a text, in any later world. -/
def TellsS (f : FuncId) (caps : Array Value) (l : List (List UInt8)) (p : List UInt8 → Bool) (w : World) : Prop :=
  Enters29 f ∧ ∀ x w', x ∈ l → Kept NoB w w' → Calls Tryz.prog f (#[.string ⟨x.toArray⟩] ++ caps) w' fun e w'' => e = .returned (.bool (p x)) ∧ Kept NoB w' w''
theorem take_one29 {l : List (List UInt8)} {k : Nat} (h : k < l.length) : l.take (k + 1) = l.take k ++ [l.getD k []] := by
  rw [List.take_succ_eq_append_getElem h, List.getD_eq_getElem?_getD, List.getElem?_eq_getElem h]; rfl
theorem getD_mem29 {l : List (List UInt8)} {k : Nat} (h : k < l.length) : l.getD k [] ∈ l := by
  rw [List.getD_eq_getElem?_getD, List.getElem?_eq_getElem h]; exact List.getElem_mem _
theorem tsl_len {w : World} {F : Nat → Prop} {v : Value} {l : List (List UInt8)} (h : TSl w F v l) : l.length ≤ maxLen := by obtain ⟨_, _, _, h1, h2, _⟩ := h; omega
set_option maxRecDepth 100000 in
theorem IndexS_any (v : Value) (l : List (List UInt8)) (f : FuncId) (caps : Array Value) (p : List UInt8 → Bool) (F : Nat → Prop) (w : World) (h : TSl w F v l) (hp : TellsS f caps l p w) :
    Calls Tryz.prog 77 #[v, .func (.func f) #[] caps] w fun e w' => (∃ r : Int, e = .returned (.int .i64 r) ∧ ((r = -1 ∧ l.any p = false) ∨ (0 ≤ r ∧ l.any p = true))) ∧ Kept NoB w w' := by
  have hl := tsl_len h
  unfold maxLen at hl
  obtain ⟨a, cap, rfl, _⟩ := id h
  have H := Lib.hid h
  have HP := Lib.hid hp.2
  have hent : ∀ (args : Array Value) (w : World), Sem.run Tryz.prog (callFunc f args) w = .ok (.enter f args) w := hp.1
  clear h hp
  go_enter Tryz.func77, Tryz.ntmps77
  go_wp2
  go_loopw [8] (fun i wr => ∃ k : Nat, i = .int .i64 k ∧ k ≤ l.length ∧ (l.take k).any p = false ∧ Kept NoB w wr) (fun i _ => l.length - (RowKit.intOf i).toNat)
  case atStart => exact ⟨0, rfl, Nat.zero_le _, by simp, Kept.refl _ _⟩
  case round =>
    obtain ⟨k, rfl, hk, hno, hkk⟩ := hrel
    have HN := Lib.hid hno
    have HK := Lib.hid hkk
    clear hno hkk
    by_cases hlt : k < l.length
    · obtain ⟨b, o, rfl, _, _, hc⟩ := (H.out.no HK.out).at_ hlt
      have HT := Lib.hid (take_one29 hlt)
      have HA : Hid (l.getD k [] ∈ l) := Lib.hid (getD_mem29 hlt)
      obtain ⟨y, hy⟩ : ∃ y, y = l.getD k [] := ⟨_, rfl⟩
      rw [← hy] at hc HT HA
      have hk1 : (k : Int) < (l.length : Int) := by omega
      have HC := Lib.hid (HP.out y wr HA.out HK.out)
      clear hy
      cases hpy : p y with
      | true =>
        rw [hpy] at HC
        have HPY : Hid (l.any p = true) := Lib.hid (List.any_eq_true.2 ⟨y, HA.out, hpy⟩)
        clear hpy
        go_wp2_with fail
        refine HC.out.mono ?_
        rintro e w2 ⟨rfl, hk2⟩
        have HK2 := Lib.hid (HK.out.trans hk2 (fun _ _ h => h))
        clear hk2
        go_wp2
        go_ret
        exact ⟨⟨_, rfl, .inr ⟨by omega, HPY.out⟩⟩, HK2.out⟩
      | false =>
        rw [hpy] at HC
        have HPY : Hid ((l.take (k + 1)).any p = false) := Lib.hid (by rw [HT.out, List.any_append, HN.out]; simp [hpy])
        clear hpy
        go_wp2_with fail
        refine HC.out.mono ?_
        rintro e w2 ⟨rfl, hk2⟩
        have HK2 := Lib.hid (HK.out.trans hk2 (fun _ _ h => h))
        clear hk2
        go_wp2
        exact ⟨⟨k + 1, by go_num, by omega, HPY.out, HK2.out⟩, by simp [RowKit.intOf]; omega⟩
    · obtain rfl : k = l.length := by omega
      go_wp2
      go_ret
      exact ⟨⟨_, rfl, .inl ⟨rfl, by have := HN.out; rwa [List.take_length] at this⟩⟩, HK.out⟩
theorem ContainsS_any (v : Value) (l : List (List UInt8)) (f : FuncId) (caps : Array Value) (p : List UInt8 → Bool) (F : Nat → Prop) (w : World) (h : TSl w F v l) (hp : TellsS f caps l p w) :
    Calls Tryz.prog 60 #[v, .func (.func f) #[] caps] w fun e w' => e = .returned (.bool (l.any p)) ∧ Kept NoB w w' := by
  have HI := Lib.hid (IndexS_any v l f caps p F w h hp)
  obtain ⟨a, cap, rfl, _⟩ := id h
  clear h hp
  obtain ⟨d, hd⟩ : ∃ d, d = l.any p := ⟨_, rfl⟩
  rw [← hd] at HI ⊢
  clear hd
  go_enter Tryz.func60, Tryz.ntmps60
  go_wp2_with fail
  refine HI.out.mono ?_
  rintro e w2 ⟨⟨r, rfl, hr⟩, hk2⟩
  rcases hr with ⟨rfl, rfl⟩ | ⟨hr, rfl⟩
  · go_wp2
    go_ret
    exact ⟨rfl, hk2⟩
  · go_wp2
    go_ret
    exact ⟨rfl, hk2⟩
theorem ent_split : Enters29 58 := fun args w => by kernel_rfl
theorem SplitF_any (x : List UInt8) (w : World) (hx : x.length ≤ 1000000) : Calls Tryz.prog 58 #[.string ⟨x.toArray⟩] w fun e w' => e = .returned (.bool (!decide (nmOk x))) ∧ Kept NoB w w' := by
  have HN := Lib.hid (vName_any ⟨x.toArray⟩ w (by show x.toArray.size ≤ 1000000; simpa using hx))
  rw [show (⟨x.toArray⟩ : ByteArray).data.toList = x from by simp] at HN
  obtain ⟨b, hb⟩ : ∃ b, b = decide (nmOk x) := ⟨_, rfl⟩
  rw [← hb] at HN ⊢
  clear hb
  go_enter Tryz.func58, Tryz.ntmps58
  go_wp2_with (go_at_call 59; refine HN.out.mono ?_; rintro e w2 ⟨rfl, hk2⟩; have HK := Lib.hid hk2; clear hk2)
  go_ret
  exact ⟨rfl, HK.out⟩
/-! ### the pieces of a text -/
theorem index_hit29 (a r : List UInt8) (h : (47 : UInt8) ∉ a) : Lib.index (a ++ 47 :: r) [47] = a.length := by
  induction a with
  | nil => simp [Lib.index]
  | cons c a ih =>
    have hc : ¬ (47 : UInt8) = c := fun e => h (by simp [e])
    have ih' := ih (fun hm => h (by simp [hm]))
    have hp : ([47] : List UInt8).isPrefixOf (c :: (a ++ 47 :: r)) = false := by simp [List.isPrefixOf, hc]
    rw [List.cons_append, Lib.index, hp, ih']
    have : ¬ ((a.length : Int) == -1) = true := by simp
    simp [this]
theorem index_miss29 (a : List UInt8) (h : (47 : UInt8) ∉ a) : Lib.index a [47] = -1 := by
  induction a with
  | nil => simp [Lib.index]
  | cons c a ih =>
    have hc : ¬ (47 : UInt8) = c := fun e => h (by simp [e])
    have ih' := ih (fun hm => h (by simp [hm]))
    have hp : ([47] : List UInt8).isPrefixOf (c :: a) = false := by simp [List.isPrefixOf, hc]
    rw [Lib.index, hp, ih']
    simp
theorem splitK_hit29 (k : Nat) (a r : List UInt8) (h : (47 : UInt8) ∉ a) : Lib.splitK [47] 0 (k + 1) (a ++ 47 :: r) = a :: Lib.splitK [47] 0 k r := by
  rw [Lib.splitK, index_hit29 a r h]
  have hm : ¬ ((a.length : Int) == -1) = true := by simp
  rw [if_neg hm]
  simp
theorem splitK_miss29 (k : Nat) (a : List UInt8) (h : (47 : UInt8) ∉ a) : Lib.splitK [47] 0 k a = [a] := by
  cases k with
  | zero => rfl
  | succ k => rw [Lib.splitK, index_miss29 a h]; simp
theorem cut_at47 (l : List UInt8) : (47 : UInt8) ∉ l ∨ ∃ a r, (47 : UInt8) ∉ a ∧ l = a ++ 47 :: r := by
  induction l with
  | nil => exact .inl (by simp)
  | cons c l ih =>
    by_cases hc : c = 47
    · exact .inr ⟨[], l, by simp, by rw [hc]; rfl⟩
    · have hc2 : ¬ (47 : UInt8) = c := fun e => hc e.symm
      rcases ih with h | ⟨a, r, h, rfl⟩
      · exact .inl (by simp [h, hc2])
      · exact .inr ⟨c :: a, r, by simp [h, hc2], rfl⟩
/-- At most so many pieces: all of them where there are no more. -/
theorem splitK_wgs (k : Nat) (l : List UInt8) : (Lib.splitK [47] 0 k l).length = min (k + 1) (wgs [] l).length ∧ ((wgs [] l).length ≤ k + 1 → Lib.splitK [47] 0 k l = wgs [] l) := by
  induction k generalizing l with
  | zero =>
    have h1 := wgs_pos l []
    refine ⟨by show 1 = _; omega, fun h => ?_⟩
    rcases cut_at47 l with hm | ⟨a, r, hm, rfl⟩
    · rw [splitK_miss29 _ _ hm, wgs_last _ hm]; rfl
    · rw [wgs_pre _ hm] at h
      have := wgs_pos r []
      rw [List.length_cons] at h; omega
  | succ k ih =>
    rcases cut_at47 l with hm | ⟨a, r, hm, rfl⟩
    · rw [splitK_miss29 _ _ hm, wgs_last _ hm]
      exact ⟨by simp, fun _ => rfl⟩
    · rw [splitK_hit29 _ _ _ hm, wgs_pre _ hm]
      obtain ⟨i1, i2⟩ := ih r
      refine ⟨by rw [List.length_cons, List.length_cons, i1]; omega, fun h => ?_⟩
      rw [i2 (by rw [List.length_cons] at h; omega)]; rfl
/-- The pieces, nine at most. -/
def pcs29 (s : ByteArray) : List (List UInt8) := (Lib.splitB ⟨#[47]⟩ 0 (min 9 (s.size + 1) - 1) s).map (·.data.toList)
theorem pcs29_is (s : ByteArray) : (pcs29 s).length = min (min 9 (s.size + 1)) (wgs [] s.data.toList).length ∧ ((wgs [] s.data.toList).length ≤ 9 → pcs29 s = wgs [] s.data.toList) := by
  have e : (⟨#[47]⟩ : ByteArray).data.toList = [47] := rfl
  have hl := wgs_len s.data.toList []
  rw [len29] at hl
  unfold pcs29
  rw [Lib.splitB_data, e]
  obtain ⟨h1, h2⟩ := splitK_wgs (min 9 (s.size + 1) - 1) s.data.toList
  exact ⟨by rw [h1]; omega, fun h => h2 (by omega)⟩
end Go.Proofs.YtokafgleejcbgaaGreatDoor
