/-
  slices.ContainsFunc over numbers and configurations; who is used.
-/
import Derived.Test.YtajneoaljpljpaaCnfI
import Derived.Test.YtajneoaljpljpaaCnfJ
namespace Go.Proofs.Ytajneoaljpljpaa
open Go.RowKit
set_option linter.unusedVariables false

/-- A function of the program that has a body. -/
def Enters (f : FuncId) : Prop := ∀ (args : Array Value) (w : World), Sem.run Try.prog (callFunc f args) w = .ok (.enter f args) w
/-- A function literal that tells p of a number, in any later world. -/
def TellsN (f : FuncId) (caps : Array Value) (l : List Int) (p : Int → Bool) (w : World) : Prop :=
  Enters f ∧ ∀ x w', x ∈ l → Kept NoB w w' → Calls Try.prog f (#[.int .i64 x] ++ caps) w' (BoolE (p x) w')
set_option maxRecDepth 100000 in
theorem IndexN_any (v : Value) (l : List Int) (f : FuncId) (caps : Array Value) (p : Int → Bool) (F : Nat → Prop) (w : World) (h : NSl w F v l) (hp : TellsN f caps l p w) :
    Calls Try.prog 36 #[v, .func (.func f) #[] caps] w fun e w' => (∃ r : Int, e = .returned (.int .i64 r) ∧ ((r = -1 ∧ l.any p = false) ∨ (0 ≤ r ∧ l.any p = true))) ∧ Kept NoB w w' := by
  obtain ⟨a, cap, rfl, _⟩ := id h
  have hl := len_le h
  have H := Lib.hid h
  have HP := Lib.hid hp.2
  have hent : ∀ (args : Array Value) (w : World), Sem.run Try.prog (callFunc f args) w = .ok (.enter f args) w := hp.1
  clear h hp
  go_enter Try.func36, Try.ntmps36
  go_wp2
  go_loopw [8] (fun i wr => ∃ k : Nat, i = .int .i64 k ∧ k ≤ l.length ∧ (l.take k).any p = false ∧ Kept NoB w wr) (fun i _ => l.length - (intOf i).toNat)
  case atStart => exact ⟨0, rfl, Nat.zero_le _, by simp, Kept.refl _ _⟩
  case round =>
    obtain ⟨k, rfl, hk, hno, hkk⟩ := hrel
    have HN := Lib.hid hno
    have HK := Lib.hid hkk
    clear hno hkk
    by_cases hlt : k < l.length
    · obtain ⟨b, o, rfl, _, _, hc⟩ := (H.out.kept HK.out (fun _ _ _ h => h)).at_ hlt
      have HT := Lib.hid (take_one hlt)
      have HA : Hid (l.getD k 0 ∈ l) := Lib.hid (by rw [getD_at hlt]; exact List.getElem_mem _)
      obtain ⟨y, hy⟩ : ∃ y, y = l.getD k 0 := ⟨_, rfl⟩
      rw [← hy] at hc HT HA
      have hk1 : (k : Int) < (l.length : Int) := by omega
      have HC := Lib.hid (HP.out y wr HA.out HK.out)
      clear hy
      cases hpy : p y with
      | true =>
        rw [hpy] at HC
        have HPY : Hid (l.any p = true) := Lib.hid (List.any_eq_true.2 ⟨y, HA.out, hpy⟩)
        clear hpy
        go_wp2_with fail
        refine HC.out.mono ?_
        rintro e w2 ⟨rfl, hk2⟩
        have HK2 := Lib.hid (HK.out.trans hk2 (fun _ _ h => h))
        clear hk2
        go_wp2
        go_ret
        exact ⟨⟨_, rfl, .inr ⟨by omega, HPY.out⟩⟩, HK2.out⟩
      | false =>
        rw [hpy] at HC
        have HPY : Hid ((l.take (k + 1)).any p = false) := Lib.hid (by rw [HT.out, List.any_append, HN.out]; simp [hpy])
        clear hpy
        go_wp2_with fail
        refine HC.out.mono ?_
        rintro e w2 ⟨rfl, hk2⟩
        have HK2 := Lib.hid (HK.out.trans hk2 (fun _ _ h => h))
        clear hk2
        go_wp2
        exact ⟨⟨k + 1, by go_num, by omega, HPY.out, HK2.out⟩, by simp [intOf]; omega⟩
    · obtain rfl : k = l.length := by omega
      go_wp2
      go_ret
      exact ⟨⟨_, rfl, .inl ⟨rfl, by have := HN.out; rwa [List.take_length] at this⟩⟩, HK.out⟩
theorem ContainsN_any (v : Value) (l : List Int) (f : FuncId) (caps : Array Value) (p : Int → Bool) (F : Nat → Prop) (w : World) (h : NSl w F v l) (hp : TellsN f caps l p w) :
    Calls Try.prog 27 #[v, .func (.func f) #[] caps] w (BoolE (l.any p) w) := by
  have HI := Lib.hid (IndexN_any v l f caps p F w h hp)
  obtain ⟨a, cap, rfl, _⟩ := id h
  clear h hp
  obtain ⟨d, hd⟩ : ∃ d, d = l.any p := ⟨_, rfl⟩
  rw [← hd] at HI ⊢
  clear hd
  go_enter Try.func27, Try.ntmps27
  go_wp2_with fail
  refine HI.out.mono ?_
  rintro e w1 ⟨⟨r, rfl, hr⟩, hk⟩
  have HK := Lib.hid hk
  clear hk
  rcases hr with ⟨rfl, rfl⟩ | ⟨hr, rfl⟩
  · go_wp2
    go_ret
    exact ⟨rfl, HK.out⟩
  · go_wp2
    go_ret
    exact ⟨rfl, HK.out⟩
/-- A function literal that tells p of a configuration, in any later world. -/
def TellsC (f : FuncId) (caps : Array Value) (l : List Cf) (p : Cf → Bool) (w : World) : Prop :=
  Enters f ∧ ∀ v c w' (F : Nat → Prop), c ∈ l → CfV w' F v c → Kept NoB w w' → Calls Try.prog f (#[v] ++ caps) w' (BoolE (p c) w')
end Go.Proofs.Ytajneoaljpljpaa
