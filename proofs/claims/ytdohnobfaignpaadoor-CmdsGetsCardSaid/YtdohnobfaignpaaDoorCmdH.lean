/-
  The page's example of layer 8.
-/
import Derived.Test.YtdohnobfaignpaaDoorCmdG
namespace Go.Proofs.YtdohnobfaignpaaDoor
open Go.RowKit Go.Sort Go.Lib
set_option linter.unusedVariables false

theorem dec_inj {n m : Nat} (h : Lib.decDigits n = Lib.decDigits m) : n = m := by rw [← val_dec n, ← val_dec m, h]
/-- Two commands that may be and have one text are one. -/
theorem txt_inj {k ch ep nd k' ch' ep' nd' : Nat} (h : Cm k ch ep nd) (h' : Cm k' ch' ep' nd') (e : txtOf k ch ep nd = txtOf k' ch' ep' nd') : k = k' ∧ ch = ch' ∧ ep = ep' ∧ nd = nd' := by
  obtain ⟨h, _⟩ := h
  obtain ⟨h', _⟩ := h'
  unfold Vld at h h'
  have hs : ∀ l : List UInt8, (⟨l.toArray⟩ : ByteArray).data.toList = l := fun l => by simp
  unfold txtOf at e
  by_cases h0 : k = 0 <;> by_cases h0' : k' = 0
  · omega
  · rw [if_pos h0, if_neg h0'] at e
    have p := pcs_zero ⟨(nmL 0).toArray⟩ (hs _)
    have p' := pcs_txt ⟨(nmL 0).toArray⟩ k' ch' ep' nd' (by rw [hs]; exact e)
    rw [p] at p'
    exact absurd (congrArg List.length p') (by simp)
  · rw [if_neg h0, if_pos h0'] at e
    have p := pcs_zero ⟨(nmL 0).toArray⟩ (hs _)
    have p' := pcs_txt ⟨(nmL 0).toArray⟩ k ch ep nd (by rw [hs]; exact e.symm)
    rw [p] at p'
    exact absurd (congrArg List.length p') (by simp)
  · rw [if_neg h0, if_neg h0'] at e
    have p := pcs_txt ⟨(txtL k ch ep nd).toArray⟩ k ch ep nd (hs _)
    have p' := pcs_txt ⟨(txtL k ch ep nd).toArray⟩ k' ch' ep' nd' (by rw [hs]; exact e)
    rw [p] at p'
    injection p' with q0 p'
    injection p' with q1 p'
    injection p' with q2 p'
    injection p' with q3 p'
    exact ⟨nm_inj (by omega) (by omega) q0, dec_inj q1, dec_inj q2, dec_inj q3⟩
/-- Parse, of a command's text. -/
theorem Parse_yes (l : List UInt8) (k ch ep nd : Nat) (w : World) (hv : Vars w) (h : Cm k ch ep nd) (hl : l = txtOf k ch ep nd) :
    Calls Tryd.prog 15 #[.string ⟨l.toArray⟩] w fun e w' => e = .returned (.tuple #[.agg #[.int .i64 k, .int .i64 ch, .int .u64 ep, .int .i64 nd], .int .i64 0]) ∧ Kept NoB w w' := by
  have hs : (⟨l.toArray⟩ : ByteArray).data.toList = l := by simp
  have hz : (⟨l.toArray⟩ : ByteArray).size = l.length := by simp [ByteArray.size]
  have hle := txtOf_len h
  refine (Parse_any ⟨l.toArray⟩ w (by rw [hz, hl]; omega) hv).mono fun e w' ⟨hp, hk⟩ => ⟨?_, hk⟩
  rcases hp with ⟨k', ch', ep', nd', hc, ht, he⟩ | ⟨hno, _⟩
  · obtain ⟨rfl, rfl, rfl, rfl⟩ := txt_inj h hc (by rw [← ht, hs, hl])
    exact he
  · exact absurd (by rw [hs, hl]) (hno k ch ep nd h)
theorem ex_txt : txtOf 1 1 20 3 = [114, 101, 109, 111, 118, 101, 32, 49, 32, 50, 48, 32, 51] := by
  have d1 : Lib.decDigits 1 = [49] := by rw [Lib.decDigits]; rfl
  have d3 : Lib.decDigits 3 = [51] := by rw [Lib.decDigits]; rfl
  have d2 : Lib.decDigits 2 = [50] := by rw [Lib.decDigits]; rfl
  have d20 : Lib.decDigits 20 = [50, 48] := by rw [Lib.decDigits, dif_neg (by omega)]; show Lib.decDigits 2 ++ _ = _; rw [d2]; rfl
  unfold txtOf txtL
  rw [if_neg (by omega), d1, d3, d20]
  rfl
set_option maxRecDepth 100000 in
theorem awake8 (w : World) (hv : Vars w) : Calls Tryd.prog 13 #[] w (BoolEnd true w) := by
  have hC : Cm 1 1 20 3 := ⟨by unfold Vld; omega, by omega⟩
  have HT := Lib.hid (TextOf_any 1 1 20 3 w hv hC)
  rw [ex_txt] at HT
  have HP : Hid (∀ w, Vars w → Calls Tryd.prog 15 #[.string ⟨#[114, 101, 109, 111, 118, 101, 32, 49, 32, 50, 48, 32, 51]⟩] w fun e w' => e = .returned (.tuple #[.agg #[.int .i64 1, .int .i64 1, .int .u64 20, .int .i64 3], .int .i64 0]) ∧ Kept NoB w w') :=
    Lib.hid (fun w hv => Parse_yes [114, 101, 109, 111, 118, 101, 32, 49, 32, 50, 48, 32, 51] 1 1 20 3 w hv hC ex_txt.symm)
  have HV := Lib.hid hv
  clear hv hC
  go_enter Tryd.func13, Tryd.ntmps13
  go_wp2_with fail
  refine HT.out.mono ?_
  rintro e w1 ⟨rfl, hk⟩
  have HK := Lib.hid hk
  clear hk
  go_wp2_with fail
  refine (HP.out w1 (HV.out.kept HK.out)).mono ?_
  rintro e w2 ⟨rfl, hk⟩
  have HK2 := Lib.hid ((HK.out.trans hk (fun _ _ h => h)).alloc (.cells #[.int .i64 1, .int .i64 1, .int .u64 20, .int .i64 3] 24))
  clear hk
  go_wp2
  go_ret
  exact ⟨rfl, HK2.out⟩
end Go.Proofs.YtdohnobfaignpaaDoor
