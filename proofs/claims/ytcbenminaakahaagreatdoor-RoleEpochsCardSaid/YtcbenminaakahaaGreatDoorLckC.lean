/-
  Package letter: the other checks of parts: ballots, codes, commands, votes, data.
-/
import Derived.Test.YtcbenminaakahaaGreatDoorLckB
import Derived.Test.YtcbenminaakahaaGreatDoorBal1
import Derived.Test.YtcbenminaakahaaGreatDoorCmd1
import Derived.Test.YtcbenminaakahaaGreatDoorAcc1
namespace Go.Proofs.YtcbenminaakahaaGreatDoor
open Go.RowKit
set_option linter.unusedVariables false
set_option linter.unusedSimpArgs false

/-- Is a number a ballot? -/
def balB (b : Int) : Bool := decide (1 ≤ b / 8 ∧ b / 8 ≤ 1152921504606846975 ∧ 1 ≤ b % 8 ∧ b % 8 ≤ 5)
theorem balB_fine (b : Int) : balB b = true ↔ Fine (b / 8) (b % 8) := by unfold balB Fine; rw [lastR_eq]; simp
theorem isBallot_any (w : World) (b : Int) (h0 : 0 ≤ b) (hm : b ≤ 18446744073709551615) : Calls Tryz.prog 186 #[.int .u64 b] w (YesNo (balB b) w) := by
  cases h : balB b with
  | true => exact bIs_yes b w h0 hm ((balB_fine b).1 h)
  | false => exact bIs_no b w h0 hm (fun hf => by rw [(balB_fine b).2 hf] at h; cases h)
/-- May a command be? -/
def cmdB (k ch ep nd : Int) : Bool := decide ((k = 0 ∧ ch = 0 ∧ ep = 0 ∧ nd = 0) ∨ (1 ≤ k ∧ k ≤ 4 ∧ 0 ≤ ch ∧ ch ≤ 3 ∧ 1 ≤ ep ∧ 1 ≤ nd ∧ nd ≤ 24))
theorem cmdB_vld (k ch ep nd : Int) : cmdB k ch ep nd = true ↔ Vld k ch ep nd := by unfold cmdB Vld; simp
set_option maxRecDepth 100000 in
theorem isCommand_any (k ch ep nd : Int) (w : World) (he : 0 ≤ ep) : Calls Tryz.prog 206 #[.agg #[.int .i64 k, .int .i64 ch, .int .u64 ep, .int .i64 nd]] w (YesNoK (cmdB k ch ep nd) w) := by
  have HC := Lib.hid (fun w => Check_any k ch ep nd w he)
  obtain ⟨d, hd⟩ : ∃ d, d = cmdB k ch ep nd := ⟨_, rfl⟩
  have HD : Hid (∀ x, Chk k ch ep nd x → (x == 0) = d) := Lib.hid (fun x hx => by
    rw [hd]
    cases h : cmdB k ch ep nd with
    | true => have := (cmdB_vld k ch ep nd).1 h; unfold Chk Vld at hx; unfold Vld at this; simp; omega
    | false =>
      have : ¬ Vld k ch ep nd := fun hv => by rw [(cmdB_vld k ch ep nd).2 hv] at h; cases h
      rcases hx with ⟨_, rfl⟩ | ⟨_, _, ⟨hv, _⟩ | ⟨_, rfl⟩⟩
      · rfl
      · exact absurd hv this
      · rfl)
  rw [← hd]
  clear hd
  go_enter Tryz.func206, Tryz.ntmps206
  go_wp2_with fail
  refine (HC.out _).mono ?_
  rintro e w1 ⟨x, hx, rfl, hk⟩
  have HX := Lib.hid (HD.out x hx)
  have HK := Lib.hid (((Kept.refl NoB w).alloc (.cells #[.int .i64 k, .int .i64 ch, .int .u64 ep, .int .i64 nd] 26 (0, 0))).trans hk (fun _ _ h => h))
  clear hx hk
  go_wp2
  go_ret
  exact ⟨by show Ending.returned (Value.bool (x == 0)) = _; rw [HX.out], HK.out⟩
theorem ent_isBallot : Enters17 186 := fun args w => by kernel_rfl
theorem ent_isCommand : Enters17 206 := fun args w => by kernel_rfl
theorem ent_confRight : Enters17 115 := fun args w => by kernel_rfl
theorem ent_areVotes : Enters17 215 := fun args w => by kernel_rfl
theorem ent_any_u32 : Enters17 199 := fun args w => by kernel_rfl
theorem ent_upto_err : Enters17 259 := fun args w => by kernel_rfl
theorem ent_data_1 : Enters17 285 := fun args w => by kernel_rfl
set_option maxRecDepth 100000 in
theorem anyU32_any (w : World) (n : Int) : Calls Tryz.prog 199 #[.int .u32 n] w (YesNo true w) := by
  go_enter Tryz.func199, Tryz.ntmps199
  go_wp2
  go_ret
  exact ⟨rfl, rfl⟩
set_option maxRecDepth 100000 in
theorem uptoErr_any (w : World) (n m : Int) (b : Nat) (hc : w.cell? ⟨b, 0, none⟩ = some (.int .i64 m)) : Calls Tryz.prog 259 #[.int .i64 n, .pointer (some ⟨b, 0, none⟩)] w (YesNo (decide (0 ≤ n) && decide (n ≤ m)) w) := by
  obtain ⟨b1, h1⟩ : ∃ b1, b1 = decide (0 ≤ n) := ⟨_, rfl⟩
  obtain ⟨b2, h2⟩ : ∃ b2, b2 = decide (n ≤ m) := ⟨_, rfl⟩
  have g1 := h1.symm
  have g2 := h2.symm
  clear h1 h2
  rw [g1, g2]
  cases b1
  · go_enter Tryz.func259, Tryz.ntmps259
    go_wp2
    go_ret
    exact ⟨rfl, rfl⟩
  · go_enter Tryz.func259, Tryz.ntmps259
    go_wp2
    go_ret
    exact ⟨rfl, rfl⟩
set_option maxRecDepth 100000 in
theorem upTo_err (w : World) (m : Int) : Calls Tryz.prog 202 #[.int .i64 m] w fun e w' => e = .returned (.func (.func 259) #[] #[.pointer (some ⟨w.heap.size, 0, none⟩)]) ∧ w' = w.alloc (.cells #[.int .i64 m] 24) := by
  have hmf : ∀ (fn : Fn) (first cap : Array Value) (w : World), (Instr.makeFunc fn first cap).run Tryz.prog w = .ok (.func fn first cap) w := fun _ _ _ _ => rfl
  go_enter Tryz.func202, Tryz.ntmps202
  go_wp2
  go_ret
  exact ⟨rfl, rfl⟩
set_option maxRecDepth 100000 in
theorem data1_any (w : World) (v : Value) (l : List Int) (F : Nat → Prop) (m : Int) (b : Nat) (h : BSl w F v l) (hc : w.cell? ⟨b, 0, none⟩ = some (.int .i64 m)) : Calls Tryz.prog 285 #[v, .pointer (some ⟨b, 0, none⟩)] w (YesNo (decide ((l.length : Int) ≤ m)) w) := by
  obtain ⟨a, c, rfl, _⟩ := h
  go_enter Tryz.func285, Tryz.ntmps285
  go_wp2
  go_ret
  exact ⟨rfl, rfl⟩
/-- A vote's numbers are numbers. -/
def VtNm (v : Vt) : Prop := 0 ≤ v.b ∧ v.b ≤ 18446744073709551615 ∧ 0 ≤ v.ep
/-- Votes of a master, behind a slot. -/
def areVsF : Int → List Vt → Bool
  | _, [] => true
  | a, v :: r => !(decide (v.s ≤ a)) && (!(decide (512 ≤ v.s)) && (balB v.b && (cmdB v.k v.ch v.ep v.nd && areVsF v.s r)))
def areVs (l : List Vt) : Bool := areVsF (-1) l
theorem areVsF_at {l : List Vt} {k : Nat} (h : k < l.length) (a : Int) : areVsF a (l.drop k) = (!(decide (l[k].s ≤ a)) && (!(decide (512 ≤ l[k].s)) && (balB l[k].b && (cmdB l[k].k l[k].ch l[k].ep l[k].nd && areVsF l[k].s (l.drop (k + 1)))))) := by
  rw [List.drop_eq_getElem_cons h]; rfl
theorem cells6v {w : World} {b : Nat} {x0 x1 x2 x3 x4 x5 : Value} {t : TypeId} (h : w.heap[b]? = some (.cells #[x0, x1, x2, x3, x4, x5] t (0, 0))) :
    w.cell? ⟨b, 0, none⟩ = some x0 ∧ w.cell? ⟨b, 1, none⟩ = some x1 ∧ w.cell? ⟨b, 2, none⟩ = some x2 ∧ w.cell? ⟨b, 3, none⟩ = some x3 ∧ w.cell? ⟨b, 4, none⟩ = some x4 ∧ w.cell? ⟨b, 5, none⟩ = some x5 :=
  ⟨cell_of_row _ _ 0 _ _ _ h, cell_of_row _ _ 1 _ _ _ h, cell_of_row _ _ 2 _ _ _ h, cell_of_row _ _ 3 _ _ _ h, cell_of_row _ _ 4 _ _ _ h, cell_of_row _ _ 5 _ _ _ h⟩
theorem VRd.at10 {w : World} {F : Nat → Prop} {a : Option Addr} {n c : Nat} {l : List Vt} (h : VRd w F (.slice a n c) l) {j : Nat} (hj : j < l.length) : ∃ b o, a = some ⟨b, o, none⟩ ∧ F b ∧ b < w.heap.size ∧ VtAt w b (o + j * 6) l[j] := by
  obtain ⟨a', c', e, h2, h3, h4, h5⟩ := h
  injection e with e1 e2 e3
  subst e1 e3
  obtain ⟨b, o, e, hF, hb, hc⟩ := h5 (by omega)
  exact ⟨b, o, e, hF, hb, hc j hj⟩
set_option maxRecDepth 100000 in
set_option maxHeartbeats 2000000 in
theorem areVotes_any (w : World) (v : Value) (l : List Vt) (H : Nat → Prop) (h : VRd w H v l) (hv : ∀ x ∈ l, VtNm x) : Calls Tryz.prog 215 #[v] w (YesNoK (areVs l) w) := by
  obtain ⟨a, c, rfl⟩ := h.form
  have HH := Lib.hid h
  have HV := Lib.hid hv
  have hl : (l.length : Int) ≤ 9223372036854775807 := by have := h.len; omega
  clear h hv
  go_enter Tryz.func215, Tryz.ntmps215
  go_wp2
  go_loopw [3, 8] (fun av i wr => ∃ (k : Nat) (ah : Int), av = .int .i64 ah ∧ i = .int .i64 k ∧ k ≤ l.length ∧ areVsF ah (l.drop k) = areVs l ∧ Kept NoB w wr) (fun _ i _ => l.length - (RowKit.intOf i).toNat)
  case atStart => exact ⟨0, -1, rfl, rfl, Nat.zero_le _, rfl, Kept.refl _ _⟩
  case round =>
    obtain ⟨k, ah, rfl, rfl, hk, hA, hK⟩ := hrel
    have HA := Lib.hid hA
    have HK := Lib.hid hK
    have hk0 : (0 : Int) ≤ (k : Int) := by omega
    clear hA hK
    by_cases hlt : k < l.length
    · obtain ⟨b, o, rfl, _, _, e0, e1, e2, e3, e4, e5⟩ := (HH.out.no HK.out).at10 hlt
      have HF := HV.out l[k] (List.getElem_mem _)
      have hS := areVsF_at hlt ah
      rw [HA.out] at hS
      have hk1 : (k : Int) < (l.length : Int) := by omega
      obtain ⟨y, hy⟩ : ∃ y, y = l[k] := ⟨_, rfl⟩
      rw [← hy] at e0 e1 e2 e3 e4 e5 hS HF
      obtain ⟨y0, y1, y2, y3, y4, y5⟩ := y
      simp only at e0 e1 e2 e3 e4 e5 hS
      obtain ⟨f0, f1, f2⟩ := HF
      simp only at f0 f1 f2
      have HB := Lib.hid (fun w' => isBallot_any w' y1 f0 f1)
      have HC := Lib.hid (fun w' => isCommand_any y2 y3 y4 y5 w' f2)
      obtain ⟨W, hW⟩ : ∃ W, W = wr.alloc (.cells #[.int .i64 y0, .int .u64 y1, .int .i64 y2, .int .i64 y3, .int .u64 y4, .int .i64 y5] 113 (0, 0)) := ⟨_, rfl⟩
      have hg := heap_alloc_new wr (.cells #[.int .i64 y0, .int .u64 y1, .int .i64 y2, .int .i64 y3, .int .u64 y4, .int .i64 y5] 113 (0, 0))
      have hkW := HK.out.alloc (.cells #[.int .i64 y0, .int .u64 y1, .int .i64 y2, .int .i64 y3, .int .u64 y4, .int .i64 y5] 113 (0, 0))
      have HG := Lib.hid hg
      have HKW := Lib.hid hkW
      obtain ⟨c0, c1, c2, c3, c4, c5⟩ := cells6v hg
      obtain ⟨d1, h1⟩ : ∃ d1, d1 = decide (y0 ≤ ah) := ⟨_, rfl⟩
      obtain ⟨d2, h2⟩ : ∃ d2, d2 = decide (512 ≤ y0) := ⟨_, rfl⟩
      obtain ⟨d3, h3⟩ : ∃ d3, d3 = balB y1 := ⟨_, rfl⟩
      obtain ⟨d4, h4⟩ : ∃ d4, d4 = cmdB y2 y3 y4 y5 := ⟨_, rfl⟩
      rw [← h1, ← h2, ← h3, ← h4] at hS
      rw [← h3] at HB
      rw [← h4] at HC
      have g1 := h1.symm
      have g2 := h2.symm
      have HS := Lib.hid hS
      clear hy hW hg hkW h1 h2 h3 h4 hS f0 f1 f2
      cases d1 with
      | true =>
        go_wp2
        go_ret
        exact ⟨by rw [HS.out]; rfl, HKW.out⟩
      | false =>
        cases d2 with
        | true =>
          go_wp2
          go_ret
          exact ⟨by rw [HS.out]; rfl, HKW.out⟩
        | false =>
          cases d3 with
          | false =>
            go_wp2_with (go_at_call 186; refine (HB.out _).mono ?_; rintro e w1 ⟨rfl, rfl⟩)
            go_ret
            exact ⟨by rw [HS.out]; rfl, HKW.out⟩
          | true =>
            go_wp2_with fail
            refine (HB.out _).mono ?_
            rintro e w1 ⟨rfl, rfl⟩
            go_wp2_with fail
            refine (HC.out _).mono ?_
            rintro e w1 ⟨rfl, hk1⟩
            have HK1 := Lib.hid (HKW.out.trans hk1 (fun _ _ h => h))
            obtain ⟨c0, c1, c2, c3, c4, c5⟩ := cells6v (hk1.heap (fun h => h) HG.out)
            clear hk1
            cases d4 with
            | false =>
              go_wp2
              go_ret
              exact ⟨by rw [HS.out]; rfl, HK1.out⟩
            | true =>
              go_wp2
              exact ⟨⟨k + 1, y0, rfl, by go_num, by omega, HS.out.symm, HK1.out⟩, by simp [RowKit.intOf]; omega⟩
    · obtain rfl : k = l.length := by omega
      have HR : Hid (areVs l = true) := Lib.hid (by rw [← HA.out, List.drop_length]; rfl)
      go_wp2
      go_ret
      exact ⟨by rw [HR.out]; rfl, HK.out⟩
end Go.Proofs.YtcbenminaakahaaGreatDoor
