/-
  Package letter: areUpdates, areRequest; where a letter's fields lie; the checks of numbers.
-/
import Derived.Test.YtabmipjpgofgpaaGreatDoorLtrA
namespace Go.Proofs.YtabmipjpgofgpaaGreatDoor
open Go.RowKit
set_option linter.unusedVariables false
set_option linter.unusedSimpArgs false

/-- A function literal that tells p of an update, in any later world. -/
def TellsU (f : FuncId) (caps : Array Value) (l : List Up) (p : Up → Bool) (F : Nat → Prop) (w : World) : Prop :=
  Enters17 f ∧ ∀ x v w', x ∈ l → UpV w' F v x → Kept NoB w w' → Calls Tryz.prog f (#[v] ++ caps) w' (YesNoK (p x) w')
set_option maxRecDepth 100000 in
set_option maxHeartbeats 1000000 in
theorem IndexU_any (v : Value) (l : List Up) (f : FuncId) (caps : Array Value) (p : Up → Bool) (F : Nat → Prop) (w : World) (h : UsAt w F v l) (hp : TellsU f caps l p F w) :
    Calls Tryz.prog 361 #[v, .func (.func f) #[] caps] w fun e w' => (∃ r : Int, e = .returned (.int .i64 r) ∧ ((r = -1 ∧ l.any p = false) ∨ (0 ≤ r ∧ l.any p = true))) ∧ Kept NoB w w' := by
  obtain ⟨a, cap, rfl⟩ := h.form
  have hl : (l.length : Int) ≤ 9223372036854775807 := by have := h.len; unfold maxLen at this; omega
  have H := Lib.hid h
  have HP := Lib.hid hp.2
  have hent : ∀ (args : Array Value) (w : World), Sem.run Tryz.prog (callFunc f args) w = .ok (.enter f args) w := hp.1
  clear h hp
  go_enter Tryz.func361, Tryz.ntmps361
  go_wp2
  go_loopw [8] (fun i wr => ∃ k : Nat, i = .int .i64 k ∧ k ≤ l.length ∧ (l.take k).any p = false ∧ Kept NoB w wr) (fun i _ => l.length - (RowKit.intOf i).toNat)
  case atStart => exact ⟨0, rfl, Nat.zero_le _, by simp, Kept.refl _ _⟩
  case round =>
    obtain ⟨k, rfl, hk, hno, hkk⟩ := hrel
    have HN := Lib.hid hno
    have HK := Lib.hid hkk
    have hk0 : (0 : Int) ≤ (k : Int) := by omega
    clear hno hkk
    by_cases hlt : k < l.length
    · obtain ⟨b, o, rfl, hFb, hb, u, e0, e1, e2, e3, e4, e5, e6, hdd⟩ := (H.out.no HK.out).at_ hlt
      have HSS := Lib.hid (takeU hlt)
      have HA : Hid (nthU l k ∈ l) := Lib.hid (by rw [nthU_at hlt]; exact List.getElem_mem _)
      obtain ⟨y, hy⟩ : ∃ y, y = nthU l k := ⟨_, rfl⟩
      rw [← hy] at e0 e1 e2 e3 e4 e5 hdd HSS HA
      have hk1 : (k : Int) < (l.length : Int) := by omega
      have HC := Lib.hid (HP.out y _ wr HA.out ⟨u, rfl, hdd⟩ HK.out)
      clear hy hdd hFb hb
      cases hpy : p y with
      | true =>
        rw [hpy] at HC
        have HPY : Hid (l.any p = true) := Lib.hid (List.any_eq_true.2 ⟨y, HA.out, hpy⟩)
        clear hpy
        go_wp2_with fail
        refine HC.out.mono ?_
        rintro e w2 ⟨rfl, hk2⟩
        have HK2 := Lib.hid (HK.out.trans hk2 (fun _ _ h => h))
        clear hk2
        go_wp2
        go_ret
        exact ⟨⟨_, rfl, .inr ⟨by omega, HPY.out⟩⟩, HK2.out⟩
      | false =>
        rw [hpy] at HC
        have HPY : Hid ((l.take (k + 1)).any p = false) := Lib.hid (by rw [HSS.out, List.any_append, HN.out]; simp [hpy])
        clear hpy
        go_wp2_with fail
        refine HC.out.mono ?_
        rintro e w2 ⟨rfl, hk2⟩
        have HK2 := Lib.hid (HK.out.trans hk2 (fun _ _ h => h))
        clear hk2
        go_wp2
        exact ⟨⟨k + 1, by go_num, by omega, HPY.out, HK2.out⟩, by simp [RowKit.intOf]; omega⟩
    · obtain rfl : k = l.length := by omega
      go_wp2
      go_ret
      exact ⟨⟨_, rfl, .inl ⟨rfl, by have := HN.out; rwa [List.take_length] at this⟩⟩, HK.out⟩
set_option maxRecDepth 100000 in
theorem ContainsU_any (v : Value) (l : List Up) (f : FuncId) (caps : Array Value) (p : Up → Bool) (F : Nat → Prop) (w : World) (h : UsAt w F v l) (hp : TellsU f caps l p F w) :
    Calls Tryz.prog 324 #[v, .func (.func f) #[] caps] w (YesNoK (l.any p) w) := by
  have HI := Lib.hid (IndexU_any v l f caps p F w h hp)
  obtain ⟨a, cap, rfl⟩ := h.form
  clear h hp
  obtain ⟨d, hd⟩ : ∃ d, d = l.any p := ⟨_, rfl⟩
  rw [← hd] at HI ⊢
  clear hd
  go_enter Tryz.func324, Tryz.ntmps324
  go_wp2_with fail
  refine HI.out.mono ?_
  rintro e w1 ⟨⟨r, rfl, hr⟩, hk⟩
  have HK := Lib.hid hk
  clear hk
  rcases hr with ⟨rfl, rfl⟩ | ⟨hr, rfl⟩
  · go_wp2
    go_ret
    exact ⟨rfl, HK.out⟩
  · go_wp2
    go_ret
    exact ⟨rfl, HK.out⟩
theorem ent_wrong : Enters17 322 := fun args w => by kernel_rfl
/-- Updates of a chain. -/
def areUs (l : List Up) : Bool := decide (l.length ≤ 4) && !(l.any (fun x => decide (x.q < 1) || !isUp x))
set_option maxRecDepth 100000 in
theorem areUpdates_any (w : World) (v : Value) (l : List Up) (F : Nat → Prop) (h : UsAt w F v l) : Calls Tryz.prog 258 #[v] w (YesNoK (areUs l) w) := by
  have HC := Lib.hid (ContainsU_any v l 322 #[] (fun x => decide (x.q < 1) || !isUp x) F w h ⟨ent_wrong, fun x v w' _ hv _ => wrong1_any w' v x F hv⟩)
  obtain ⟨a, cap, rfl⟩ := h.form
  obtain ⟨d, hd⟩ : ∃ d, d = l.any (fun x => decide (x.q < 1) || !isUp x) := ⟨_, rfl⟩
  have HR : Hid (areUs l = (decide (l.length ≤ 4) && !d)) := Lib.hid (by unfold areUs; rw [hd])
  rw [← hd] at HC
  clear h hd
  by_cases hl : l.length ≤ 4
  · have g1 : decide ((l.length : Int) ≤ 4) = true := decide_eq_true (by omega)
    have HR2 : Hid (areUs l = !d) := Lib.hid (by rw [HR.out, decide_eq_true hl]; rfl)
    clear hl HR
    go_enter Tryz.func258, Tryz.ntmps258
    go_wp2_with fail
    refine HC.out.mono ?_
    rintro e w1 ⟨rfl, hk⟩
    have HK := Lib.hid hk
    clear hk
    cases d
    all_goals
      go_wp2
      go_ret
      exact ⟨by rw [HR2.out]; rfl, HK.out⟩
  · have g1 : decide ((l.length : Int) ≤ 4) = false := decide_eq_false (by omega)
    have HR2 : Hid (areUs l = false) := Lib.hid (by rw [HR.out, decide_eq_false hl]; rfl)
    clear hl HR HC
    go_enter Tryz.func258, Tryz.ntmps258
    go_wp2
    go_ret
    exact ⟨by rw [HR2.out]; rfl, Kept.refl _ _⟩
/-- What a client asks for: one update that has no Seq. -/
def areReq (l : List Up) : Bool := decide (l.length = 1) && (decide ((nthU l 0).q = 0) && isUp (nthU l 0))
set_option maxRecDepth 100000 in
set_option maxHeartbeats 1000000 in
theorem areRequest_any (w : World) (v : Value) (l : List Up) (F : Nat → Prop) (h : UsAt w F v l) : Calls Tryz.prog 262 #[v] w (YesNoK (areReq l) w) := by
  by_cases hl : l.length = 1
  · obtain ⟨a, cap, rfl⟩ := h.form
    obtain ⟨b, o, rfl, hFb, hb, u, e0, e1, e2, e3, e4, e5, e6, hdd⟩ := h.at_ (j := 0) (by omega)
    obtain ⟨y, hy⟩ : ∃ y, y = nthU l 0 := ⟨_, rfl⟩
    have HR : Hid (areReq l = (decide (y.q = 0) && isUp y)) := Lib.hid (by unfold areReq; rw [decide_eq_true hl, hy]; rfl)
    rw [← hy] at e0 e1 e2 e3 e4 e5 hdd
    simp only [Nat.zero_mul, Nat.add_zero] at e0 e1 e2 e3 e4 e5 e6
    have HU := Lib.hid (isUpdate_any w _ y F ⟨u, rfl, hdd⟩)
    obtain ⟨n, hn⟩ : ∃ n, n = l.length := ⟨_, rfl⟩
    rw [← hn] at hl ⊢
    clear h hy hdd hFb hb hn
    subst hl
    obtain ⟨y0, y1, y2, y3, y4, y5, y6⟩ := y
    simp only at e0 e1 e2 e3 e4 e5 HR HU
    obtain ⟨d, hd⟩ : ∃ d, d = isUp ⟨y0, y1, y2, y3, y4, y5, y6⟩ := ⟨_, rfl⟩
    rw [← hd] at HU HR
    clear hd
    by_cases hq : y0 = 0
    · have g1 : (y0 == 0) = true := by simpa using hq
      have HR2 : Hid (areReq l = d) := Lib.hid (by rw [HR.out, decide_eq_true hq]; rfl)
      clear hq HR
      go_enter Tryz.func262, Tryz.ntmps262
      go_wp2_with fail
      refine HU.out.mono ?_
      rintro e w1 ⟨rfl, hk⟩
      have HK := Lib.hid hk
      clear hk
      go_wp2
      go_ret
      exact ⟨by rw [HR2.out]; rfl, HK.out⟩
    · have g1 : (y0 == 0) = false := by simpa using hq
      have HR2 : Hid (areReq l = false) := Lib.hid (by rw [HR.out, decide_eq_false hq]; rfl)
      clear hq HR HU
      go_enter Tryz.func262, Tryz.ntmps262
      go_wp2
      go_ret
      exact ⟨by rw [HR2.out]; rfl, Kept.refl _ _⟩
  · obtain ⟨a, cap, rfl⟩ := h.form
    have g1 : ((l.length : Int) == 1) = false := by simp; omega
    have HR2 : Hid (areReq l = false) := Lib.hid (by unfold areReq; rw [decide_eq_false hl]; rfl)
    clear h hl
    go_enter Tryz.func262, Tryz.ntmps262
    go_wp2
    go_ret
    exact ⟨by rw [HR2.out]; rfl, Kept.refl _ _⟩
/-- A function that leads to a field of a letter. -/
def LeadsTo (f : FuncId) (o : Nat) : Prop := ∀ (w : World) (g : Nat), Calls Tryz.prog f #[.pointer (some ⟨g, 0, none⟩)] w fun e w' => e = .returned (.pointer (some ⟨g, o, none⟩)) ∧ w = w'
set_option maxRecDepth 100000 in
theorem to_partAt_1 : LeadsTo 225 5 := by
  intro w g
  go_enter Tryz.func225, Tryz.ntmps225
  go_wp2
  go_ret
  exact ⟨rfl, rfl⟩
theorem ent_partAt_1 : Enters17 225 := fun args w => by kernel_rfl
set_option maxRecDepth 100000 in
theorem to_partAt_2 : LeadsTo 228 3 := by
  intro w g
  go_enter Tryz.func228, Tryz.ntmps228
  go_wp2
  go_ret
  exact ⟨rfl, rfl⟩
theorem ent_partAt_2 : Enters17 228 := fun args w => by kernel_rfl
set_option maxRecDepth 100000 in
theorem to_partAt_3 : LeadsTo 230 4 := by
  intro w g
  go_enter Tryz.func230, Tryz.ntmps230
  go_wp2
  go_ret
  exact ⟨rfl, rfl⟩
theorem ent_partAt_3 : Enters17 230 := fun args w => by kernel_rfl
set_option maxRecDepth 100000 in
theorem to_partAt_4 : LeadsTo 232 7 := by
  intro w g
  go_enter Tryz.func232, Tryz.ntmps232
  go_wp2
  go_ret
  exact ⟨rfl, rfl⟩
theorem ent_partAt_4 : Enters17 232 := fun args w => by kernel_rfl
set_option maxRecDepth 100000 in
theorem to_partAt_5 : LeadsTo 233 8 := by
  intro w g
  go_enter Tryz.func233, Tryz.ntmps233
  go_wp2
  go_ret
  exact ⟨rfl, rfl⟩
theorem ent_partAt_5 : Enters17 233 := fun args w => by kernel_rfl
set_option maxRecDepth 100000 in
theorem to_partAt_6 : LeadsTo 234 10 := by
  intro w g
  go_enter Tryz.func234, Tryz.ntmps234
  go_wp2
  go_ret
  exact ⟨rfl, rfl⟩
theorem ent_partAt_6 : Enters17 234 := fun args w => by kernel_rfl
set_option maxRecDepth 100000 in
theorem to_partAt_7 : LeadsTo 235 6 := by
  intro w g
  go_enter Tryz.func235, Tryz.ntmps235
  go_wp2
  go_ret
  exact ⟨rfl, rfl⟩
theorem ent_partAt_7 : Enters17 235 := fun args w => by kernel_rfl
set_option maxRecDepth 100000 in
theorem to_partAt_8 : LeadsTo 238 11 := by
  intro w g
  go_enter Tryz.func238, Tryz.ntmps238
  go_wp2
  go_ret
  exact ⟨rfl, rfl⟩
theorem ent_partAt_8 : Enters17 238 := fun args w => by kernel_rfl
set_option maxRecDepth 100000 in
theorem to_partAt_9 : LeadsTo 241 12 := by
  intro w g
  go_enter Tryz.func241, Tryz.ntmps241
  go_wp2
  go_ret
  exact ⟨rfl, rfl⟩
theorem ent_partAt_9 : Enters17 241 := fun args w => by kernel_rfl
set_option maxRecDepth 100000 in
theorem to_partAt_10 : LeadsTo 242 9 := by
  intro w g
  go_enter Tryz.func242, Tryz.ntmps242
  go_wp2
  go_ret
  exact ⟨rfl, rfl⟩
theorem ent_partAt_10 : Enters17 242 := fun args w => by kernel_rfl
set_option maxRecDepth 100000 in
theorem to_partAt_11 : LeadsTo 247 13 := by
  intro w g
  go_enter Tryz.func247, Tryz.ntmps247
  go_wp2
  go_ret
  exact ⟨rfl, rfl⟩
theorem ent_partAt_11 : Enters17 247 := fun args w => by kernel_rfl
set_option maxRecDepth 100000 in
theorem to_partAt_12 : LeadsTo 251 17 := by
  intro w g
  go_enter Tryz.func251, Tryz.ntmps251
  go_wp2
  go_ret
  exact ⟨rfl, rfl⟩
theorem ent_partAt_12 : Enters17 251 := fun args w => by kernel_rfl
set_option maxRecDepth 100000 in
theorem to_partAt_13 : LeadsTo 256 22 := by
  intro w g
  go_enter Tryz.func256, Tryz.ntmps256
  go_wp2
  go_ret
  exact ⟨rfl, rfl⟩
theorem ent_partAt_13 : Enters17 256 := fun args w => by kernel_rfl
set_option maxRecDepth 100000 in
theorem to_partAt_14 : LeadsTo 261 23 := by
  intro w g
  go_enter Tryz.func261, Tryz.ntmps261
  go_wp2
  go_ret
  exact ⟨rfl, rfl⟩
theorem ent_partAt_14 : Enters17 261 := fun args w => by kernel_rfl
set_option maxRecDepth 100000 in
theorem to_partAt_15 : LeadsTo 263 23 := by
  intro w g
  go_enter Tryz.func263, Tryz.ntmps263
  go_wp2
  go_ret
  exact ⟨rfl, rfl⟩
theorem ent_partAt_15 : Enters17 263 := fun args w => by kernel_rfl
set_option maxRecDepth 100000 in
theorem to_data_3 : LeadsTo 331 24 := by
  intro w g
  go_enter Tryz.func331, Tryz.ntmps331
  go_wp2
  go_ret
  exact ⟨rfl, rfl⟩
theorem ent_data_3 : Enters17 331 := fun args w => by kernel_rfl
theorem ent_isPositive : Enters17 229 := fun args w => by kernel_rfl
theorem ent_any_u64 : Enters17 231 := fun args w => by kernel_rfl
theorem ent_areUpdates : Enters17 258 := fun args w => by kernel_rfl
theorem ent_areRequest : Enters17 262 := fun args w => by kernel_rfl
theorem ent_upto_int : Enters17 293 := fun args w => by kernel_rfl
set_option maxRecDepth 100000 in
theorem isPositive_any (w : World) (n : Int) : Calls Tryz.prog 229 #[.int .u64 n] w (YesNo (decide (1 ≤ n)) w) := by
  go_enter Tryz.func229, Tryz.ntmps229
  go_wp2
  go_ret
  exact ⟨rfl, rfl⟩
set_option maxRecDepth 100000 in
theorem anyU64_any (w : World) (n : Int) : Calls Tryz.prog 231 #[.int .u64 n] w (YesNo true w) := by
  go_enter Tryz.func231, Tryz.ntmps231
  go_wp2
  go_ret
  exact ⟨rfl, rfl⟩
set_option maxRecDepth 100000 in
theorem uptoInt_any (w : World) (n m : Int) (b : Nat) (hc : w.cell? ⟨b, 0, none⟩ = some (.int .i64 m)) : Calls Tryz.prog 293 #[.int .i64 n, .pointer (some ⟨b, 0, none⟩)] w (YesNo (decide (0 ≤ n) && decide (n ≤ m)) w) := by
  obtain ⟨b1, h1⟩ : ∃ b1, b1 = decide (0 ≤ n) := ⟨_, rfl⟩
  obtain ⟨b2, h2⟩ : ∃ b2, b2 = decide (n ≤ m) := ⟨_, rfl⟩
  have g1 := h1.symm
  have g2 := h2.symm
  clear h1 h2
  rw [g1, g2]
  cases b1
  · go_enter Tryz.func293, Tryz.ntmps293
    go_wp2
    go_ret
    exact ⟨rfl, rfl⟩
  · go_enter Tryz.func293, Tryz.ntmps293
    go_wp2
    go_ret
    exact ⟨rfl, rfl⟩
set_option maxRecDepth 100000 in
theorem upTo_any (w : World) (m : Int) : Calls Tryz.prog 227 #[.int .i64 m] w fun e w' => e = .returned (.func (.func 293) #[] #[.pointer (some ⟨w.heap.size, 0, none⟩)]) ∧ w' = w.alloc (.cells #[.int .i64 m] 3) := by
  have hmf : ∀ (fn : Fn) (first cap : Array Value) (w : World), (Instr.makeFunc fn first cap).run Tryz.prog w = .ok (.func fn first cap) w := fun _ _ _ _ => rfl
  go_enter Tryz.func227, Tryz.ntmps227
  go_wp2
  go_ret
  exact ⟨rfl, rfl⟩
end Go.Proofs.YtabmipjpgofgpaaGreatDoor
