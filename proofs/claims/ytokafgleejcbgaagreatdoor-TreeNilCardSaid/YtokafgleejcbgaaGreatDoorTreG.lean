/-
  Layer 31: create, makeFile.
-/
import Derived.Test.YtokafgleejcbgaaGreatDoorTreF
namespace Go.Proofs.YtokafgleejcbgaaGreatDoor
open Go.RowKit
set_option linter.unusedVariables false
set_option maxRecDepth 100000

/-- What making an item at a path answers. -/
def cr31 (I B : Int) (L : List It) (r : It) (p : List UInt8) : Int :=
  match (pa31 L r p).2 with
  | none => (pa31 L r p).1
  | some a => if (atT L p).isSome then 8 else if room31 a = false then 17 else if I ≤ L.length ∨ ¬ (blkT L + more31 a 16 ≤ B) then 16 else 0
/-- What making an item leaves. -/
def CrE (g bm : Nat) (I B : Int) (L : List It) (r v : It) (w : World) (e : Ending) (w' : World) : Prop :=
  e = .returned (.int .i64 (cr31 I B L r v.p)) ∧ (cr31 I B L r v.p ≠ 0 → Kept NoB w w') ∧
    (cr31 I B L r v.p = 0 → ∃ a ∈ L, (pa31 L r v.p).2 = some a ∧ TrAt w' g bm I B (incT (putT L v) a.p) ∧ Kept (Foot31 bm L) w w')
theorem CrE.bad {g bm : Nat} {I B : Int} {L : List It} {r v : It} {w w' : World} {c : Int} (hc : cr31 I B L r v.p = c) (h0 : c ≠ 0) (hk : Kept NoB w w') : CrE g bm I B L r v w (.returned (.int .i64 c)) w' :=
  ⟨by rw [hc], fun _ => hk, fun h => absurd (hc.symm.trans h) h0⟩
theorem run_len31 {w : World} {bm : Nat} {L : List It} (h : MapT w bm L) (ty : TypeId) : (Builtin.len_ #[47] ty #[.map (some bm)]).run Tryz.prog w = .ok (.int .i64 L.length) w := by
  have h1 := h.2.len mapty31 ty
  have : Maps.size (datT L) = L.length := by simp [datT, Maps.size]
  rw [this] at h1
  exact h1
theorem room_n31 {x : It} (h : room31 x = true) (hd : x.dir = true) : x.n + 1 ≤ 32 := by
  unfold room31 at h
  have h := of_decide_eq_true h
  unfold nd31 sz31 at h
  rw [hd, if_pos rfl] at h
  split at h <;> omega
theorem frzI31 {w : World} {x : It} (h : ItC w x) (o : Nat) : w.frozen? ⟨x.b, o, none⟩ = false := by obtain ⟨_, _, h, _⟩ := h; simp [World.frozen?, h]
theorem ItC.no {w w' : World} {x : It} (h : ItC w x) (hk : Kept NoB w w') : ItC w' x := h.kept hk (fun h => h) (fun _ _ h => h)
set_option maxHeartbeats 8000000 in
theorem create31_any (w : World) (g bm : Nat) (I B : Int) (L : List It) (r v : It) (s : ByteArray) (h : TrAt w g bm I B L) (hr : atT L [47] = some r) (hs : s.size ≤ 1000000) (hlg : Lng w)
    (hp : s.data.toList = v.p) (hv : ItC w v) (hvn : v.n = 0) (hvd : v.d = []) (hvG : ∀ k, ¬ v.G k) (hvb : ¬ Foot31 bm L v.b) (hvo : ∀ x ∈ L, ¬ x.G v.b) :
    Calls Tryz.prog 32 #[.pointer (some ⟨g, 0, none⟩), .string s, itv v] w (CrE g bm I B L r v w) := by
  have HPA := Lib.hid (parent31_any w g bm I B L r s h hr hs hlg)
  have HH := Lib.hid h
  have hpc := pa31_cases L r v.p (atT_key hr).2
  rw [hp] at HPA
  have hcr : cr31 I B L r v.p = cr31 I B L r v.p := rfl
  conv at hcr => rhs; unfold cr31
  have HHA := Lib.hid (fun w' (hk : Kept NoB w w') => has31_any w' g bm I B L s (h.no hk) hs)
  rw [hp] at HHA
  obtain ⟨P, hP⟩ : ∃ P, P = pa31 L r v.p := ⟨_, rfl⟩
  have HP := Lib.hid hP
  rw [← hP] at HPA hpc hcr
  have HS := Lib.hid (show s.size ≤ maxLen by unfold maxLen; omega)
  have HSP := Lib.hid hp
  have HV := Lib.hid hv
  have HVV := Lib.hid (show v.n = 0 ∧ v.d = [] ∧ (∀ k, ¬ v.G k) ∧ ¬ Foot31 bm L v.b ∧ (∀ x ∈ L, ¬ x.G v.b) from ⟨hvn, hvd, hvG, hvb, hvo⟩)
  have hI := h.sh
  clear h hr hs hlg hp hv hvn hvd hvG hvb hvo hP
  unfold itv
  rcases hpc with ⟨h1, h2⟩ | ⟨a, ha, hd, h1⟩
  · obtain ⟨P1, P2⟩ := P
    simp only at h1 h2 HPA hcr
    subst h2
    simp only at hcr
    rw [show lookV none = .pointer none from rfl] at HPA
    have HCR := Lib.hid hcr
    have H1 := Lib.hid h1
    have g1 : (P1 != 0) = true := bne_iff_ne.2 h1
    clear h1 hcr hI
    go_enter Tryz.func32, Tryz.ntmps32
    go_wp2_with (go_at_call 37; refine HPA.out.mono ?_; rintro e w1 ⟨rfl, hk⟩; have HK := Lib.hid hk; clear hk)
    go_ret
    exact CrE.bad HCR.out H1.out HK.out
  · subst h1
    simp only at HPA hcr
    rw [lookV_some] at HPA
    unfold itv at HPA
    have HA := Lib.hid ha
    have HD := Lib.hid hd
    have hbd := HH.out.bd a ha
    obtain ⟨o, ho⟩ : ∃ o, o = (atT L v.p).isSome := ⟨_, rfl⟩
    have HO := Lib.hid ho
    rw [← ho] at HHA hcr
    clear ha hd ho
    cases o with
    | true =>
      have hcr : cr31 I B L r v.p = 8 := hcr
      have HCR := Lib.hid hcr
      clear hcr hI hbd
      go_enter Tryz.func32, Tryz.ntmps32
      go_wp2_with (first
        | (go_at_call 37; refine HPA.out.mono ?_; rintro e w1 ⟨rfl, hk⟩; have HK := Lib.hid hk; clear hk)
        | (go_at_call 38; refine (HHA.out _ HK.out).mono ?_; rintro e w2 ⟨rfl, rfl⟩))
      go_ret
      exact CrE.bad HCR.out (by decide) HK.out
    | false =>
      rw [if_neg (by simp)] at hcr
      have HRO := Lib.hid (fun w' (hk : Kept NoB w w') => hasRoom31_any w' a ((HH.out.no hk).it a HA.out) hbd.1 hbd.2)
      obtain ⟨rm, hrm⟩ : ∃ q, q = room31 a := ⟨_, rfl⟩
      have HRM := Lib.hid hrm
      rw [← hrm] at HRO hcr
      unfold itv at HRO
      clear hrm
      cases rm with
      | false =>
        rw [if_pos rfl] at hcr
        have HCR := Lib.hid hcr
        clear hcr hI hbd
        go_enter Tryz.func32, Tryz.ntmps32
        go_wp2_with (first
          | (go_at_call 37; refine HPA.out.mono ?_; rintro e w1 ⟨rfl, hk⟩; have HK := Lib.hid hk; clear hk)
          | (go_at_call 38; refine (HHA.out _ HK.out).mono ?_; rintro e w2 ⟨rfl, rfl⟩)
          | (go_at_call 39; refine (HRO.out _ HK.out).mono ?_; rintro e w2 ⟨rfl, rfl⟩))
        go_ret
        exact CrE.bad HCR.out (by decide) HK.out
      | true =>
        rw [if_neg (by simp)] at hcr
        have HCS := Lib.hid (fun w' (hk : Kept NoB w w') => (⟨(HH.out.no hk).cc.1, (HH.out.no hk).cc.2.2, run_len31 (HH.out.no hk).mp⟩ : w'.cell? ⟨g, 0, none⟩ = some (.int .i64 I) ∧ w'.cell? ⟨g, 2, none⟩ = some (.map (some bm)) ∧ ∀ ty, (Builtin.len_ #[47] ty #[.map (some bm)]).run Tryz.prog w' = .ok (.int .i64 L.length) w'))
        by_cases hf : I ≤ L.length
        · rw [if_pos (.inl hf)] at hcr
          have HCR := Lib.hid hcr
          have d1 : decide (I ≤ (L.length : Int)) = true := decide_eq_true hf
          clear hcr hI hbd
          go_enter Tryz.func32, Tryz.ntmps32
          go_wp2_with (first
            | (go_at_call 37; refine HPA.out.mono ?_; rintro e w1 ⟨rfl, hk⟩; have HK := Lib.hid hk; clear hk)
            | (go_at_call 38; refine (HHA.out _ HK.out).mono ?_; rintro e w2 ⟨rfl, rfl⟩)
            | (go_at_call 39; refine (HRO.out _ HK.out).mono ?_; rintro e w2 ⟨rfl, rfl⟩))
          obtain ⟨c0, c2, hlen⟩ := HCS.out _ (HK.out.trans (Kept.refl NoB _).drew (fun _ _ h => h))
          go_region
          all_goals
            go_wp2_with fail
            go_ret
            exact CrE.bad HCR.out (by decide) (HK.out.trans (Kept.refl NoB _).drew (fun _ _ h => h))
        · have d1 : decide (I ≤ (L.length : Int)) = false := decide_eq_false hf
          have HMO := Lib.hid (fun w' (hk : Kept NoB w w') => more31_any w' a 16 ((HH.out.no hk).it a HA.out) hbd.1 hbd.2 (by decide) (by decide))
          have hmb : 0 ≤ more31 a 16 + 100 ∧ more31 a 16 ≤ 100 := by
            have hsz : sz31 a ≤ 512 := by unfold sz31; split <;> omega
            have h1 := nd31_bd (s := (sz31 a : Int)) (by omega) (by omega)
            have h2 := nd31_bd (s := (sz31 a : Int) + 16) (by omega) (by omega)
            unfold more31
            omega
          obtain ⟨mo, hmo⟩ : ∃ q, q = more31 a 16 := ⟨_, rfl⟩
          rw [← hmo] at HMO hcr hmb
          unfold itv at HMO
          have HHB := Lib.hid (fun w' (hk : Kept NoB w w') => hasBlocks31_any w' g bm I B L mo (HH.out.no hk) (by omega) (by omega))
          clear hmo hmb
          by_cases hb : blkT L + mo ≤ B
          · rw [if_neg (fun h => h.elim hf (fun q => q hb))] at hcr
            rw [decide_eq_true hb] at HHB
            have HCR := Lib.hid hcr
            obtain ⟨a1, q1, hxa⟩ := (HH.out.it a HA.out).cells
            have HI := Lib.hid (show L.length + 1 ≤ 1000 by omega)
            have HN1 := Lib.hid (room_n31 HRM.out.symm HD.out)
            have hwn : IntKind.i64.wrap ((a.n : Int) + 1) = (a.n : Int) + 1 := IntWalk.i64_in _ (by omega)
            clear hcr hI hbd hb hf hxa
            go_enter Tryz.func32, Tryz.ntmps32
            go_wp2_with (first
            | (go_at_call 37; refine HPA.out.mono ?_; rintro e w1 ⟨rfl, hk⟩; have HK := Lib.hid hk; clear hk)
            | (go_at_call 38; refine (HHA.out _ HK.out).mono ?_; rintro e w2 ⟨rfl, rfl⟩)
            | (go_at_call 39; refine (HRO.out _ HK.out).mono ?_; rintro e w2 ⟨rfl, rfl⟩))
            go_region_held3 (fun w' => w'.cell? ⟨g, 0, none⟩ = some (.int .i64 I) ∧ w'.cell? ⟨g, 2, none⟩ = some (.map (some bm)) ∧ ∀ ty, (Builtin.len_ #[47] ty #[.map (some bm)]).run Tryz.prog w' = .ok (.int .i64 L.length) w')
              (first
                | exact HCS.out _ (HK.out.trans (Kept.refl NoB _).drew (fun _ _ h => h))
                | exact HCS.out _ HK6.out)
              (first
                | (go_at_call 41; refine (HMO.out _ (HK.out.trans (Kept.refl NoB _).drew (fun _ _ h => h))).mono ?_; rintro e w5 ⟨rfl, rfl⟩)
                | (go_at_call 40; refine (HHB.out _ (HK.out.trans (Kept.refl NoB _).drew (fun _ _ h => h))).mono ?_; rintro e w6 ⟨rfl, hk⟩; have HK6 : Hid (Kept NoB w w6) := Lib.hid ((HK.out.trans (Kept.refl NoB _).drew (fun _ _ h => h)).trans hk (fun _ _ h => h)); clear hk)
                | fail)
            all_goals
              have ht6 := HH.out.no HK6.out
              have HT6 := Lib.hid ht6
              obtain ⟨-, -, k2⟩ := ht6.cc
              obtain ⟨a1, q1, -, -, x2⟩ := (ht6.it a HA.out).cells
              have HAB := Lib.hid (show a.b ≠ bm from fun e => by obtain ⟨_, _, hc, _⟩ := ht6.it a HA.out; exact ht6.mp.ne hc e.symm)
              clear ht6
              go_wp2_with (at_mapUpdate; refine wpList_store31 _ rfl _ _ _ rfl bm L v s HSP.out rfl rfl rfl HT6.out.mp HS.out (by have := HI.out; omega) ?_; intro w7 hm7 hg7; have HM7 := Lib.hid hm7; have hk7 : Kept (fun k => k = bm) w6 w7 := (Kept.refl _ w6).grown hg7 (fun k hk => .inl (by injection hk with hk; exact hk.symm)); have HK7 := Lib.hid hk7; have hi7 := (HT6.out.it a HA.out).kept hk7 HAB.out (fun k hG e => (HT6.out.own a HA.out k hG).1 (.inl e)); have fz7 := frzI31 hi7 2; have x7 := hk7.cell (p := ⟨a.b, 2, none⟩) HAB.out x2; clear hm7 hg7 hk7 hi7)
              go_ret
              exact ⟨by rw [HCR.out]; rfl, fun h => absurd HCR.out h, fun _ => ⟨a, HA.out, by rw [← HP.out], HT6.out.created HA.out HN1.out (HV.out.no HK6.out) HVV.out.1 HVV.out.2.1 HVV.out.2.2.1 HVV.out.2.2.2.1 HVV.out.2.2.2.2 (by have := HO.out; cases h : atT L v.p with | none => rfl | some _ => rw [h] at this; cases this) HI.out HM7.out HK7.out, (HK6.out.mono (fun _ _ h => h.elim)).trans (T := Foot31 bm L) ((HK7.out.mono (fun _ _ h => .inl h)).setCell (p := ⟨a.b, 2, none⟩) (.inl (.inr ⟨a, HA.out, rfl⟩)) _) (fun _ _ h => h)⟩⟩
          · rw [if_pos (.inr hb)] at hcr
            rw [decide_eq_false hb] at HHB
            have HCR := Lib.hid hcr
            clear hcr hI hbd hb hf
            go_enter Tryz.func32, Tryz.ntmps32
            go_wp2_with (first
            | (go_at_call 37; refine HPA.out.mono ?_; rintro e w1 ⟨rfl, hk⟩; have HK := Lib.hid hk; clear hk)
            | (go_at_call 38; refine (HHA.out _ HK.out).mono ?_; rintro e w2 ⟨rfl, rfl⟩)
            | (go_at_call 39; refine (HRO.out _ HK.out).mono ?_; rintro e w2 ⟨rfl, rfl⟩))
            go_region_held3 (fun w' => w'.cell? ⟨g, 0, none⟩ = some (.int .i64 I) ∧ w'.cell? ⟨g, 2, none⟩ = some (.map (some bm)) ∧ ∀ ty, (Builtin.len_ #[47] ty #[.map (some bm)]).run Tryz.prog w' = .ok (.int .i64 L.length) w')
              (first
                | exact HCS.out _ (HK.out.trans (Kept.refl NoB _).drew (fun _ _ h => h))
                | exact HCS.out _ HK6.out)
              (first
                | (go_at_call 41; refine (HMO.out _ (HK.out.trans (Kept.refl NoB _).drew (fun _ _ h => h))).mono ?_; rintro e w5 ⟨rfl, rfl⟩)
                | (go_at_call 40; refine (HHB.out _ (HK.out.trans (Kept.refl NoB _).drew (fun _ _ h => h))).mono ?_; rintro e w6 ⟨rfl, hk⟩; have HK6 : Hid (Kept NoB w w6) := Lib.hid ((HK.out.trans (Kept.refl NoB _).drew (fun _ _ h => h)).trans hk (fun _ _ h => h)); clear hk)
                | fail)
            all_goals
              go_wp2_with fail
              go_ret
              exact CrE.bad HCR.out (by decide) HK6.out
end Go.Proofs.YtokafgleejcbgaaGreatDoor
