/-
  Layer 29: the walk of DirsTurns.
-/
import Derived.Test.YtokafgleejcbgaaDoorDirAK
namespace Go.Proofs.YtokafgleejcbgaaDoor
open Go.RowKit
set_option linter.unusedVariables false

theorem oneE29 (w : World) (n : List UInt8) (m : Int) (sn : ByteArray) (h : sn = ⟨n.toArray⟩) : ESl (w.alloc (.cells #[.string sn, .int .i64 m] 24)) (fun _ => True) (.slice (some ⟨w.heap.size, 0, none⟩) 1 1) [(n, m)] := by
  subst h
  have hb := heap_alloc_new w (.cells #[.string ⟨n.toArray⟩, .int .i64 m] 24)
  obtain ⟨q0, q1⟩ := cell2_29 hb
  exact ⟨_, 1, rfl, Nat.le_refl _, by decide, (fun h => by cases h), fun _ => ⟨w.heap.size, 0, rfl, trivial, heap_lt hb, fun j hj => by
    have hj : j = 0 := by simpa using hj
    subst hj
    exact ⟨q0, q1⟩⟩⟩
set_option maxRecDepth 100000 in
set_option maxHeartbeats 8000000 in
theorem DirsTurns_any (v : Value) (E : List En) (n : List UInt8) (m : Int) (s : List UInt8) (w : World) (h : ESl w (fun k => k < w.heap.size) v E) (hpa : PlainA v) (hlb : ∀ x ∈ E, x.1.length ≤ 9223372036854775807) (hn0 : n.length ≤ 9223372036854775807) (hs0 : s.length ≤ 9223372036854775807) (hv : Lng w) :
    Calls Tryd.prog 3 #[v, .agg #[.string ⟨n.toArray⟩, .int .i64 m], .string ⟨s.toArray⟩] w fun e w' => e = .returned (.bool true) ∧ Kept NoB w w' := by
  have HV := Lib.hid hv
  obtain ⟨a, c, rfl, hmax⟩ := h.form
  unfold maxLen at hmax
  have HAW := Lib.hid (fun w hv => awake29_any w hv)
  have HF1 := Lib.hid (fun (u : Value) (F : Nat → Prop) (w : World) (h : ESl w F u E) => far29_any u E F w h hlb)
  have HF2 := Lib.hid (fun (u : Value) (F : Nat → Prop) (w : World) (h : ESl w F u [(n, m)]) => far29_any u [(n, m)] F w h (fun x hx => by rw [List.mem_singleton] at hx; rw [hx]; exact hn0))
  have hf1 := farE_one (n, m)
  simp only at hf1
  rw [hf1] at HF2
  clear hf1
  have hfn : ∀ j, farE E = false → j < E.length → (eth E j).1.length ≤ 1000000 := fun j hf hj => Nat.le_trans ((farE_not hf).2 _ (eth_mem hj)) (by decide)
  have hfe := fun hf : farE E = false => farE_not hf
  have HPA := Lib.hid hpa
  obtain ⟨sn, hsn⟩ : ∃ q : ByteArray, q = ⟨n.toArray⟩ := ⟨_, rfl⟩
  obtain ⟨ss, hss⟩ : ∃ q : ByteArray, q = ⟨s.toArray⟩ := ⟨_, rfl⟩
  have hsz : ss.size = s.length := by rw [hss]; simp [ByteArray.size]
  rw [← hsn, ← hss]
  have HSN := Lib.hid hsn
  have HSS := Lib.hid hss
  have HK := Lib.hid ((Kept.refl NoB w).alloc (.cells #[.string sn, .int .i64 m] 24))
  have HB := Lib.hid (heap_alloc_new w (.cells #[.string sn, .int .i64 m] 24))
  have HE := Lib.hid (h.any.no HK.out)
  obtain ⟨c0, c1⟩ := cell2_29 HB.out
  obtain ⟨fe, hfeq⟩ : ∃ q, q = farE E := ⟨_, rfl⟩
  rw [← hfeq] at HF1 hfn hfe
  clear h hv hlb hn0 hpa hsn hss hfeq
  by_cases hf : fe = true
  · subst hf
    clear hsz hfn hfe
    go_enter Tryd.func3, Tryd.ntmps3
    go_wp2_with (first
      | (go_at_call 4; refine (HF1.out _ _ _ HE.out).mono ?_; rintro e w1 ⟨rfl, hk⟩; replace HK := Lib.hid (HK.out.trans hk (fun _ _ h => h)); replace HE := Lib.hid (HE.out.no hk); replace HB := Lib.hid (hk.heap (fun h => h) HB.out); (try replace HA1 := Lib.hid (HA1.out.no hk)); (try replace HA2 := Lib.hid (HA2.out.no hk)); (try replace HR1 := Lib.hid (HR1.out.no hk)); (try replace HR2 := Lib.hid (HR2.out.no hk)); (try replace HO := Lib.hid (HO.out.no hk)); (try replace HBK := Lib.hid (HBK.out.no hk)); (try replace HNS := Lib.hid (HNS.out.no hk)); (try replace HN1 := Lib.hid (HN1.out.no hk)); clear hk c0 c1; (obtain ⟨c0, c1⟩ := cell2_29 HB.out); have HL1 := Lib.hid (oneE29 w1 n m sn HSN.out); have MF := Lib.hid trivial)
      | (go_at_call 5; refine (HAW.out _ (HV.out.no HK.out)).mono ?_; rintro e w2 ⟨rfl, hk⟩; replace HK := Lib.hid (HK.out.trans hk (fun _ _ h => h)); replace HE := Lib.hid (HE.out.no hk); replace HB := Lib.hid (hk.heap (fun h => h) HB.out); (try replace HA1 := Lib.hid (HA1.out.no hk)); (try replace HA2 := Lib.hid (HA2.out.no hk)); (try replace HR1 := Lib.hid (HR1.out.no hk)); (try replace HR2 := Lib.hid (HR2.out.no hk)); (try replace HO := Lib.hid (HO.out.no hk)); (try replace HBK := Lib.hid (HBK.out.no hk)); (try replace HNS := Lib.hid (HNS.out.no hk)); (try replace HN1 := Lib.hid (HN1.out.no hk)); clear hk c0 c1; (obtain ⟨c0, c1⟩ := cell2_29 HB.out)))
    go_ret
    exact ⟨rfl, HK.out⟩
  · have hf : fe = false := Bool.eq_false_iff.2 hf
    obtain ⟨h40, h30⟩ := hfe hf
    have hnm := fun j => hfn j hf
    subst hf
    clear hfn hfe
    by_cases hnn : 30 < n.length
    · rw [decide_eq_true hnn] at HF2
      clear hsz hnm h30 h40 hnn
      go_enter Tryd.func3, Tryd.ntmps3
      go_wp2_with (first
        | (have hm := MF; clear hm; go_at_call 4; refine (HF2.out _ _ _ HL1.out).mono ?_; rintro e w2 ⟨rfl, hk⟩; replace hk := ((Kept.refl NoB _).alloc (.cells #[.string sn, .int .i64 m] 24)).trans hk (fun _ _ h => h); replace HK := Lib.hid (HK.out.trans hk (fun _ _ h => h)); replace HE := Lib.hid (HE.out.no hk); replace HB := Lib.hid (hk.heap (fun h => h) HB.out); (try replace HA1 := Lib.hid (HA1.out.no hk)); (try replace HA2 := Lib.hid (HA2.out.no hk)); (try replace HR1 := Lib.hid (HR1.out.no hk)); (try replace HR2 := Lib.hid (HR2.out.no hk)); (try replace HO := Lib.hid (HO.out.no hk)); (try replace HBK := Lib.hid (HBK.out.no hk)); (try replace HNS := Lib.hid (HNS.out.no hk)); (try replace HN1 := Lib.hid (HN1.out.no hk)); clear hk c0 c1; (obtain ⟨c0, c1⟩ := cell2_29 HB.out))
        | (go_at_call 4; refine (HF1.out _ _ _ HE.out).mono ?_; rintro e w1 ⟨rfl, hk⟩; replace HK := Lib.hid (HK.out.trans hk (fun _ _ h => h)); replace HE := Lib.hid (HE.out.no hk); replace HB := Lib.hid (hk.heap (fun h => h) HB.out); (try replace HA1 := Lib.hid (HA1.out.no hk)); (try replace HA2 := Lib.hid (HA2.out.no hk)); (try replace HR1 := Lib.hid (HR1.out.no hk)); (try replace HR2 := Lib.hid (HR2.out.no hk)); (try replace HO := Lib.hid (HO.out.no hk)); (try replace HBK := Lib.hid (HBK.out.no hk)); (try replace HNS := Lib.hid (HNS.out.no hk)); (try replace HN1 := Lib.hid (HN1.out.no hk)); clear hk c0 c1; (obtain ⟨c0, c1⟩ := cell2_29 HB.out); have HL1 := Lib.hid (oneE29 w1 n m sn HSN.out); have MF := Lib.hid trivial)
        | (go_at_call 5; refine (HAW.out _ (HV.out.no HK.out)).mono ?_; rintro e w2 ⟨rfl, hk⟩; replace HK := Lib.hid (HK.out.trans hk (fun _ _ h => h)); replace HE := Lib.hid (HE.out.no hk); replace HB := Lib.hid (hk.heap (fun h => h) HB.out); (try replace HA1 := Lib.hid (HA1.out.no hk)); (try replace HA2 := Lib.hid (HA2.out.no hk)); (try replace HR1 := Lib.hid (HR1.out.no hk)); (try replace HR2 := Lib.hid (HR2.out.no hk)); (try replace HO := Lib.hid (HO.out.no hk)); (try replace HBK := Lib.hid (HBK.out.no hk)); (try replace HNS := Lib.hid (HNS.out.no hk)); (try replace HN1 := Lib.hid (HN1.out.no hk)); clear hk c0 c1; (obtain ⟨c0, c1⟩ := cell2_29 HB.out)))
      go_ret
      exact ⟨rfl, HK.out⟩
    · rw [decide_eq_false hnn] at HF2
      by_cases hss : 30 < s.length
      · have g1 : (30 : Int) < (ss.size : Int) := by omega
        have g1' : decide ((30 : Int) < (ss.size : Int)) = true := decide_eq_true g1
        clear hsz hnm h30 h40 hnn hss
        go_enter Tryd.func3, Tryd.ntmps3
        go_wp2_with (first
        | (have hm := MF; clear hm; go_at_call 4; refine (HF2.out _ _ _ HL1.out).mono ?_; rintro e w2 ⟨rfl, hk⟩; replace hk := ((Kept.refl NoB _).alloc (.cells #[.string sn, .int .i64 m] 24)).trans hk (fun _ _ h => h); replace HK := Lib.hid (HK.out.trans hk (fun _ _ h => h)); replace HE := Lib.hid (HE.out.no hk); replace HB := Lib.hid (hk.heap (fun h => h) HB.out); (try replace HA1 := Lib.hid (HA1.out.no hk)); (try replace HA2 := Lib.hid (HA2.out.no hk)); (try replace HR1 := Lib.hid (HR1.out.no hk)); (try replace HR2 := Lib.hid (HR2.out.no hk)); (try replace HO := Lib.hid (HO.out.no hk)); (try replace HBK := Lib.hid (HBK.out.no hk)); (try replace HNS := Lib.hid (HNS.out.no hk)); (try replace HN1 := Lib.hid (HN1.out.no hk)); clear hk c0 c1; (obtain ⟨c0, c1⟩ := cell2_29 HB.out))
        | (go_at_call 4; refine (HF1.out _ _ _ HE.out).mono ?_; rintro e w1 ⟨rfl, hk⟩; replace HK := Lib.hid (HK.out.trans hk (fun _ _ h => h)); replace HE := Lib.hid (HE.out.no hk); replace HB := Lib.hid (hk.heap (fun h => h) HB.out); (try replace HA1 := Lib.hid (HA1.out.no hk)); (try replace HA2 := Lib.hid (HA2.out.no hk)); (try replace HR1 := Lib.hid (HR1.out.no hk)); (try replace HR2 := Lib.hid (HR2.out.no hk)); (try replace HO := Lib.hid (HO.out.no hk)); (try replace HBK := Lib.hid (HBK.out.no hk)); (try replace HNS := Lib.hid (HNS.out.no hk)); (try replace HN1 := Lib.hid (HN1.out.no hk)); clear hk c0 c1; (obtain ⟨c0, c1⟩ := cell2_29 HB.out); have HL1 := Lib.hid (oneE29 w1 n m sn HSN.out); have MF := Lib.hid trivial)
        | (go_at_call 5; refine (HAW.out _ (HV.out.no HK.out)).mono ?_; rintro e w2 ⟨rfl, hk⟩; replace HK := Lib.hid (HK.out.trans hk (fun _ _ h => h)); replace HE := Lib.hid (HE.out.no hk); replace HB := Lib.hid (hk.heap (fun h => h) HB.out); (try replace HA1 := Lib.hid (HA1.out.no hk)); (try replace HA2 := Lib.hid (HA2.out.no hk)); (try replace HR1 := Lib.hid (HR1.out.no hk)); (try replace HR2 := Lib.hid (HR2.out.no hk)); (try replace HO := Lib.hid (HO.out.no hk)); (try replace HBK := Lib.hid (HBK.out.no hk)); (try replace HNS := Lib.hid (HNS.out.no hk)); (try replace HN1 := Lib.hid (HN1.out.no hk)); clear hk c0 c1; (obtain ⟨c0, c1⟩ := cell2_29 HB.out)))
        go_ret
        exact ⟨rfl, HK.out⟩
      · have g1 : (ss.size : Int) ≤ 30 := by omega
        have g1' : decide ((30 : Int) < (ss.size : Int)) = false := decide_eq_false (by omega)
        have HOU := Lib.hid (fun (u : Value) (F : Nat → Prop) (w : World) (h : ESl w F u E) => ours29b_any u E F w h (by omega))
        have HAD := Lib.hid (fun (u : Value) (F : Nat → Prop) (w : World) (h : ESl w F u E) (hp : PlainA u) => vAdd29_any u E n m F w h hnm (by omega) hp)
        have HRA := Lib.hid (fun (u : Value) (F : Nat → Prop) (w : World) (h : ESl w F u E) (hp : PlainA u) => rAdd29_any u E n m F w h hnm (by omega) hp)
        have HRM := Lib.hid (fun (u : Value) (F : Nat → Prop) (w : World) (h : ESl w F u E) => vRemove29_any u E s (fun k => k < w.heap.size) w (h.mono (fun k hk _ => hk)) (fun k hk => hk) hnm)
        have HRR := Lib.hid (fun (u : Value) (F : Nat → Prop) (w : World) (h : ESl w F u E) => rRemove29_any u E s F w h hnm)
        have HFI := Lib.hid (fun (u : Value) (F : Nat → Prop) (w : World) (h : ESl w F u E) => vFind29_any u E s F w h)
        have HFR := Lib.hid (fun (u : Value) (F : Nat → Prop) (w : World) (h : ESl w F u E) => rFind29_any u E s F w h)
        have HNA := Lib.hid (fun (u : Value) (F : Nat → Prop) (w : World) (h : ESl w F u E) => Names29_any u E (fun k => k < w.heap.size) w (h.mono (fun k hk _ => hk)) (fun k hk => hk) (by omega))
        have hfi := addE_fine (n, m) E h40 h30 (by show n.length ≤ 30; omega)
        have hrl := remE_fine s E
        have hab := add_back29 (n, m) E
        simp only at hab
        obtain ⟨NS, hNS⟩ : ∃ q, q = E.map (·.1) := ⟨_, rfl⟩
        rw [← hNS] at HNA
        have HNQ := Lib.hid hNS
        clear hNS
        obtain ⟨ea, hea⟩ : ∃ q, q = (addE (n, m) E).1 := ⟨_, rfl⟩
        obtain ⟨LA, hLA⟩ : ∃ q, q = (addE (n, m) E).2 := ⟨_, rfl⟩
        obtain ⟨er, her⟩ : ∃ q, q = (remE s E).1 := ⟨_, rfl⟩
        obtain ⟨LR, hLR⟩ : ∃ q, q = (remE s E).2 := ⟨_, rfl⟩
        obtain ⟨fi, hfi2⟩ : ∃ q, q = (fndE s E).1 := ⟨_, rfl⟩
        obtain ⟨fb, hfb2⟩ : ∃ q, q = (fndE s E).2 := ⟨_, rfl⟩
        rw [← hea, ← hLA] at HAD HRA hab
        rw [← hLA] at hfi
        rw [← her, ← hLR] at HRM HRR
        rw [← hLR] at hrl
        rw [← hfi2, ← hfb2] at HFI HFR
        have HLA := Lib.hid (fun (u v : Value) (F G : Nat → Prop) (w : World) (h : ESl w F u LA) (k : ESl w G v LA) => like29_true u v LA F G w h k (by omega))
        have HLR := Lib.hid (fun (u v : Value) (F G : Nat → Prop) (w : World) (h : ESl w F u LR) (k : ESl w G v LR) => like29_true u v LR F G w h k (by omega))
        have HLE := Lib.hid (fun (u v : Value) (F G : Nat → Prop) (w : World) (h : ESl w F u E) (k : ESl w G v E) => like29_true u v E F G w h k (by omega))
        have HRX := Lib.hid (fun (u : Value) (F : Nat → Prop) (w : World) (h : ESl w F u LA) => vRemove29_any u LA n (fun k => k < w.heap.size) w (h.mono (fun k hk _ => hk)) (fun k hk => hk) (fun j hj => Nat.le_trans (hfi.2 _ (eth_mem hj)) (by decide)))
        rw [← HSN.out] at HAD HRA HRX
        rw [← HSS.out] at HRM HRR HFI HFR
        have HAB := Lib.hid hab
        have HPA2 := Lib.hid (HPA.out)
        have r1 : (ea != ea) = false := by simp
        have r2 : (er != er) = false := by simp
        have r3 : (fi != fi) = false := by simp
        have r4 : (fb != fb) = false := by simp
        have HL40 := Lib.hid h40
        obtain ⟨i0, hi, hz0, hz1, hz2⟩ := info_parts info_string29
        clear hsz hnm h30 h40 hnn hss hfi hrl hab hea hLA her hLR hfi2 hfb2
        go_enter Tryd.func3, Tryd.ntmps3
        go_wp2_with (first
          | (have hm := MF; clear hm; go_at_call 4; refine (HF2.out _ _ _ HL1.out).mono ?_; rintro e w2 ⟨rfl, hk⟩; replace hk := ((Kept.refl NoB _).alloc (.cells #[.string sn, .int .i64 m] 24)).trans hk (fun _ _ h => h); replace HK := Lib.hid (HK.out.trans hk (fun _ _ h => h)); replace HE := Lib.hid (HE.out.no hk); replace HB := Lib.hid (hk.heap (fun h => h) HB.out); (try replace HA1 := Lib.hid (HA1.out.no hk)); (try replace HA2 := Lib.hid (HA2.out.no hk)); (try replace HR1 := Lib.hid (HR1.out.no hk)); (try replace HR2 := Lib.hid (HR2.out.no hk)); (try replace HO := Lib.hid (HO.out.no hk)); (try replace HBK := Lib.hid (HBK.out.no hk)); (try replace HNS := Lib.hid (HNS.out.no hk)); (try replace HN1 := Lib.hid (HN1.out.no hk)); clear hk c0 c1; (obtain ⟨c0, c1⟩ := cell2_29 HB.out))
          | (go_at_call 4; refine (HF1.out _ _ _ HE.out).mono ?_; rintro e w1 ⟨rfl, hk⟩; replace HK := Lib.hid (HK.out.trans hk (fun _ _ h => h)); replace HE := Lib.hid (HE.out.no hk); replace HB := Lib.hid (hk.heap (fun h => h) HB.out); (try replace HA1 := Lib.hid (HA1.out.no hk)); (try replace HA2 := Lib.hid (HA2.out.no hk)); (try replace HR1 := Lib.hid (HR1.out.no hk)); (try replace HR2 := Lib.hid (HR2.out.no hk)); (try replace HO := Lib.hid (HO.out.no hk)); (try replace HBK := Lib.hid (HBK.out.no hk)); (try replace HNS := Lib.hid (HNS.out.no hk)); (try replace HN1 := Lib.hid (HN1.out.no hk)); clear hk c0 c1; (obtain ⟨c0, c1⟩ := cell2_29 HB.out); have HL1 := Lib.hid (oneE29 w1 n m sn HSN.out); have MF := Lib.hid trivial))
        have hkd := (Kept.refl NoB w2).drew
        have HED := Lib.hid (HE.out.no hkd)
        have HBD := Lib.hid (hkd.heap (fun h => h) HB.out)
        have HKD := Lib.hid (HK.out.trans hkd (fun _ _ h => h))
        clear hkd HL1 MF
        go_region_held3 (fun w' => w'.cell? ⟨w.heap.size, 0, none⟩ = some (.string sn) ∧ w'.cell? ⟨w.heap.size, 1, none⟩ = some (.int .i64 m))
          (first
            | exact ⟨cell_drew c0, cell_drew c1⟩
            | exact cell2_29 HBD.out
            | exact cell2_29 HB3.out
            | exact cell2_29 HB4.out)
          (first
            | (go_at_call 7; refine (HOU.out _ _ _ HED.out).mono ?_; rintro e w3 ⟨v3, rfl, hv, hp, hk⟩; have HB3 := Lib.hid (hk.heap (fun h => h) HBD.out); have HK3 := Lib.hid (HKD.out.trans hk (fun _ _ h => h)); have HE3 := Lib.hid (HED.out.no hk); have HO3 := Lib.hid hv.any; have HP3 := Lib.hid hp; clear hv hp hk)
            | (go_at_call 6; refine (HAD.out _ _ _ HO3.out HP3.out).mono ?_; rintro e w4 ⟨v4, rfl, hv, hk⟩; have HB4 := Lib.hid (hk.heap (fun h => h) HB3.out); have HK4 := Lib.hid (HK3.out.trans hk (fun _ _ h => h)); have HE4 := Lib.hid (HE3.out.no hk); have HA1 := Lib.hid hv.any; (obtain ⟨a1, q1, rfl, _⟩ := hv); clear hk)
            | fail)
        have HK := HK4
        have HE := HE4
        have HB := HB4
        clear HK4 HE4 HB4 HK3 HE3 HB3 HKD HED HBD HO3 HP3
        obtain ⟨c0, c1⟩ := cell2_29 HB.out
        go_wp2_with (first
          | (go_at_call 8; refine (HRA.out _ _ _ HE.out HPA2.out).mono ?_; rintro e w4 ⟨v4, rfl, hv, hk⟩; replace HK := Lib.hid (HK.out.trans hk (fun _ _ h => h)); replace HE := Lib.hid (HE.out.no hk); replace HB := Lib.hid (hk.heap (fun h => h) HB.out); (try replace HA1 := Lib.hid (HA1.out.no hk)); (try replace HA2 := Lib.hid (HA2.out.no hk)); (try replace HR1 := Lib.hid (HR1.out.no hk)); (try replace HR2 := Lib.hid (HR2.out.no hk)); (try replace HO := Lib.hid (HO.out.no hk)); (try replace HBK := Lib.hid (HBK.out.no hk)); (try replace HNS := Lib.hid (HNS.out.no hk)); (try replace HN1 := Lib.hid (HN1.out.no hk)); clear hk c0 c1; (obtain ⟨c0, c1⟩ := cell2_29 HB.out); have HA2 := Lib.hid hv.any; (obtain ⟨a2, q2, rfl, _⟩ := hv))
          | (go_at_call 7; refine (HOU.out _ _ _ HE.out).mono ?_; rintro e w3 ⟨v3, rfl, hv, hp, hk⟩; replace HK := Lib.hid (HK.out.trans hk (fun _ _ h => h)); replace HE := Lib.hid (HE.out.no hk); replace HB := Lib.hid (hk.heap (fun h => h) HB.out); (try replace HA1 := Lib.hid (HA1.out.no hk)); (try replace HA2 := Lib.hid (HA2.out.no hk)); (try replace HR1 := Lib.hid (HR1.out.no hk)); (try replace HR2 := Lib.hid (HR2.out.no hk)); (try replace HO := Lib.hid (HO.out.no hk)); (try replace HBK := Lib.hid (HBK.out.no hk)); (try replace HNS := Lib.hid (HNS.out.no hk)); (try replace HN1 := Lib.hid (HN1.out.no hk)); clear hk c0 c1; (obtain ⟨c0, c1⟩ := cell2_29 HB.out); (try clear HO); have HO := Lib.hid hv.any; clear hv hp)
          | (go_at_call 9; refine (HRM.out _ _ _ HO.out).mono ?_; rintro e w4 ⟨v4, rfl, hv, hk⟩; replace HK := Lib.hid (HK.out.trans hk (fun _ _ h => h)); replace HE := Lib.hid (HE.out.no hk); replace HB := Lib.hid (hk.heap (fun h => h) HB.out); (try replace HA1 := Lib.hid (HA1.out.no hk)); (try replace HA2 := Lib.hid (HA2.out.no hk)); (try replace HR1 := Lib.hid (HR1.out.no hk)); (try replace HR2 := Lib.hid (HR2.out.no hk)); (try replace HO := Lib.hid (HO.out.no hk)); (try replace HBK := Lib.hid (HBK.out.no hk)); (try replace HNS := Lib.hid (HNS.out.no hk)); (try replace HN1 := Lib.hid (HN1.out.no hk)); clear hk c0 c1; (obtain ⟨c0, c1⟩ := cell2_29 HB.out); have HR1 := Lib.hid hv.any; (obtain ⟨a3, q3, rfl, _⟩ := hv))
          | (go_at_call 10; refine (HRR.out _ _ _ HE.out).mono ?_; rintro e w4 ⟨v4, rfl, hv, hk⟩; replace HK := Lib.hid (HK.out.trans hk (fun _ _ h => h)); replace HE := Lib.hid (HE.out.no hk); replace HB := Lib.hid (hk.heap (fun h => h) HB.out); (try replace HA1 := Lib.hid (HA1.out.no hk)); (try replace HA2 := Lib.hid (HA2.out.no hk)); (try replace HR1 := Lib.hid (HR1.out.no hk)); (try replace HR2 := Lib.hid (HR2.out.no hk)); (try replace HO := Lib.hid (HO.out.no hk)); (try replace HBK := Lib.hid (HBK.out.no hk)); (try replace HNS := Lib.hid (HNS.out.no hk)); (try replace HN1 := Lib.hid (HN1.out.no hk)); clear hk c0 c1; (obtain ⟨c0, c1⟩ := cell2_29 HB.out); have HR2 := Lib.hid hv.any; (obtain ⟨a4, q4, rfl, _⟩ := hv); have MR := Lib.hid trivial)
          | (go_at_call 11; refine (HFI.out _ _ _ HO.out).mono ?_; rintro e w2 ⟨rfl, hk⟩; replace HK := Lib.hid (HK.out.trans hk (fun _ _ h => h)); replace HE := Lib.hid (HE.out.no hk); replace HB := Lib.hid (hk.heap (fun h => h) HB.out); (try replace HA1 := Lib.hid (HA1.out.no hk)); (try replace HA2 := Lib.hid (HA2.out.no hk)); (try replace HR1 := Lib.hid (HR1.out.no hk)); (try replace HR2 := Lib.hid (HR2.out.no hk)); (try replace HO := Lib.hid (HO.out.no hk)); (try replace HBK := Lib.hid (HBK.out.no hk)); (try replace HNS := Lib.hid (HNS.out.no hk)); (try replace HN1 := Lib.hid (HN1.out.no hk)); clear hk c0 c1; (obtain ⟨c0, c1⟩ := cell2_29 HB.out))
          | (go_at_call 12; refine (HFR.out _ _ _ HE.out).mono ?_; rintro e w2 ⟨rfl, hk⟩; replace HK := Lib.hid (HK.out.trans hk (fun _ _ h => h)); replace HE := Lib.hid (HE.out.no hk); replace HB := Lib.hid (hk.heap (fun h => h) HB.out); (try replace HA1 := Lib.hid (HA1.out.no hk)); (try replace HA2 := Lib.hid (HA2.out.no hk)); (try replace HR1 := Lib.hid (HR1.out.no hk)); (try replace HR2 := Lib.hid (HR2.out.no hk)); (try replace HO := Lib.hid (HO.out.no hk)); (try replace HBK := Lib.hid (HBK.out.no hk)); (try replace HNS := Lib.hid (HNS.out.no hk)); (try replace HN1 := Lib.hid (HN1.out.no hk)); clear hk c0 c1; (obtain ⟨c0, c1⟩ := cell2_29 HB.out))
          | (have hm := ML1; clear hm; go_at_call 13; refine (HLR.out _ _ _ _ _ HR1.out HR2.out).mono ?_; rintro e w2 ⟨rfl, hk⟩; replace HK := Lib.hid (HK.out.trans hk (fun _ _ h => h)); replace HE := Lib.hid (HE.out.no hk); replace HB := Lib.hid (hk.heap (fun h => h) HB.out); (try replace HA1 := Lib.hid (HA1.out.no hk)); (try replace HA2 := Lib.hid (HA2.out.no hk)); (try replace HR1 := Lib.hid (HR1.out.no hk)); (try replace HR2 := Lib.hid (HR2.out.no hk)); (try replace HO := Lib.hid (HO.out.no hk)); (try replace HBK := Lib.hid (HBK.out.no hk)); (try replace HNS := Lib.hid (HNS.out.no hk)); (try replace HN1 := Lib.hid (HN1.out.no hk)); clear hk c0 c1; (obtain ⟨c0, c1⟩ := cell2_29 HB.out); clear ML1; have ML2 := Lib.hid trivial)
          | (go_at_call 13; refine (HLA.out _ _ _ _ _ HA1.out HA2.out).mono ?_; rintro e w2 ⟨rfl, hk⟩; replace HK := Lib.hid (HK.out.trans hk (fun _ _ h => h)); replace HE := Lib.hid (HE.out.no hk); replace HB := Lib.hid (hk.heap (fun h => h) HB.out); (try replace HA1 := Lib.hid (HA1.out.no hk)); (try replace HA2 := Lib.hid (HA2.out.no hk)); (try replace HR1 := Lib.hid (HR1.out.no hk)); (try replace HR2 := Lib.hid (HR2.out.no hk)); (try replace HO := Lib.hid (HO.out.no hk)); (try replace HBK := Lib.hid (HBK.out.no hk)); (try replace HNS := Lib.hid (HNS.out.no hk)); (try replace HN1 := Lib.hid (HN1.out.no hk)); clear hk c0 c1; (obtain ⟨c0, c1⟩ := cell2_29 HB.out); have ML1 := Lib.hid trivial))
        obtain ⟨W, hW⟩ : ∃ W, W = w2 := ⟨_, rfl⟩
        subst hW
        clear HO HR1 HR2 ML2 HA2 c0 c1 HLA HLR HRA HAD HRM HRR HFI HFR
        go_loopw [19, 20] (fun o i wr => ∃ (k : Nat) (N : List (List UInt8)), k ≤ E.length ∧ i = .int .i64 k ∧ N = (E.take k).map (·.1) ∧ SOwn29 W.heap.size wr o N ∧ Kept NoB W wr) (fun _ i _ => E.length - (RowKit.intOf i).toNat)
        case atStart => exact ⟨0, [], Nat.zero_le _, rfl, rfl, World.ownsRow_nil _ _ _ _, Kept.refl _ _⟩
        case round =>
          obtain ⟨k, N, hk, rfl, hN, hown, hkk⟩ := hrel
          obtain ⟨va, vc, rfl⟩ := hown.form
          have HO := Lib.hid hown
          have HKR := Lib.hid hkk
          have hNl : N.length = k := by rw [hN, List.length_map, List.length_take]; omega
          have HNL := Lib.hid hNl
          have HN := Lib.hid hN
          have hk0 : (0 : Int) ≤ (k : Int) := by omega
          clear hown hN hNl
          by_cases hlt : k < E.length
          · have hk1 : (k : Int) < (E.length : Int) := by omega
            obtain ⟨b, o, rfl, -, -, e0, e1⟩ := (HE.out.no hkk).at_ hlt
            have hS : (E.take (k + 1)).map (·.1) = N ++ [(eth E k).1] := by rw [etake_snoc hlt, List.map_append, HN.out]; rfl
            obtain ⟨x, hx⟩ : ∃ x, x = (eth E k).1 := ⟨_, rfl⟩
            rw [← hx] at e0 hS
            have HS := Lib.hid hS
            have HLN : Hid (N.length ≤ 40) := Lib.hid (by have := HNL.out; have := HL40.out; omega)
            clear hx hS hkk e1
            go_wp2_with (at_builtin; refine wpList_append_own _ rfl (.tmp 115) (.tmp 121) 41 rfl W.heap.size 9 i0 (.string ByteArray.empty) 1 16 Tryd.underlying41 hi hz0 hz1 hz2 rfl (by decide) (.slice va N.length vc) N.length (sv29 N) rfl (World.ownsRow.alloc (w := wr) HO.out (.cells #[.string ⟨x.toArray⟩] 9)) ⟨wr.heap.size, 0, none⟩ 1 1 [.string ⟨x.toArray⟩] rfl rfl (snews_one29 wr x) (sone_fine29 x) (by have := HLN.out; unfold maxLen; omega) (by have := HLN.out; omega) (ssize_one29 wr HKR.out.size x) ?_; intro v' w2 hown2 hg2 _; have HP := Lib.hid (put_sown29 HO.out HKR.out _ hown2 hg2); clear hown2 hg2)
            exact ⟨⟨k + 1, N ++ [x], by omega, by go_num, HS.out.symm, HP.out.1, HP.out.2⟩, by simp [RowKit.intOf]; omega⟩
          · obtain rfl : k = E.length := by omega
            rw [List.take_length] at HN
            have HB := Lib.hid (hkk.heap (fun h => h) HB.out)
            obtain ⟨c0, c1⟩ := cell2_29 HB.out
            have HE := Lib.hid (HE.out.no hkk)
            have HA1 := Lib.hid (HA1.out.no hkk)
            have HK := Lib.hid (HK.out.trans hkk (fun _ _ h => h))
            obtain rfl : N = NS := by rw [HN.out, HNQ.out]
            have HNS : Hid (TSl wr (fun _ => True) (.slice va N.length vc) N) := Lib.hid HO.out.sl.any
            clear HO HN HNQ HNL
            have MR := Lib.hid trivial
            have ML2 := Lib.hid trivial
            clear hkk
            by_cases hz : ea = 0
            · have g1 : (ea != 0) = false := by rw [hz]; rfl
              have hq := (HAB.out hz).1
              rw [hq] at HRX
              clear hq hz
              go_wp2_with (first
                | (have hm := MR; clear hm; go_at_call 9; refine (HRX.out _ _ _ HA1.out).mono ?_; rintro e w4 ⟨v4, rfl, hv, hk⟩; replace HK := Lib.hid (HK.out.trans hk (fun _ _ h => h)); replace HE := Lib.hid (HE.out.no hk); replace HB := Lib.hid (hk.heap (fun h => h) HB.out); (try replace HA1 := Lib.hid (HA1.out.no hk)); (try replace HA2 := Lib.hid (HA2.out.no hk)); (try replace HR1 := Lib.hid (HR1.out.no hk)); (try replace HR2 := Lib.hid (HR2.out.no hk)); (try replace HO := Lib.hid (HO.out.no hk)); (try replace HBK := Lib.hid (HBK.out.no hk)); (try replace HNS := Lib.hid (HNS.out.no hk)); (try replace HN1 := Lib.hid (HN1.out.no hk)); clear hk c0 c1; (obtain ⟨c0, c1⟩ := cell2_29 HB.out); have HBK := Lib.hid hv.any; (obtain ⟨a5, q5, rfl, _⟩ := hv))
                | (go_at_call 7; refine (HOU.out _ _ _ HE.out).mono ?_; rintro e w3 ⟨v3, rfl, hv, hp, hk⟩; replace HK := Lib.hid (HK.out.trans hk (fun _ _ h => h)); replace HE := Lib.hid (HE.out.no hk); replace HB := Lib.hid (hk.heap (fun h => h) HB.out); (try replace HA1 := Lib.hid (HA1.out.no hk)); (try replace HA2 := Lib.hid (HA2.out.no hk)); (try replace HR1 := Lib.hid (HR1.out.no hk)); (try replace HR2 := Lib.hid (HR2.out.no hk)); (try replace HO := Lib.hid (HO.out.no hk)); (try replace HBK := Lib.hid (HBK.out.no hk)); (try replace HNS := Lib.hid (HNS.out.no hk)); (try replace HN1 := Lib.hid (HN1.out.no hk)); clear hk c0 c1; (obtain ⟨c0, c1⟩ := cell2_29 HB.out); (try clear HO); have HO := Lib.hid hv.any; clear hv hp)
                | (go_at_call 15; refine (HNA.out _ _ _ HO.out).mono ?_; rintro e w7 ⟨v7, rfl, hv, hk⟩; replace HK := Lib.hid (HK.out.trans hk (fun _ _ h => h)); replace HE := Lib.hid (HE.out.no hk); replace HB := Lib.hid (hk.heap (fun h => h) HB.out); (try replace HA1 := Lib.hid (HA1.out.no hk)); (try replace HA2 := Lib.hid (HA2.out.no hk)); (try replace HR1 := Lib.hid (HR1.out.no hk)); (try replace HR2 := Lib.hid (HR2.out.no hk)); (try replace HO := Lib.hid (HO.out.no hk)); (try replace HBK := Lib.hid (HBK.out.no hk)); (try replace HNS := Lib.hid (HNS.out.no hk)); (try replace HN1 := Lib.hid (HN1.out.no hk)); clear hk c0 c1; (obtain ⟨c0, c1⟩ := cell2_29 HB.out); have HN1 := Lib.hid hv.any; (obtain ⟨a7, q7, rfl, _⟩ := hv))
                | (go_at_call 14; refine (SameT29_any _ _ _ _ _ _ _ HN1.out HNS.out).mono ?_; rw [decide_eq_true rfl]; rintro e w2 ⟨rfl, hk⟩; replace HK := Lib.hid (HK.out.trans hk (fun _ _ h => h)); replace HE := Lib.hid (HE.out.no hk); replace HB := Lib.hid (hk.heap (fun h => h) HB.out); (try replace HA1 := Lib.hid (HA1.out.no hk)); (try replace HA2 := Lib.hid (HA2.out.no hk)); (try replace HR1 := Lib.hid (HR1.out.no hk)); (try replace HR2 := Lib.hid (HR2.out.no hk)); (try replace HO := Lib.hid (HO.out.no hk)); (try replace HBK := Lib.hid (HBK.out.no hk)); (try replace HNS := Lib.hid (HNS.out.no hk)); (try replace HN1 := Lib.hid (HN1.out.no hk)); clear hk c0 c1; (obtain ⟨c0, c1⟩ := cell2_29 HB.out))
                | (have hm := ML2; clear hm; go_at_call 13; refine (HLE.out _ _ _ _ _ HBK.out HE.out).mono ?_; rintro e w2 ⟨rfl, hk⟩; replace HK := Lib.hid (HK.out.trans hk (fun _ _ h => h)); replace HE := Lib.hid (HE.out.no hk); replace HB := Lib.hid (hk.heap (fun h => h) HB.out); (try replace HA1 := Lib.hid (HA1.out.no hk)); (try replace HA2 := Lib.hid (HA2.out.no hk)); (try replace HR1 := Lib.hid (HR1.out.no hk)); (try replace HR2 := Lib.hid (HR2.out.no hk)); (try replace HO := Lib.hid (HO.out.no hk)); (try replace HBK := Lib.hid (HBK.out.no hk)); (try replace HNS := Lib.hid (HNS.out.no hk)); (try replace HN1 := Lib.hid (HN1.out.no hk)); clear hk c0 c1; (obtain ⟨c0, c1⟩ := cell2_29 HB.out))
                | (go_at_call 5; refine (HAW.out _ (HV.out.no HK.out)).mono ?_; rintro e w2 ⟨rfl, hk⟩; replace HK := Lib.hid (HK.out.trans hk (fun _ _ h => h)); replace HE := Lib.hid (HE.out.no hk); replace HB := Lib.hid (hk.heap (fun h => h) HB.out); (try replace HA1 := Lib.hid (HA1.out.no hk)); (try replace HA2 := Lib.hid (HA2.out.no hk)); (try replace HR1 := Lib.hid (HR1.out.no hk)); (try replace HR2 := Lib.hid (HR2.out.no hk)); (try replace HO := Lib.hid (HO.out.no hk)); (try replace HBK := Lib.hid (HBK.out.no hk)); (try replace HNS := Lib.hid (HNS.out.no hk)); (try replace HN1 := Lib.hid (HN1.out.no hk)); clear hk c0 c1; (obtain ⟨c0, c1⟩ := cell2_29 HB.out)))
              go_ret
              exact ⟨rfl, HK.out⟩
            · have g1 : (ea != 0) = true := bne_iff_ne.2 hz
              obtain ⟨eb, heb⟩ : ∃ q, q = (remE n LA).1 := ⟨_, rfl⟩
              obtain ⟨LB, hLB⟩ : ∃ q, q = (remE n LA).2 := ⟨_, rfl⟩
              rw [← heb, ← hLB] at HRX
              clear heb hLB hz
              go_wp2_with (first
                | (have hm := MR; clear hm; go_at_call 9; refine (HRX.out _ _ _ HA1.out).mono ?_; rintro e w4 ⟨v4, rfl, hv, hk⟩; replace HK := Lib.hid (HK.out.trans hk (fun _ _ h => h)); replace HE := Lib.hid (HE.out.no hk); replace HB := Lib.hid (hk.heap (fun h => h) HB.out); (try replace HA1 := Lib.hid (HA1.out.no hk)); (try replace HA2 := Lib.hid (HA2.out.no hk)); (try replace HR1 := Lib.hid (HR1.out.no hk)); (try replace HR2 := Lib.hid (HR2.out.no hk)); (try replace HO := Lib.hid (HO.out.no hk)); (try replace HBK := Lib.hid (HBK.out.no hk)); (try replace HNS := Lib.hid (HNS.out.no hk)); (try replace HN1 := Lib.hid (HN1.out.no hk)); clear hk c0 c1; (obtain ⟨c0, c1⟩ := cell2_29 HB.out); have HBK := Lib.hid hv.any; (obtain ⟨a5, q5, rfl, _⟩ := hv))
                | (go_at_call 7; refine (HOU.out _ _ _ HE.out).mono ?_; rintro e w3 ⟨v3, rfl, hv, hp, hk⟩; replace HK := Lib.hid (HK.out.trans hk (fun _ _ h => h)); replace HE := Lib.hid (HE.out.no hk); replace HB := Lib.hid (hk.heap (fun h => h) HB.out); (try replace HA1 := Lib.hid (HA1.out.no hk)); (try replace HA2 := Lib.hid (HA2.out.no hk)); (try replace HR1 := Lib.hid (HR1.out.no hk)); (try replace HR2 := Lib.hid (HR2.out.no hk)); (try replace HO := Lib.hid (HO.out.no hk)); (try replace HBK := Lib.hid (HBK.out.no hk)); (try replace HNS := Lib.hid (HNS.out.no hk)); (try replace HN1 := Lib.hid (HN1.out.no hk)); clear hk c0 c1; (obtain ⟨c0, c1⟩ := cell2_29 HB.out); (try clear HO); have HO := Lib.hid hv.any; clear hv hp)
                | (go_at_call 15; refine (HNA.out _ _ _ HO.out).mono ?_; rintro e w7 ⟨v7, rfl, hv, hk⟩; replace HK := Lib.hid (HK.out.trans hk (fun _ _ h => h)); replace HE := Lib.hid (HE.out.no hk); replace HB := Lib.hid (hk.heap (fun h => h) HB.out); (try replace HA1 := Lib.hid (HA1.out.no hk)); (try replace HA2 := Lib.hid (HA2.out.no hk)); (try replace HR1 := Lib.hid (HR1.out.no hk)); (try replace HR2 := Lib.hid (HR2.out.no hk)); (try replace HO := Lib.hid (HO.out.no hk)); (try replace HBK := Lib.hid (HBK.out.no hk)); (try replace HNS := Lib.hid (HNS.out.no hk)); (try replace HN1 := Lib.hid (HN1.out.no hk)); clear hk c0 c1; (obtain ⟨c0, c1⟩ := cell2_29 HB.out); have HN1 := Lib.hid hv.any; (obtain ⟨a7, q7, rfl, _⟩ := hv))
                | (go_at_call 14; refine (SameT29_any _ _ _ _ _ _ _ HN1.out HNS.out).mono ?_; rw [decide_eq_true rfl]; rintro e w2 ⟨rfl, hk⟩; replace HK := Lib.hid (HK.out.trans hk (fun _ _ h => h)); replace HE := Lib.hid (HE.out.no hk); replace HB := Lib.hid (hk.heap (fun h => h) HB.out); (try replace HA1 := Lib.hid (HA1.out.no hk)); (try replace HA2 := Lib.hid (HA2.out.no hk)); (try replace HR1 := Lib.hid (HR1.out.no hk)); (try replace HR2 := Lib.hid (HR2.out.no hk)); (try replace HO := Lib.hid (HO.out.no hk)); (try replace HBK := Lib.hid (HBK.out.no hk)); (try replace HNS := Lib.hid (HNS.out.no hk)); (try replace HN1 := Lib.hid (HN1.out.no hk)); clear hk c0 c1; (obtain ⟨c0, c1⟩ := cell2_29 HB.out))
                | (have hm := ML2; clear hm; go_at_call 13; refine (HLE.out _ _ _ _ _ HBK.out HE.out).mono ?_; rintro e w2 ⟨rfl, hk⟩; replace HK := Lib.hid (HK.out.trans hk (fun _ _ h => h)); replace HE := Lib.hid (HE.out.no hk); replace HB := Lib.hid (hk.heap (fun h => h) HB.out); (try replace HA1 := Lib.hid (HA1.out.no hk)); (try replace HA2 := Lib.hid (HA2.out.no hk)); (try replace HR1 := Lib.hid (HR1.out.no hk)); (try replace HR2 := Lib.hid (HR2.out.no hk)); (try replace HO := Lib.hid (HO.out.no hk)); (try replace HBK := Lib.hid (HBK.out.no hk)); (try replace HNS := Lib.hid (HNS.out.no hk)); (try replace HN1 := Lib.hid (HN1.out.no hk)); clear hk c0 c1; (obtain ⟨c0, c1⟩ := cell2_29 HB.out))
                | (go_at_call 5; refine (HAW.out _ (HV.out.no HK.out)).mono ?_; rintro e w2 ⟨rfl, hk⟩; replace HK := Lib.hid (HK.out.trans hk (fun _ _ h => h)); replace HE := Lib.hid (HE.out.no hk); replace HB := Lib.hid (hk.heap (fun h => h) HB.out); (try replace HA1 := Lib.hid (HA1.out.no hk)); (try replace HA2 := Lib.hid (HA2.out.no hk)); (try replace HR1 := Lib.hid (HR1.out.no hk)); (try replace HR2 := Lib.hid (HR2.out.no hk)); (try replace HO := Lib.hid (HO.out.no hk)); (try replace HBK := Lib.hid (HBK.out.no hk)); (try replace HNS := Lib.hid (HNS.out.no hk)); (try replace HN1 := Lib.hid (HN1.out.no hk)); clear hk c0 c1; (obtain ⟨c0, c1⟩ := cell2_29 HB.out)))
              go_ret
              exact ⟨rfl, HK.out⟩
end Go.Proofs.YtokafgleejcbgaaDoor
