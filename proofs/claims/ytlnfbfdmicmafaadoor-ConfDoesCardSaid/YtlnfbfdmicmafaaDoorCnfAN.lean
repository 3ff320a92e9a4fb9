/-
  The walk of ConfIs: lists that are few.
-/
import Derived.Test.YtlnfbfdmicmafaaDoorCnfAM
namespace Go.Proofs.YtlnfbfdmicmafaaDoor
open Go.RowKit Go.Sort Go.Lib
set_option linter.unusedVariables false
set_option linter.unusedSimpArgs false

theorem sameC_self (c : Cf) : sameC c c = true := by unfold sameC; simp
theorem copy_all9 {l : List Cf} {w w' : World} {e : Ending} (h : CopyEnd l w e w') : ∃ a cap, e = .returned (.slice a l.length cap) ∧ CfsAt w' AnyB (.slice a l.length cap) l ∧ Kept NoB w w' := by
  obtain ⟨hk, ⟨rfl, a, c, rfl, h1, h2⟩ | ⟨r, cap, us, rfl, hr, hrow, hown⟩⟩ := h
  · exact ⟨a, c, rfl, ⟨a, c, rfl, Nat.zero_le _, h1, h2, fun h => absurd h (by simp)⟩, hk⟩
  · exact ⟨_, _, rfl, (hrow.cfs hown.nodes hr).mono (fun _ _ _ => trivial), hk⟩
set_option maxRecDepth 100000 in
set_option maxHeartbeats 1000000 in
theorem ConfIs_few (v u : Value) (l : List Cf) (c : Cf) (n : Int) (w : World) (hl : CfsR w AnyB v l) (hc : CfR w AnyB u c) (ht : Tab9 w) (hf : Few l) (hg : Few [c]) : Calls Tryd.prog 3 #[v, u, .int .i64 n] w (BoolE true w) := by
  have hcn : c.ns.length ≤ 30 := hg.2 0 (by simp)
  have hcv := hc.cfV hcn
  have hls := hl.cfs hf
  obtain ⟨us, rfl, hu, h0, h1⟩ := hc
  obtain ⟨ua, uc, rfl, _⟩ := id hu
  obtain ⟨a, cap, rfl, _⟩ := id hl
  have HA := Lib.hid (fun w' (hk : Kept NoB w w') => awake9 w' (ht.kept hk))
  have HF := Lib.hid (fun w' (hk : Kept NoB w w') => few_any _ l AnyB w' (hl.kept hk (fun _ _ _ h => h)))
  have HO := Lib.hid (fun w' (hk : Kept NoB w w') b t hb => few_any _ [c] AnyB w' (cfs_one (t := t) (b := b) hb (hu.kept hk (fun _ _ _ h => h)) h0 h1))
  have HR1 := Lib.hid (fun w' (hk : Kept NoB w w') => Right_any _ c AnyB w' (hcv.kept hk (fun _ _ _ h => h)))
  have HR2 := Lib.hid (fun w' (hk : Kept NoB w w') => RRight_any _ c AnyB w' (hcv.kept hk (fun _ _ _ h => h)))
  have HA1 := Lib.hid (fun w' (hk : Kept NoB w w') => All_any _ l AnyB w' (hls.kept hk (fun _ _ _ h => h)))
  have HA2 := Lib.hid (fun w' (hk : Kept NoB w w') => RAll_any _ l AnyB w' (hls.kept hk (fun _ _ _ h => h)) (by have := hf.1; omega))
  have HS1 := Lib.hid (fun w' (hk : Kept NoB w w') => Settled_any _ c AnyB w' (hcv.kept hk (fun _ _ _ h => h)))
  have HS2 := Lib.hid (fun w' (hk : Kept NoB w w') => RSettled_any _ c AnyB w' (hcv.kept hk (fun _ _ _ h => h)))
  have HSM := Lib.hid (fun v u F G w' (hv : NSl w' F v c.set) (hu : NSl w' G u c.set) => SameN_any v u _ _ F G w' hv hu)
  have HU1 := Lib.hid (fun w' (hk : Kept NoB w w') => Used_any _ l n AnyB w' (hls.kept hk (fun _ _ _ h => h)))
  have HU2 := Lib.hid (fun w' (hk : Kept NoB w w') => RUsed_any _ l n AnyB w' (hls.kept hk (fun _ _ _ h => h)))
  have HT1 := Lib.hid (fun w' (hk : Kept NoB w w') => Text9_any _ c AnyB w' (hcv.kept hk (fun _ _ _ h => h)) (ht.kept hk))
  have HT2 := Lib.hid (fun w' (hk : Kept NoB w w') => RText9_any _ c AnyB w' (hcv.kept hk (fun _ _ _ h => h)))
  have HCP := Lib.hid (fun w' (hk : Kept NoB w w') => (Copy_any _ l w' AnyB (hls.kept hk (fun _ _ _ h => h)) (by have := hf.1; omega)).mono (fun _ _ h => copy_all9 h))
  have HSA := Lib.hid (fun v w' (hk : Kept NoB w w') (hv : CfsAt w' AnyB v l) => SameAll_any v _ l l AnyB AnyB w' hv (hls.kept hk (fun _ _ _ h => h)))
  have HSC := Lib.hid (fun w' (hk : Kept NoB w w') => Same_any _ _ c c AnyB AnyB w' (hcv.kept hk (fun _ _ _ h => h)) (hcv.kept hk (fun _ _ _ h => h)))
  have HE1 := Lib.hid (fun v d w' (hk : Kept NoB w w') (hv : CfV w' AnyB v d) => Same_any v _ d c AnyB AnyB w' hv (hcv.kept hk (fun _ _ _ h => h)))
  have HE2 := Lib.hid (fun v d w' (hk : Kept NoB w w') (hv : CfV w' AnyB v d) => RSame_any v _ d c AnyB AnyB w' hv (hcv.kept hk (fun _ _ _ h => h)))
  have HLS := Lib.hid (fun w' (hk : Kept NoB w w') => hls.kept hk (fun _ _ _ h => h))
  rw [decide_eq_true hf] at HF
  rw [decide_eq_true hg] at HO
  rw [decide_eq_true rfl] at HSM HSA
  rw [sameC_self] at HSC
  have hL6 : l.length ≤ 6 := hf.1
  clear hl hu ht hf hg h0 h1 hcv hls hcn
  obtain ⟨r, hr⟩ : ∃ r, r = rgtB c := ⟨_, rfl⟩
  obtain ⟨al, hal⟩ : ∃ r, r = allB l := ⟨_, rfl⟩
  obtain ⟨us, hus⟩ : ∃ r, r = usedB l n := ⟨_, rfl⟩
  obtain ⟨S, hS⟩ : ∃ r, r = c.set := ⟨_, rfl⟩
  obtain ⟨T, hT⟩ : ∃ r, r = textC c := ⟨_, rfl⟩
  rw [← hr] at HR1 HR2
  rw [← hal] at HA1 HA2
  rw [← hus] at HU1 HU2
  rw [← hS] at HS1 HS2 HSM
  rw [← hT] at HT1 HT2
  have HLL : Hid (∃ L : Nat, L = l.length) := Lib.hid ⟨_, rfl⟩
  obtain ⟨ch, hch⟩ : ∃ x, x = c.ch := ⟨_, rfl⟩
  obtain ⟨ep, hep⟩ : ∃ x, x = c.ep := ⟨_, rfl⟩
  obtain ⟨fr, hfr⟩ : ∃ x, x = c.fr := ⟨_, rfl⟩
  obtain ⟨jn, hjn⟩ : ∃ x, x = c.jn := ⟨_, rfl⟩
  obtain ⟨m, hm⟩ : ∃ x, x = c.ns.length := ⟨_, rfl⟩
  rw [← hch, ← hep, ← hfr, ← hjn, ← hm] at HO HR1 HR2 HS1 HS2 HT1 HT2 HSC HE1 HE2 ⊢
  clear hch hep hfr hjn hm hr hal hus hS hT HLL
  have z1 : (r != r) = false := by simp
  have z2 : (al != al) = false := by simp
  have z3 : (us != us) = false := by simp
  go_enter Tryd.func3, Tryd.ntmps3
  go_wp2_with fail
  obtain ⟨W, hW⟩ : ∃ W, W = w.alloc (.cells #[.int .i64 ch, .int .u64 ep, .slice ua m uc, .bool fr, .int .i64 jn] 26) := ⟨_, rfl⟩
  have hb : W.heap[w.heap.size]? = some (.cells #[.int .i64 ch, .int .u64 ep, .slice ua m uc, .bool fr, .int .i64 jn] 26 (0, 0)) := by rw [hW]; exact heap_alloc_new w _
  have HK : Hid (Kept NoB w W) := Lib.hid (by rw [hW]; exact (Kept.refl _ _).alloc _)
  rw [← hW]
  clear hW
  refine (HF.out _ HK.out).mono ?_
  rintro e w1 ⟨rfl, rfl⟩
  have HB := Lib.hid hb
  obtain ⟨c0, c1, c2, c3, c4⟩ := cells5 hb
  clear hb
  go_wp2_with fail
  refine (HO.out _ (HK.out.alloc _) _ _ (heap_alloc_new _ _)).mono ?_
  rintro e w1 ⟨rfl, rfl⟩
  obtain ⟨V, hV⟩ : ∃ V, V = W.alloc (.cells #[.int .i64 ch, .int .u64 ep, .slice ua m uc, .bool fr, .int .i64 jn] 26) := ⟨_, rfl⟩
  have HBV : Hid (V.heap[w.heap.size]? = some (.cells #[.int .i64 ch, .int .u64 ep, .slice ua m uc, .bool fr, .int .i64 jn] 26 (0, 0))) := Lib.hid (by rw [hV]; exact balloc HB.out _)
  have HKV : Hid (Kept NoB w V) := Lib.hid (by rw [hV]; exact HK.out.alloc _)
  rw [← hV]
  clear hV c0 c1 c2 c3 c4 HK HB HF HO
  obtain ⟨c0, c1, c2, c3, c4⟩ := cells5 HBV.out
  go_wp2_with fail
  have HKc := Lib.hid (Kept.refl NoB V)
  go_region_held3 (fun w' => w'.cell? ⟨w.heap.size, 0, none⟩ = some (.int .i64 ch) ∧ w'.cell? ⟨w.heap.size, 1, none⟩ = some (.int .u64 ep) ∧ w'.cell? ⟨w.heap.size, 2, none⟩ = some (.slice ua m uc) ∧ w'.cell? ⟨w.heap.size, 3, none⟩ = some (.bool fr) ∧ w'.cell? ⟨w.heap.size, 4, none⟩ = some (.int .i64 jn))
    (first
      | exact ⟨HKc.out.cell (p := ⟨w.heap.size, 0, none⟩) (fun h => h) c0, HKc.out.cell (p := ⟨w.heap.size, 1, none⟩) (fun h => h) c1, HKc.out.cell (p := ⟨w.heap.size, 2, none⟩) (fun h => h) c2, HKc.out.cell (p := ⟨w.heap.size, 3, none⟩) (fun h => h) c3, HKc.out.cell (p := ⟨w.heap.size, 4, none⟩) (fun h => h) c4⟩
      | exact ⟨cell_drew c0, cell_drew c1, cell_drew c2, cell_drew c3, cell_drew c4⟩
      | go_keep)
    (first
      | (go_at_call 9; refine (HR1.out _ (by first | exact HKV.out.trans HKc.out (fun _ _ h => h) | exact HKV.out.trans HKc.out.drew (fun _ _ h => h))).mono ?_; rintro e w1 ⟨rfl, hk1⟩; (first | replace HKc := Lib.hid (HKc.out.trans hk1 (fun _ _ h => h)) | replace HKc := Lib.hid (HKc.out.drew.trans hk1 (fun _ _ h => h))); clear hk1)
      | (go_at_call 10; refine (HR2.out _ (by first | exact HKV.out.trans HKc.out (fun _ _ h => h) | exact HKV.out.trans HKc.out.drew (fun _ _ h => h))).mono ?_; rintro e w1 ⟨rfl, hk1⟩; (first | replace HKc := Lib.hid (HKc.out.trans hk1 (fun _ _ h => h)) | replace HKc := Lib.hid (HKc.out.drew.trans hk1 (fun _ _ h => h))); clear hk1)
      | (go_at_call 11; refine (HA1.out _ (by first | exact HKV.out.trans HKc.out (fun _ _ h => h) | exact HKV.out.trans HKc.out.drew (fun _ _ h => h))).mono ?_; rintro e w1 ⟨rfl, hk1⟩; (first | replace HKc := Lib.hid (HKc.out.trans hk1 (fun _ _ h => h)) | replace HKc := Lib.hid (HKc.out.drew.trans hk1 (fun _ _ h => h))); clear hk1)
      | (go_at_call 12; refine (HA2.out _ (by first | exact HKV.out.trans HKc.out (fun _ _ h => h) | exact HKV.out.trans HKc.out.drew (fun _ _ h => h))).mono ?_; rintro e w1 ⟨rfl, hk1⟩; (first | replace HKc := Lib.hid (HKc.out.trans hk1 (fun _ _ h => h)) | replace HKc := Lib.hid (HKc.out.drew.trans hk1 (fun _ _ h => h))); clear hk1)
      | (go_at_call 16; refine (HU1.out _ (by first | exact HKV.out.trans HKc.out (fun _ _ h => h) | exact HKV.out.trans HKc.out.drew (fun _ _ h => h))).mono ?_; rintro e w1 ⟨rfl, hk1⟩; (first | replace HKc := Lib.hid (HKc.out.trans hk1 (fun _ _ h => h)) | replace HKc := Lib.hid (HKc.out.drew.trans hk1 (fun _ _ h => h))); clear hk1)
      | (go_at_call 17; refine (HU2.out _ (by first | exact HKV.out.trans HKc.out (fun _ _ h => h) | exact HKV.out.trans HKc.out.drew (fun _ _ h => h))).mono ?_; rintro e w1 ⟨rfl, hk1⟩; (first | replace HKc := Lib.hid (HKc.out.trans hk1 (fun _ _ h => h)) | replace HKc := Lib.hid (HKc.out.drew.trans hk1 (fun _ _ h => h))); clear hk1)
      | (go_at_call 14; refine (HS1.out _ (by first | exact HKV.out.trans HKc.out (fun _ _ h => h) | exact HKV.out.trans HKc.out.drew (fun _ _ h => h))).mono ?_; rintro e w1 ⟨v1, rfl, hn1, hk1⟩; have HN1 := Lib.hid hn1; clear hn1; (first | replace HKc := Lib.hid (HKc.out.trans hk1 (fun _ _ h => h)) | replace HKc := Lib.hid (HKc.out.drew.trans hk1 (fun _ _ h => h))); clear hk1)
      | (go_at_call 15; refine (HS2.out _ (by first | exact HKV.out.trans HKc.out (fun _ _ h => h) | exact HKV.out.trans HKc.out.drew (fun _ _ h => h))).mono ?_; rintro e w1 ⟨v2, rfl, hn2, hk1⟩; have HN2 := Lib.hid hn2; replace HN1 := Lib.hid (HN1.out.kept hk1 (fun _ _ _ h => h)); clear hn2; (first | replace HKc := Lib.hid (HKc.out.trans hk1 (fun _ _ h => h)) | replace HKc := Lib.hid (HKc.out.drew.trans hk1 (fun _ _ h => h))); clear hk1)
      | (go_at_call 13; refine (HSM.out _ _ _ _ _ HN1.out HN2.out).mono ?_; rintro e w1 ⟨rfl, hk1⟩; (first | replace HKc := Lib.hid (HKc.out.trans hk1 (fun _ _ h => h)) | replace HKc := Lib.hid (HKc.out.drew.trans hk1 (fun _ _ h => h))); clear hk1))
  all_goals
    clear c0 c1 c2 c3 c4
    have HK5 := Lib.hid (HKV.out.trans HKc.out (fun _ _ h => h))
    have HB5 := Lib.hid (HKc.out.heap (fun h => h) HBV.out)
    obtain ⟨c0, c1, c2, c3, c4⟩ := cells5 HB5.out
    clear HR1 HR2 HA1 HA2 HS1 HS2 HSM HU1 HU2 z1 z2 z3
    go_wp2_with fail
    have HKd := Lib.hid (Kept.refl NoB w1)
    go_region_held3 (fun w' => w'.cell? ⟨w.heap.size, 0, none⟩ = some (.int .i64 ch) ∧ w'.cell? ⟨w.heap.size, 1, none⟩ = some (.int .u64 ep) ∧ w'.cell? ⟨w.heap.size, 2, none⟩ = some (.slice ua m uc) ∧ w'.cell? ⟨w.heap.size, 3, none⟩ = some (.bool fr) ∧ w'.cell? ⟨w.heap.size, 4, none⟩ = some (.int .i64 jn))
      (first
        | exact ⟨HKd.out.cell (p := ⟨w.heap.size, 0, none⟩) (fun h => h) c0, HKd.out.cell (p := ⟨w.heap.size, 1, none⟩) (fun h => h) c1, HKd.out.cell (p := ⟨w.heap.size, 2, none⟩) (fun h => h) c2, HKd.out.cell (p := ⟨w.heap.size, 3, none⟩) (fun h => h) c3, HKd.out.cell (p := ⟨w.heap.size, 4, none⟩) (fun h => h) c4⟩
        | exact ⟨cell_drew c0, cell_drew c1, cell_drew c2, cell_drew c3, cell_drew c4⟩
        | go_keep)
      (first
        | (go_at_call 18; refine (HT1.out _ (by first | exact HK5.out.trans HKd.out (fun _ _ h => h) | exact HK5.out.trans HKd.out.drew (fun _ _ h => h))).mono ?_; rintro e w1 ⟨rfl, hk1⟩; (first | replace HKd := Lib.hid (HKd.out.trans hk1 (fun _ _ h => h)) | replace HKd := Lib.hid (HKd.out.drew.trans hk1 (fun _ _ h => h))); clear hk1)
        | (go_at_call 19; refine (HT2.out _ (by first | exact HK5.out.trans HKd.out (fun _ _ h => h) | exact HK5.out.trans HKd.out.drew (fun _ _ h => h))).mono ?_; rintro e w1 ⟨rfl, hk1⟩; (first | replace HKd := Lib.hid (HKd.out.trans hk1 (fun _ _ h => h)) | replace HKd := Lib.hid (HKd.out.drew.trans hk1 (fun _ _ h => h))); clear hk1)
        | (go_at_call 22; refine (HSC.out _ (by first | exact HK5.out.trans HKd.out (fun _ _ h => h) | exact HK5.out.trans HKd.out.drew (fun _ _ h => h))).mono ?_; rintro e w1 ⟨rfl, hk1⟩; (first | replace HKd := Lib.hid (HKd.out.trans hk1 (fun _ _ h => h)) | replace HKd := Lib.hid (HKd.out.drew.trans hk1 (fun _ _ h => h))); clear hk1)
        | (go_at_call 21; refine (HCP.out _ (by first | exact HK5.out.trans HKd.out (fun _ _ h => h) | exact HK5.out.trans HKd.out.drew (fun _ _ h => h))).mono ?_; rintro e w1 ⟨ya, yc, rfl, hy, hk1⟩; have HY := Lib.hid hy; clear hy; (first | replace HKd := Lib.hid (HKd.out.trans hk1 (fun _ _ h => h)) | replace HKd := Lib.hid (HKd.out.drew.trans hk1 (fun _ _ h => h))); clear hk1)
        | (go_at_call 20; refine (HSA.out _ _ (by first | exact HK5.out.trans HKd.out (fun _ _ h => h) | exact HK5.out.trans HKd.out.drew (fun _ _ h => h)) HY.out).mono ?_; rintro e w1 ⟨rfl, hk1⟩; (first | replace HKd := Lib.hid (HKd.out.trans hk1 (fun _ _ h => h)) | replace HKd := Lib.hid (HKd.out.drew.trans hk1 (fun _ _ h => h))); clear hk1))
    all_goals
      clear c0 c1 c2 c3 c4
      have HK7 := Lib.hid (HK5.out.trans HKd.out (fun _ _ h => h))
      have HB7 := Lib.hid (HKd.out.heap (fun h => h) HB5.out)
      clear HT1 HT2 HSC HCP HSA
      go_wp2_with fail
      go_loopw [7] (fun i wr => ∃ k : Nat, i = .int .i64 k ∧ k ≤ l.length ∧ Kept NoB w wr ∧ wr.heap[w.heap.size]? = some (.cells #[.int .i64 ch, .int .u64 ep, .slice ua m uc, .bool fr, .int .i64 jn] 26 (0, 0))) (fun i _ => l.length - (RowKit.intOf i).toNat)
      case atStart => exact ⟨0, rfl, Nat.zero_le _, HK7.out, HB7.out⟩
      case round =>
        obtain ⟨k, rfl, hk, hkk, hbb⟩ := hrel
        have HKR := Lib.hid hkk
        have HBR := Lib.hid hbb
        clear hkk hbb
        by_cases hlt : k < l.length
        · obtain ⟨b, o, rfl, _, _, u2, d0, d1, d2, d3, d4, hns, hbd⟩ := (HLS.out _ HKR.out).at_ hlt
          obtain ⟨xa, xc, rfl, _⟩ := id hns
          have hcv2 := cf_eta _ _ _ _ hns hbd
          have HQ1 := Lib.hid (fun w' (hk : Kept NoB wr w') => HE1.out _ _ w' (HKR.out.trans hk (fun _ _ h => h)) (hcv2.kept hk (fun _ _ _ h => h)))
          have HQ2 := Lib.hid (fun w' (hk : Kept NoB wr w') => HE2.out _ _ w' (HKR.out.trans hk (fun _ _ h => h)) (hcv2.kept hk (fun _ _ _ h => h)))
          obtain ⟨q, hq⟩ : ∃ q, q = sameC (nthC l k) c := ⟨_, rfl⟩
          obtain ⟨ch2, hch⟩ : ∃ x, x = (nthC l k).ch := ⟨_, rfl⟩
          obtain ⟨ep2, hep⟩ : ∃ x, x = (nthC l k).ep := ⟨_, rfl⟩
          obtain ⟨fr2, hfr⟩ : ∃ x, x = (nthC l k).fr := ⟨_, rfl⟩
          obtain ⟨jn2, hjn⟩ : ∃ x, x = (nthC l k).jn := ⟨_, rfl⟩
          obtain ⟨n2, hn2⟩ : ∃ x, x = (nthC l k).ns.length := ⟨_, rfl⟩
          rw [← hq, ← hch, ← hep, ← hfr, ← hjn, ← hn2] at HQ1 HQ2
          rw [← hch] at d0
          rw [← hep] at d1
          rw [← hn2] at d2
          rw [← hfr] at d3
          rw [← hjn] at d4
          clear hcv2 hns hbd hq hch hep hfr hjn hn2
          have hk1 : (k : Int) < (l.length : Int) := by omega
          have z5 : (q != q) = false := by simp
          obtain ⟨c0, c1, c2, c3, c4⟩ := cells5 HBR.out
          go_wp2_with fail
          have HKe := Lib.hid (Kept.refl NoB wr)
          go_region_held3 (fun w' => w'.cell? ⟨w.heap.size, 0, none⟩ = some (.int .i64 ch) ∧ w'.cell? ⟨w.heap.size, 1, none⟩ = some (.int .u64 ep) ∧ w'.cell? ⟨w.heap.size, 2, none⟩ = some (.slice ua m uc) ∧ w'.cell? ⟨w.heap.size, 3, none⟩ = some (.bool fr) ∧ w'.cell? ⟨w.heap.size, 4, none⟩ = some (.int .i64 jn) ∧ w'.cell? ⟨b, o + k * 5, none⟩ = some (.int .i64 ch2) ∧ w'.cell? ⟨b, o + k * 5 + 1, none⟩ = some (.int .u64 ep2) ∧ w'.cell? ⟨b, o + k * 5 + 2, none⟩ = some (.slice xa n2 xc) ∧ w'.cell? ⟨b, o + k * 5 + 3, none⟩ = some (.bool fr2) ∧ w'.cell? ⟨b, o + k * 5 + 4, none⟩ = some (.int .i64 jn2))
            (first
            | exact ⟨HKe.out.cell (p := ⟨w.heap.size, 0, none⟩) (fun h => h) c0, HKe.out.cell (p := ⟨w.heap.size, 1, none⟩) (fun h => h) c1, HKe.out.cell (p := ⟨w.heap.size, 2, none⟩) (fun h => h) c2, HKe.out.cell (p := ⟨w.heap.size, 3, none⟩) (fun h => h) c3, HKe.out.cell (p := ⟨w.heap.size, 4, none⟩) (fun h => h) c4, HKe.out.cell (p := ⟨b, o + k * 5, none⟩) (fun h => h) d0, HKe.out.cell (p := ⟨b, o + k * 5 + 1, none⟩) (fun h => h) d1, HKe.out.cell (p := ⟨b, o + k * 5 + 2, none⟩) (fun h => h) d2, HKe.out.cell (p := ⟨b, o + k * 5 + 3, none⟩) (fun h => h) d3, HKe.out.cell (p := ⟨b, o + k * 5 + 4, none⟩) (fun h => h) d4⟩
            | exact ⟨cell_drew c0, cell_drew c1, cell_drew c2, cell_drew c3, cell_drew c4, cell_drew d0, cell_drew d1, cell_drew d2, cell_drew d3, cell_drew d4⟩
            | go_keep)
            (first
            | (go_at_call 22; refine (HQ1.out _ (by first | exact HKe.out | exact HKe.out.drew)).mono ?_; rintro e w1 ⟨rfl, hk1⟩; (first | replace HKe := Lib.hid (HKe.out.trans hk1 (fun _ _ h => h)) | replace HKe := Lib.hid (HKe.out.drew.trans hk1 (fun _ _ h => h))); clear hk1)
            | (go_at_call 23; refine (HQ2.out _ (by first | exact HKe.out | exact HKe.out.drew)).mono ?_; rintro e w1 ⟨rfl, hk1⟩; (first | replace HKe := Lib.hid (HKe.out.trans hk1 (fun _ _ h => h)) | replace HKe := Lib.hid (HKe.out.drew.trans hk1 (fun _ _ h => h))); clear hk1))
          all_goals
            clear c0 c1 c2 c3 c4 d0 d1 d2 d3 d4
            go_wp2
            exact ⟨⟨k + 1, by go_num, by omega, HKR.out.trans HKe.out (fun _ _ h => h), HKe.out.heap (fun h => h) HBR.out⟩, by simp [RowKit.intOf]; omega⟩
        · obtain rfl : k = l.length := by omega
          go_wp2_with fail
          refine (HA.out _ HKR.out).mono ?_
          rintro e w9 ⟨rfl, hk9⟩
          have HK9 := Lib.hid (HKR.out.trans hk9 (fun _ _ h => h))
          clear hk9
          go_wp2
          go_ret
          exact ⟨rfl, HK9.out⟩
theorem ConfIs_any (v u : Value) (l : List Cf) (c : Cf) (n : Int) (w : World) (hl : CfsR w AnyB v l) (hc : CfR w AnyB u c) (ht : Tab9 w) : Calls Tryd.prog 3 #[v, u, .int .i64 n] w (BoolE true w) := by
  by_cases hf : Few l
  · by_cases hg : Few [c]
    · exact ConfIs_few v u l c n w hl hc ht hf hg
    · exact ConfIs_large v u l c n w hl hc ht hf hg
  · exact ConfIs_many v u l c n w hl hc ht hf
end Go.Proofs.YtlnfbfdmicmafaaDoor
