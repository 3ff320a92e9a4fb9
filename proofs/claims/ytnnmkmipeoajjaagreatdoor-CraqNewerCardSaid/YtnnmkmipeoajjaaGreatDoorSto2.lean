/-
  Package store: Trim (a range over the map of blocks, each of which is trimmed). Package store: Apply, whatever the update is; plainly, and in memory.
-/
import Derived.Test.YtnnmkmipeoajjaaGreatDoorSto1
import Derived.Maps.RangeWalk
namespace Go.Proofs.YtnnmkmipeoajjaaGreatDoor
open Go.RowKit
set_option linter.unusedVariables false
set_option linter.unusedSimpArgs false

def trmK (done : Int) (x : Ke) : Ke := ⟨x.s, x.b, x.G, trimV x.l done⟩
/-- The entries, those that are still to come as they were. -/
def trmL (done : Int) (left : Lit → Bool) (M : List Ke) : List Ke := M.map (fun x => if left (.int .u32 x.s) = true then x else trmK done x)
/-- How many versions have gone. -/
def trmS (done : Int) (left : Lit → Bool) (M : List Ke) : Nat := (M.map (fun x => if left (.int .u32 x.s) = true then 0 else trimN x.l done)).sum
def setB (s : Int) (l' : List Vn) (y : Ke) : Ke := if y.s = s then ⟨y.s, y.b, y.G, l'⟩ else y
theorem setB_s (s : Int) (l' : List Vn) (y : Ke) : (setB s l' y).s = y.s ∧ (setB s l' y).b = y.b ∧ (setB s l' y).G = y.G := by
  unfold setB; split <;> exact ⟨rfl, rfl, rfl⟩
theorem datK_map (L : List Ke) (f : Ke → Ke) (h : ∀ y, (f y).s = y.s ∧ (f y).b = y.b) : datK kev (L.map f) = datK kev L := by
  unfold datK
  rw [List.map_map]
  congr 1
  apply List.map_congr_left
  intro y _
  simp only [Function.comp, entK, kev, (h y).1, (h y).2]
theorem srtK_map {L : List Ke} (h : SrtK L) (f : Ke → Ke) (hf : ∀ y, (f y).s = y.s) : SrtK (L.map f) := by
  unfold SrtK at h ⊢
  rw [List.pairwise_map]
  exact h.imp (fun hxy => by rw [hf, hf]; exact hxy)
theorem mapK_map {w : World} {bm : Nat} {L : List Ke} (h : MapK Tryz.prog 29 kev w bm L) (f : Ke → Ke) (hf : ∀ y, (f y).s = y.s ∧ (f y).b = y.b) : MapK Tryz.prog 29 kev w bm (L.map f) := by
  refine ⟨srtK_map h.1 f (fun y => (hf y).1), ?_⟩
  rw [datK_map L f hf, List.length_map]
  exact h.2
/-- One block's versions have turned. -/
theorem StAt.trim {w w' : World} {g bm t : Nat} {en : Int} {L : List Ke} {R : List Rw} {x0 : Ke} {l' : List Vn} (h : StAt w g bm t en L R) (hx : x0 ∈ L) (hb : BkAt w' x0.b x0.G l') (hk : Kept x0.G w w') : StAt w' g bm t en (L.map (setB x0.s l')) R := by
  have ho := h.own x0 hx
  have back : ∀ y ∈ L.map (setB x0.s l'), ∃ z ∈ L, y = setB x0.s l' z := fun y hy => by obtain ⟨z, hz, rfl⟩ := List.mem_map.1 hy; exact ⟨z, hz, rfl⟩
  refine ⟨hk.heap ho.1 h.cells, mapK_map (h.mp.kept hk ho.2.1) _ (fun y => ⟨(setB_s _ _ y).1, (setB_s _ _ y).2.1⟩), h.tab.kept hk ho.2.2, h.tm, h.tg, fun y hy => ?_, fun y hy y' hy' hne k hG => ?_, fun y hy k hG => ?_, fun y hy => ?_, fun y hy => ?_, h.e0, h.e1⟩
  · obtain ⟨z, hz, rfl⟩ := back y hy
    by_cases e : z.s = x0.s
    · obtain rfl := srtK_one h.mp.1 hz hx e
      unfold setB
      rw [if_pos e]
      exact hb
    · unfold setB
      rw [if_neg e]
      exact (h.blk z hz).kept hk (fun k h1 h2 => h.apart z hz x0 hx e k h1 h2)
  · obtain ⟨z, hz, rfl⟩ := back y hy
    obtain ⟨z', hz', rfl⟩ := back y' hy'
    obtain ⟨e1, e2, e3⟩ := setB_s x0.s l' z
    obtain ⟨e1', e2', e3'⟩ := setB_s x0.s l' z'
    rw [e3] at hG
    rw [e3']
    rw [e1, e1'] at hne
    exact h.apart z hz z' hz' hne k hG
  · obtain ⟨z, hz, rfl⟩ := back y hy
    rw [(setB_s x0.s l' z).2.2] at hG
    exact Nat.lt_of_lt_of_le (h.fin z hz k hG) hk.size
  · obtain ⟨z, hz, rfl⟩ := back y hy
    rw [(setB_s x0.s l' z).2.2]
    exact h.own z hz
  · obtain ⟨z, hz, rfl⟩ := back y hy
    rw [(setB_s x0.s l' z).1]
    exact h.rng z hz
def strike (left : Lit → Bool) (s : Int) : Lit → Bool := fun z => left z && !z.sameKey (.int .u32 s)
theorem strike_at (left : Lit → Bool) (s a : Int) : strike left s (.int .u32 a) = (left (.int .u32 a) && !decide (a = s)) := by
  unfold strike
  rw [same_u32k]
theorem trmL_step {M : List Ke} (h : SrtK M) {x0 : Ke} (hx : x0 ∈ M) {left : Lit → Bool} (hl : left (.int .u32 x0.s) = true) (done : Int) : trmL done (strike left x0.s) M = (trmL done left M).map (setB x0.s (trimV x0.l done)) := by
  unfold trmL
  rw [List.map_map]
  apply List.map_congr_left
  intro y hy
  simp only [Function.comp, strike_at]
  by_cases e : y.s = x0.s
  · obtain rfl := srtK_one h hy hx e
    rw [if_pos hl, if_neg (by simp)]
    unfold setB trmK
    rw [if_pos rfl]
  · by_cases e2 : left (.int .u32 y.s) = true
    · rw [if_pos (by simp [e2, e]), if_pos e2]
      unfold setB
      rw [if_neg e]
    · rw [if_neg (by simp [e2]), if_neg e2]
      unfold setB
      rw [if_neg (show ¬ (trmK done y).s = x0.s from e)]
theorem trmS_step (done : Int) (left : Lit → Bool) (x0 : Ke) : ∀ {M : List Ke}, SrtK M → x0 ∈ M → left (.int .u32 x0.s) = true → trmS done (strike left x0.s) M = trmS done left M + trimN x0.l done := by
  have other : ∀ {M : List Ke}, (∀ y ∈ M, y.s ≠ x0.s) → trmS done (strike left x0.s) M = trmS done left M := by
    intro M hM
    unfold trmS
    congr 1
    apply List.map_congr_left
    intro y hy
    rw [strike_at]
    simp [hM y hy]
  intro M h hx hl
  induction M with
  | nil => cases hx
  | cons y M ih =>
    have hc : ∀ lf, trmS done lf (y :: M) = (if lf (.int .u32 y.s) = true then 0 else trimN y.l done) + trmS done lf M := fun lf => by unfold trmS; rw [List.map_cons, List.sum_cons]
    rw [hc, hc]
    rcases List.mem_cons.1 hx with rfl | hx
    · have hne : ∀ z ∈ M, z.s ≠ x0.s := fun z hz => by have := (List.pairwise_cons.1 h).1 z hz; omega
      rw [other hne, if_pos hl, if_neg (by rw [strike_at]; simp)]
      omega
    · have hne : y.s ≠ x0.s := by have := (List.pairwise_cons.1 h).1 x0 hx; omega
      rw [ih (List.pairwise_cons.1 h).2 hx, strike_at]
      simp only [hne, decide_false, Bool.not_false, Bool.and_true]
      omega
theorem trmS_le (done : Int) (left : Lit → Bool) {M : List Ke} (hl : ∀ x ∈ M, x.l.length ≤ 1000) : trmS done left M ≤ M.length * 1000 := by
  induction M with
  | nil => simp [trmS]
  | cons y M ih =>
    have hc : trmS done left (y :: M) = (if left (.int .u32 y.s) = true then 0 else trimN y.l done) + trmS done left M := by unfold trmS; rw [List.map_cons, List.sum_cons]
    have h1 := ih (fun x hx => hl x (List.mem_cons_of_mem _ hx))
    have h2 := hl y List.mem_cons_self
    have h3 := trimN_le y.l done
    rw [hc, List.length_cons]
    split <;> omega
theorem trm_start (done : Int) {M : List Ke} (h : SrtK M) : trmL done (Maps.has (datK kev M)) M = M ∧ trmS done (Maps.has (datK kev M)) M = 0 := by
  have hh : ∀ x ∈ M, Maps.has (datK kev M) (.int .u32 x.s) = true := fun x hx => by rw [datK_has, atK_mem h hx]; rfl
  constructor
  · unfold trmL
    conv => rhs; rw [← List.map_id M]
    apply List.map_congr_left
    intro y hy
    rw [if_pos (hh y hy)]; rfl
  · unfold trmS
    have : M.map (fun x => if Maps.has (datK kev M) (.int .u32 x.s) = true then 0 else trimN x.l done) = M.map (fun _ => 0) := List.map_congr_left (fun y hy => by rw [if_pos (hh y hy)])
    rw [this]
    clear this hh h
    induction M with
    | nil => rfl
    | cons y M ih => rw [List.map_cons, List.sum_cons, ih]
theorem trm_end (done : Int) {left : Lit → Bool} (h : ∀ kl, left kl = false) (M : List Ke) : trmL done left M = M.map (trmK done) ∧ trmS done left M = (M.map (fun x => trimN x.l done)).sum := by
  constructor
  · unfold trmL
    exact List.map_congr_left (fun y _ => by rw [h]; rfl)
  · unfold trmS
    congr 1
    exact List.map_congr_left (fun y _ => by rw [h]; rfl)
theorem ranges_keptS {H : Type} {P : Program} {k : TypeId} {Rf : Value → Option (DataW H × List MemPlace)} {S : Nat → Prop} {w w' : World} {b r n cnt : Nat} {D : DataW H} {left : Lit → Bool} (h : w.ranges P k Rf b r n D left cnt) (hk : Kept S w w') (hb : ¬ S b) (hr : ¬ S r) : w'.ranges P k Rf b r n D left cnt := by
  obtain ⟨es, clock, since, seen, c0, h1, h2, h3, h4, h5, h6⟩ := h
  exact ⟨es, clock, since, seen, c0, hk.heap hb h1, h2, h3, h4, hk.heap hr h5, h6⟩
/-- The entry that has come. -/
theorem entry_at {M : List Ke} {x : Int} {c : Value} {y : DataW Value × List MemPlace} (hv : heldK c = some y) (hat : ∀ zd, (datK kev M).atKey (.int .u32 x) zd = y.1) : ∃ x0 ∈ M, x0.s = x ∧ c = kev x0 := by
  unfold heldK at hv
  injection hv with hv
  subst hv
  have h0 := hat (.held (.int .i64 0))
  have h1 := hat (.held (.int .i64 1))
  rw [datK_at] at h0 h1
  cases ha : atK M x with
  | none =>
    rw [ha] at h0 h1
    have h2 := h0.trans h1.symm
    exact absurd h2 (by simp)
  | some x0 =>
    rw [ha] at h0
    obtain ⟨e1, e2⟩ := atK_slot ha
    refine ⟨x0, e2, e1, ?_⟩
    simpa using h0.symm
theorem stB_trm {g bm t : Nat} {done : Int} {left : Lit → Bool} {M : List Ke} {k : Nat} (h : StB g bm t (trmL done left M) k) : StB g bm t M k := by
  rcases h with h | h | h | ⟨x, hx, h⟩
  · exact .inl h
  · exact .inr (.inl h)
  · exact .inr (.inr (.inl h))
  · obtain ⟨z, hz, rfl⟩ := List.mem_map.1 hx
    refine .inr (.inr (.inr ⟨z, hz, ?_⟩))
    split at h <;> exact h
def TTrimP (w : World) (g bm t : Nat) (en : Int) (M : List Ke) (R : List Rw) (done : Int) (e : Ending) (w' : World) : Prop :=
  e = .returned (.int .i64 ((M.map (fun x => trimN x.l done)).sum : Nat)) ∧ StAt w' g bm t en (M.map (trmK done)) R ∧ Kept (StB g bm t M) w w'
set_option maxRecDepth 100000 in
set_option maxHeartbeats 1000000 in
theorem TTrim_any (w : World) (g bm t : Nat) (en : Int) (M : List Ke) (R : List Rw) (done : Int) (h : StAt w g bm t en M R) (hM : M.length ≤ 1000) (hl : ∀ x ∈ M, x.l.length ≤ 1000) :
    Calls Tryz.prog 29 #[.pointer (some ⟨g, 0, none⟩), .int .u64 done] w (TTrimP w g bm t en M R done) := by
  have HH := Lib.hid h
  have HL := Lib.hid hl
  have HMB := Lib.hid hM
  have hown := h.mp.2
  have HSR := Lib.hid h.mp.1
  have hlaw : Maps.Keyed Tryz.prog 29 := Maps.int_keyed (q := .u32) (by kernel_rfl)
  have HF := Lib.hid (show ∀ x ∈ M, ∀ k, x.G k → k < w.heap.size ∧ k ≠ bm from fun x hx k hk => ⟨h.fin x hx k hk, fun e => (h.own x hx).2.1 (e ▸ hk)⟩)
  have HBL := Lib.hid h.mp.lt
  obtain ⟨q0, q1, q2⟩ := h.c
  clear h hl hM
  go_enter Tryz.func29, Tryz.ntmps29
  go_wp2_with (at_range; refine wpList_range_own _ rfl _ 139 rfl 29 161 hlaw (by kernel_rfl) _ bm M.length _ rfl hown ?_; intro w0 hrg0 hg0 hs0)
  go_frame
  have HK0 : Hid (Kept NoB w w0) := Lib.hid ((Kept.refl NoB w).grown hg0 (fun k hk => by cases hk))
  have HR0 := Lib.hid hrg0
  clear hg0 hrg0 hown q0 q1 q2
  go_loopw [5] (fun nv wr => ∃ (left : Lit → Bool) (cnt : Nat), nv = .int .i64 (trmS done left M : Nat) ∧ wr.ranges Tryz.prog 29 heldK bm w.heap.size M.length (datK kev M) left cnt ∧ StAt wr g bm t en (trmL done left M) R ∧ Kept (StB g bm t M) w wr)
    (fun _ wr => wr.rangeLeft bm w.heap.size)
  case atStart =>
    obtain ⟨s1, s2⟩ := trm_start done HSR.out
    exact ⟨_, _, by rw [s2]; rfl, HR0.out, by rw [s1]; exact HH.out.no HK0.out, HK0.out.mono (fun _ _ h => h.elim)⟩
  case round =>
    obtain ⟨left, cnt, rfl, hrg, hst, hkw⟩ := hrel
    have HRG := Lib.hid hrg
    have HST := Lib.hid hst
    have HKW := Lib.hid hkw
    clear hst hkw
    go_wp2_with (at_next; refine wpList_next_ranges _ rfl _ rfl 29 hlaw heldK (Value.int .u32) (id : Value → Value) (fun key kl hkey => by obtain ⟨x, rfl, _⟩ := Maps.keyOf_int_inv (q := .u32) (by kernel_rfl) hkey; exact ⟨x, rfl⟩) (fun v y hv => ⟨v, rfl⟩) bm w.heap.size M.length (datK kev M) left cnt rfl hrg ?_ ?_)
    · intro _ hl0
      clear hrg
      go_wp2
      go_ret
      obtain ⟨s1, s2⟩ := trm_end done hl0 M
      have hS := HST.out
      rw [s1] at hS
      exact ⟨by rw [← s2]; rfl, hS, HKW.out⟩
    · intro x c kl y yp w1 cnt1 hkey hlk hv hat hrg1 hlt hg1 hs1 hen
      obtain ⟨x', e1, rfl, _⟩ := Maps.keyOf_int_inv (P := Tryz.prog) (k := 29) (q := .u32) (by kernel_rfl) hkey
      injection e1 with _ e1
      subst e1
      obtain ⟨x0, hx0, hxs, rfl⟩ := entry_at hv hat
      subst hxs
      unfold kev at hen
      have hmem : x0 ∈ trmL done left M := List.mem_map.2 ⟨x0, hx0, if_pos hlk⟩
      have hk1 : Kept (fun k => k = w.heap.size) wr w1 := (Kept.refl _ wr).grown hg1 (fun k hk => .inl (by injection hk with hk; exact hk.symm))
      have hst1 : StAt w1 g bm t en (trmL done left M) R := HST.out.kept hk1 (fun k hk e => by have e : k = w.heap.size := e; have := HH.out.bnd k (stB_trm hk); omega)
      have hl0 := HL.out x0 hx0
      have hv0 := Lib.hid (VTrim_any w1 x0.b x0.G x0.l done (hst1.blk x0 hmem) (by omega))
      have hs0' := trmS_le done left HL.out
      have hM' := HMB.out
      have ht0 := trimN_le x0.l done
      obtain ⟨S0, hS0⟩ : ∃ S0, S0 = trmS done left M := ⟨_, rfl⟩
      obtain ⟨T0, hT0⟩ : ∃ T0, T0 = trimN x0.l done := ⟨_, rfl⟩
      have HS := Lib.hid (trmS_step done left x0 HSR.out hx0 hlk)
      rw [← hS0, ← hT0] at HS
      rw [← hS0] at hs0' ⊢
      rw [← hT0] at ht0
      have HT0 := Lib.hid hT0
      have hsm : (S0 : Int) ≤ 1000000 := by omega
      have htm : (T0 : Int) ≤ 1000 := by omega
      have H1 := Lib.hid hst1
      have HRG1 := Lib.hid hrg1
      have HLK := Lib.hid hlk
      have HX0 := Lib.hid hx0
      have HME := Lib.hid hmem
      have HK1 := Lib.hid hk1
      have HLT := Lib.hid hlt
      have HRW := Lib.hid hrg.left_eq
      clear hS0 hT0 hkey hlk hv hat hrg1 hlt hg1 hx0 hmem hk1 hst1 hrg hs0' hM' ht0 hl0
      go_wp2_with fail
      refine hv0.out.mono ?_
      rintro e w2 ⟨rfl, hb2, hk2⟩
      rw [← HT0.out]
      have HS2 := Lib.hid (H1.out.trim HME.out hb2 hk2)
      have hf := HF.out x0 HX0.out
      have HR2 := Lib.hid (ranges_keptS HRG1.out hk2 (fun h => (hf _ h).2 rfl) (fun h => by have := (hf _ h).1; omega))
      have HKF := Lib.hid ((HKW.out.trans HK1.out (fun i hi h => by have h : i = w.heap.size := h; omega)).trans hk2 (fun i hi h => .inr (.inr (.inr ⟨x0, HX0.out, h⟩))))
      clear hb2 hk2 hf
      go_wp2
      go_roundw
      case rel =>
        refine ⟨strike left x0.s, cnt1, ?_, HR2.out, ?_, HKF.out⟩
        · rw [HS.out]; go_num
        · rw [trmL_step HSR.out HX0.out HLK.out]; exact HS2.out
      case measure => rw [HR2.out.left_eq, HRW.out]; exact HLT.out
end Go.Proofs.YtnnmkmipeoajjaaGreatDoor
namespace Go.Proofs.YtnnmkmipeoajjaaGreatDoor
open Go.RowKit
set_option linter.unusedVariables false
set_option linter.unusedSimpArgs false

/-- A store, plainly: its end, the versions of each key, how many keys there are, the rows. -/
structure Sp where
  en : Int
  l : Int → List Vn
  m : Nat
  R : List Rw
def resSp (s : Sp) (x : Up) : Int × Int × Bool := outU x (lastV (s.l x.key)).r (decide ((s.m : Int) < 192))
/-- What Apply leaves. -/
def apSp (s : Sp) (x : Up) : Sp :=
  if chkU areUs x ≠ 0 ∨ x.q ≠ s.en + 1 then s
  else if judR s.R x.c x.n ≠ 0 then { s with en := x.q }
  else if (resSp s x).2.2 = true then
    ⟨x.q, fun k => if k = x.key then s.l k ++ [⟨(resSp s x).2.1, x.q, x.d⟩] else s.l k, if s.l x.key = [] then s.m + 1 else s.m, putR s.R (rowU x (resSp s x))⟩
  else { s with en := x.q, R := putR s.R (rowU x (resSp s x)) }
/-- A store that has grown from nothing, and has not been trimmed: n updates, at most. -/
structure Gr (s : Sp) (n : Nat) : Prop where
  m : s.m ≤ n
  len : ∀ k, (s.l k).length ≤ n
  r : ∀ k j, j < (s.l k).length → (nthV (s.l k) j).r = (j : Int) + 1
  q : ∀ k, ∀ x ∈ s.l k, x.q ≤ s.en
  d : ∀ k, ∀ x ∈ s.l k, x.d.length ≤ 2048
  e0 : 0 ≤ s.en
theorem Gr.last {s : Sp} {n : Nat} (h : Gr s n) (k : Int) : (lastV (s.l k)).r = ((s.l k).length : Int) := by
  unfold lastV
  by_cases h0 : (s.l k).length = 0
  · rw [nthV_out (by omega), h0]; rfl
  · rw [h.r k _ (by omega)]; omega
theorem Gr.lastq {s : Sp} {n : Nat} (h : Gr s n) (k : Int) : (lastV (s.l k)).q ≤ s.en ∧ (lastV (s.l k)).d.length ≤ 2048 := by
  unfold lastV
  by_cases h0 : (s.l k).length = 0
  · rw [nthV_out (by omega)]; exact ⟨h.e0, by decide⟩
  · have hj : (s.l k).length - 1 < (s.l k).length := by omega
    rw [nthV_at hj]
    exact ⟨h.q k _ (List.getElem_mem hj), h.d k _ (List.getElem_mem hj)⟩
theorem Gr.up {s : Sp} {n : Nat} (h : Gr s n) : Gr s (n + 1) := ⟨by have := h.m; omega, fun k => by have := h.len k; omega, h.r, h.q, h.d, h.e0⟩
/-- What comes of an update that is executed. -/
theorem Gr.res {s : Sp} {n : Nat} (h : Gr s n) (hn : n ≤ 1000) (x : Up) : (resSp s x).2.2 = true → resSp s x = (0, ((s.l x.key).length : Int) + 1, true) := by
  unfold resSp
  rw [h.last]
  unfold outU
  have := h.len x.key
  split
  · intro h; cases h
  · split
    · intro h; cases h
    · split
      · intro h; cases h
      · intro _; rfl
theorem Gr.rng {s : Sp} {n : Nat} (h : Gr s n) (hn : n ≤ 1000) (x : Up) : 0 ≤ (resSp s x).2.1 ∧ (resSp s x).2.1 ≤ 18446744073709551615 ∧ 0 ≤ (resSp s x).1 ∧ (resSp s x).1 ≤ 255 := by
  unfold resSp
  rw [h.last]
  unfold outU
  have := h.len x.key
  split
  · refine ⟨?_, ?_, ?_, ?_⟩ <;> simp <;> omega
  · split
    · refine ⟨?_, ?_, ?_, ?_⟩ <;> simp <;> omega
    · split
      · refine ⟨?_, ?_, ?_, ?_⟩ <;> simp <;> omega
      · refine ⟨?_, ?_, ?_, ?_⟩ <;> simp <;> omega
theorem nthV_snoc (l : List Vn) (v : Vn) (j : Nat) : nthV (l ++ [v]) j = if j < l.length then nthV l j else if j = l.length then v else vn0 := by
  unfold nthV
  rw [List.getD_eq_getElem?_getD, List.getD_eq_getElem?_getD]
  by_cases h : j < l.length
  · rw [if_pos h, List.getElem?_append_left h]
  · rw [if_neg h, List.getElem?_append_right (by omega)]
    by_cases h2 : j = l.length
    · rw [if_pos h2, h2]; simp
    · rw [if_neg h2]
      have : j - l.length ≠ 0 := by omega
      rw [List.getElem?_eq_none (by simp; omega)]; rfl
theorem Gr.ap {s : Sp} {n : Nat} (h : Gr s n) (hn : n ≤ 1000) (x : Up) : Gr (apSp s x) (n + 1) := by
  unfold apSp
  split
  · exact h.up
  · rename_i hb
    have hq : x.q = s.en + 1 := Classical.not_not.1 (fun e => hb (.inr e))
    have hc : chkU areUs x = 0 := Classical.not_not.1 (fun e => hb (.inl e))
    have hf := chk0 hc
    have he := h.e0
    split
    · exact ⟨by have := h.m; show s.m ≤ n + 1; omega, fun k => by have := h.len k; show (s.l k).length ≤ n + 1; omega, h.r, fun k y hy => by have := h.q k y hy; show y.q ≤ x.q; omega, h.d, by show 0 ≤ x.q; omega⟩
    · split
      · rename_i hr
        have hres := h.res hn x hr
        refine ⟨?_, fun k => ?_, fun k j hj => ?_, fun k y hy => ?_, fun k y hy => ?_, by show 0 ≤ x.q; omega⟩
        · have := h.m
          show (if s.l x.key = [] then s.m + 1 else s.m) ≤ n + 1
          split <;> omega
        · have := h.len k
          show (if k = x.key then s.l k ++ [_] else s.l k).length ≤ n + 1
          split
          · simp; omega
          · omega
        · show (nthV (if k = x.key then s.l k ++ [⟨(resSp s x).2.1, x.q, x.d⟩] else s.l k) j).r = _
          have hj' : j < (if k = x.key then s.l k ++ [(⟨(resSp s x).2.1, x.q, x.d⟩ : Vn)] else s.l k).length := hj
          by_cases e : k = x.key
          · rw [if_pos e] at hj' ⊢
            rw [nthV_snoc]
            by_cases h1 : j < (s.l k).length
            · rw [if_pos h1]; exact h.r k j h1
            · have h2 : j = (s.l k).length := by rw [List.length_append] at hj'; simp at hj'; omega
              rw [if_neg h1, if_pos h2, hres, h2, e]
          · rw [if_neg e] at hj' ⊢
            exact h.r k j hj'
        · have hy' : y ∈ (if k = x.key then s.l k ++ [(⟨(resSp s x).2.1, x.q, x.d⟩ : Vn)] else s.l k) := hy
          show y.q ≤ x.q
          by_cases e : k = x.key
          · rw [if_pos e] at hy'
            rcases List.mem_append.1 hy' with h1 | h1
            · have := h.q k y h1; omega
            · simp only [List.mem_singleton] at h1; subst h1; exact Int.le_refl _
          · rw [if_neg e] at hy'
            have := h.q k y hy'; omega
        · have hy' : y ∈ (if k = x.key then s.l k ++ [(⟨(resSp s x).2.1, x.q, x.d⟩ : Vn)] else s.l k) := hy
          by_cases e : k = x.key
          · rw [if_pos e] at hy'
            rcases List.mem_append.1 hy' with h1 | h1
            · exact h.d k y h1
            · simp only [List.mem_singleton] at h1; subst h1; exact hf.2.2.2.2.1
          · rw [if_neg e] at hy'
            exact h.d k y hy'
      · exact ⟨by have := h.m; show s.m ≤ n + 1; omega, fun k => by have := h.len k; show (s.l k).length ≤ n + 1; omega, h.r, fun k y hy => by have := h.q k y hy; show y.q ≤ x.q; omega, h.d, by show 0 ≤ x.q; omega⟩
theorem putK_size {L : List Ke} (v : Ke) (h : SrtK L) : (putK L v).length = if atK L v.s = none then L.length + 1 else L.length := by
  induction L with
  | nil => rfl
  | cons y L ih =>
    have ih := ih (List.pairwise_cons.1 h).2
    have hlt := (List.pairwise_cons.1 h).1
    rw [atK_cons]
    unfold putK
    by_cases h1 : y.s < v.s
    · have e1 : ¬ y.s = v.s := by omega
      rw [if_pos h1, if_neg e1, List.length_cons, ih, List.length_cons]
      split <;> rfl
    · rw [if_neg h1]
      by_cases h2 : y.s = v.s
      · rw [if_pos h2, if_pos h2, if_neg (by simp)]; rfl
      · rw [if_neg h2, if_neg h2]
        have : atK L v.s = none := atK_none (fun z hz => by have := hlt z hz; omega)
        rw [if_pos this]; rfl
/-- A store in memory, in blocks of S. -/
def StS (w : World) (S : Nat → Prop) (g bm t : Nat) (s : Sp) : Prop :=
  ∃ M, StAt w g bm t s.en M s.R ∧ (∀ k, lsK M k = s.l k) ∧ M.length = s.m ∧ (∀ y ∈ M, y.l ≠ []) ∧ ∀ k, StB g bm t M k → S k
theorem StS.kept {S T : Nat → Prop} {w w' : World} {g bm t : Nat} {s : Sp} (h : StS w S g bm t s) (hk : Kept T w w') (hs : ∀ k, S k → ¬ T k) : StS w' S g bm t s := by
  obtain ⟨M, h1, h2, h3, h4, h5⟩ := h
  exact ⟨M, h1.kept hk (fun k hk2 => hs k (h5 k hk2)), h2, h3, h4, h5⟩
theorem StS.no {S : Nat → Prop} {w w' : World} {g bm t : Nat} {s : Sp} (h : StS w S g bm t s) (hk : Kept NoB w w') : StS w' S g bm t s := h.kept hk (fun _ _ h => h)
theorem ls_nil {M : List Ke} (h : ∀ y ∈ M, y.l ≠ []) (k : Int) : lsK M k = [] ↔ atK M k = none := by
  unfold lsK
  cases ha : atK M k with
  | none => simp
  | some y => simp [h y (atK_slot ha).2]
theorem ls_put (M : List Ke) (v : Ke) (k : Int) : lsK (putK M v) k = if k = v.s then v.l else lsK M k := by
  unfold lsK
  by_cases e : k = v.s
  · rw [if_pos e, e, atK_put_same]; rfl
  · rw [if_neg e, atK_put_other v e]
def TApE (w : World) (S : Nat → Prop) (g bm t : Nat) (s' : Sp) (e : Ending) (w' : World) : Prop :=
  (∃ ev, e = .returned ev) ∧ StS w' (fun k => S k ∨ (w.heap.size ≤ k ∧ k < w'.heap.size)) g bm t s' ∧ Kept S w w'
theorem TApply_any (w : World) (S : Nat → Prop) (g bm t : Nat) (s : Sp) (n : Nat) (v : Value) (x : Up) (F : Nat → Prop) (h : StS w S g bm t s) (hg : Gr s n) (hn : n ≤ 1000) (hx : UpV w F v x) (hF : ∀ k, F k → k < w.heap.size ∧ ¬ S k) (ht : Tab10 w) (hfit : FitU x) :
    Calls Tryz.prog 27 #[.pointer (some ⟨g, 0, none⟩), v] w (TApE w S g bm t (apSp s x)) := by
  obtain ⟨M, h1, h2, h3, h4, h5⟩ := h
  have hw : ∀ {w' : World} {s' : Sp} {M' : List Ke}, StAt w' g bm t s'.en M' s'.R → (∀ k, lsK M' k = s'.l k) → M'.length = s'.m → (∀ y ∈ M', y.l ≠ []) → (∀ k, StB g bm t M' k → StB g bm t M k ∨ w.heap.size ≤ k) → StS w' (fun k => S k ∨ (w.heap.size ≤ k ∧ k < w'.heap.size)) g bm t s' := by
    intro w' s' M' a1 a2 a3 a4 a5
    exact ⟨M', a1, a2, a3, a4, fun k hk => (a5 k hk).imp (h5 k) (fun h => ⟨h, a1.bnd k hk⟩)⟩
  unfold apSp
  by_cases hb : chkU areUs x ≠ 0 ∨ x.q ≠ s.en + 1
  · rw [if_pos hb]
    refine (TApply_bad w g bm t s.en M s.R v x F h1 hx (fun k hk => (hF k hk).1) ht hfit.1 hfit.2.1 hb).mono ?_
    rintro e w' ⟨rfl, hk⟩
    exact ⟨⟨_, rfl⟩, hw (h1.no hk) h2 h3 h4 (fun k hk => .inl hk), hk.mono (fun _ _ h => h.elim)⟩
  · rw [if_neg hb]
    have hq : x.q = s.en + 1 := Classical.not_not.1 (fun e => hb (.inr e))
    have hc : chkU areUs x = 0 := Classical.not_not.1 (fun e => hb (.inl e))
    have hFF : ∀ k, F k → k < w.heap.size ∧ ¬ StB g bm t M k := fun k hk => ⟨(hF k hk).1, fun h => (hF k hk).2 (h5 k h)⟩
    by_cases hj : judR s.R x.c x.n ≠ 0
    · rw [if_pos hj]
      refine (TApply_old w g bm t s.en M s.R v x F h1 hx hFF ht hfit hc hq hj).mono ?_
      rintro e w' ⟨rfl, hs, hk⟩
      exact ⟨⟨_, rfl⟩, hw (s' := { s with en := x.q }) hs h2 h3 h4 (fun k hk => .inl hk), hk.mono (fun k _ h => h5 k h)⟩
    · rw [if_neg hj]
      have hl := hg.last x.key
      have hlen := hg.len x.key
      have hlq := hg.lastq x.key
      obtain ⟨r0, r1, r2, r3⟩ := hg.rng hn x
      have hm := hg.m
      have hf := chk0 hc
      have hl2 := h2 x.key
      refine (TApply_fresh w g bm t s.en M s.R v x F h1 hx hFF ht hfit hc hq (Classical.not_not.1 hj) (by rw [hl2]; omega) (by omega) (by rw [hl2]; omega) (by rw [hl2, hl]; omega) (by rw [hl2, hl]; omega) (resSp s x) (by unfold resSp; rw [hl2, h3]) r0 r1 ⟨r2, r3⟩ (fun hr => ?_)).mono ?_
      · have hres := hg.res hn x hr
        rw [hl2, hres]
        unfold putXV
        rw [if_neg (by have := hf.2.2.2.2.1; show ¬ 2048 < x.d.length; omega), if_neg (by show ¬ (((s.l x.key).length : Int) + 1 = 0 ∨ x.q = 0); omega), if_neg]
        rintro ⟨_, h⟩
        apply h
        rw [hl]
        exact ⟨rfl, by show (lastV (s.l x.key)).q < x.q; omega⟩
      · rintro e w' ⟨rfl, hk, M', hs, hf0, hf1⟩
        by_cases hr : (resSp s x).2.2 = true
        · rw [if_pos hr]
          obtain ⟨b, G, rfl, hG⟩ := hf1 hr
          refine ⟨⟨_, rfl⟩, hw hs (fun k => ?_) ?_ (fun y hy => ?_) (fun k hk2 => ?_), hk.mono (fun k _ h => h5 k h)⟩
          · rw [ls_put]
            show (if k = x.key then _ else _) = if k = x.key then _ else _
            split
            · rename_i e; rw [e, hl2]
            · exact h2 k
          · rw [putK_size _ h1.mp.1]
            show (if atK M x.key = none then M.length + 1 else M.length) = if s.l x.key = [] then s.m + 1 else s.m
            rw [← hl2, h3]
            by_cases e : atK M x.key = none
            · rw [if_pos e, if_pos ((ls_nil h4 x.key).2 e)]
            · rw [if_neg e, if_neg (fun h => e ((ls_nil h4 x.key).1 h))]
          · rcases putK_mem hy with rfl | hy
            · simp
            · exact h4 y hy
          · rcases hk2 with h | h | h | ⟨y, hy, h⟩
            · exact .inl (.inl h)
            · exact .inl (.inr (.inl h))
            · exact .inl (.inr (.inr (.inl h)))
            · rcases putK_mem hy with rfl | hy
              · exact hG k h
              · exact .inl (.inr (.inr (.inr ⟨y, hy, h⟩)))
        · rw [if_neg hr]
          obtain rfl := hf0 (by simpa using hr)
          exact ⟨⟨_, rfl⟩, hw (s' := { s with en := x.q, R := putR s.R (rowU x (resSp s x)) }) hs h2 h3 h4 (fun k hk => .inl hk), hk.mono (fun k _ h => h5 k h)⟩
end Go.Proofs.YtnnmkmipeoajjaaGreatDoor
