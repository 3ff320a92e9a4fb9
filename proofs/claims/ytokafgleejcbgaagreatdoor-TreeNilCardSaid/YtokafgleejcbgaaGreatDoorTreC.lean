/-
  Layer 31: Blocks, hasBlocks.
-/
import Derived.Test.YtokafgleejcbgaaGreatDoorTreB
namespace Go.Proofs.YtokafgleejcbgaaGreatDoor
open Go.RowKit
set_option linter.unusedVariables false
set_option maxRecDepth 100000

def ndT (x : It) : Int := nd31 (sz31 x : Int)
def c31 : Bool → Int → Int
  | true, _ => 0
  | false, n => n
/-- How many blocks the items need that are no longer left. -/
def sumL (left : Lit → Bool) (L : List It) : Int := (L.map (fun x => c31 (left (.string x.p)) (ndT x))).sum
def blkT (L : List It) : Int := (L.map ndT).sum
theorem ndT_bd {x : It} (h : x.d.length ≤ 512 ∧ x.n ≤ 32) : 0 ≤ ndT x ∧ ndT x ≤ 8 := by
  have hs : sz31 x ≤ 512 := by unfold sz31; split <;> omega
  exact ⟨(nd31_bd (by omega) (by omega)).1, nd31_le (by omega)⟩
theorem sumL_start {L : List It} : sumL (Maps.has (datT L)) L = 0 := by
  have h : ∀ x ∈ L, Maps.has (datT L) (.string x.p) = true := fun x hx => by
    rw [datT_has]
    cases h : atT L x.p with
    | some _ => rfl
    | none => unfold atT at h; rw [List.find?_eq_none] at h; exact absurd (beq_self_eq_true x.p) (h x hx)
  unfold sumL
  have : L.map (fun x => c31 (Maps.has (datT L) (.string x.p)) (ndT x)) = L.map (fun _ => 0) := List.map_congr_left (fun x hx => by rw [h x hx]; rfl)
  rw [this]
  clear h this
  induction L with
  | nil => rfl
  | cons x r ih => rw [List.map_cons, List.sum_cons, ih]; rfl
theorem sumL_end {left : Lit → Bool} (h : ∀ k, left k = false) (L : List It) : sumL left L = blkT L := by
  unfold sumL blkT
  congr 1
  exact List.map_congr_left (fun x _ => by rw [h]; rfl)
theorem sumL_step (left : Lit → Bool) {L : List It} (x0 : It) (hs : SrtT L) (hx : x0 ∈ L) (hl : left (.string x0.p) = true) : sumL (fun z => left z && !z.sameKey (.string x0.p)) L = sumL left L + ndT x0 := by
  unfold sumL
  induction L with
  | nil => cases hx
  | cons y r ih =>
    obtain ⟨h1, h2⟩ := List.pairwise_cons.1 hs
    rw [List.map_cons, List.sum_cons, List.map_cons, List.sum_cons]
    rcases List.mem_cons.1 hx with rfl | hx
    · have e : r.map (fun x => c31 (left (.string x.p) && !(Lit.string x.p).sameKey (.string x0.p)) (ndT x)) = r.map (fun x => c31 (left (.string x.p)) (ndT x)) := List.map_congr_left (fun z hz => by
        rw [same_t31, beq_eq_false_iff_ne.2 (fun e => lt31_ne (h1 z hz) e.symm), Bool.not_false, Bool.and_true])
      rw [e]
      show c31 (left (.string x0.p) && !(Lit.string x0.p).sameKey (.string x0.p)) (ndT x0) + _ = _
      rw [hl, same_t31, beq_self_eq_true]
      show ndT x0 + _ = 0 + _ + ndT x0
      omega
    · rw [ih h2 hx]
      show c31 (left (.string y.p) && !(Lit.string y.p).sameKey (.string x0.p)) (ndT y) + _ = _
      rw [same_t31, beq_eq_false_iff_ne.2 (fun e => lt31_ne (h1 x0 hx) e), Bool.not_false, Bool.and_true]
      omega
theorem sumL_bd (left : Lit → Bool) {L : List It} (h : ∀ x ∈ L, x.d.length ≤ 512 ∧ x.n ≤ 32) : 0 ≤ sumL left L ∧ sumL left L ≤ 8 * L.length := by
  unfold sumL
  induction L with
  | nil => simp
  | cons y r ih =>
    have h1 := ndT_bd (h y (by simp))
    have h2 := ih (fun x hx => h x (by simp [hx]))
    rw [List.map_cons, List.sum_cons, List.length_cons]
    have h3 : c31 (left (.string y.p)) (ndT y) = 0 ∨ c31 (left (.string y.p)) (ndT y) = ndT y := by cases left (.string y.p); exact .inr rfl; exact .inl rfl
    rcases h3 with h3 | h3 <;> rw [h3] <;> omega
theorem blkT_bd {L : List It} (h : ∀ x ∈ L, x.d.length ≤ 512 ∧ x.n ≤ 32) : 0 ≤ blkT L ∧ blkT L ≤ 8 * L.length := by
  rw [← sumL_end (left := fun _ => false) (fun _ => rfl) L]
  exact sumL_bd _ h
theorem ranges_keptT {H : Type} {P : Program} {k : TypeId} {Rf : Value → Option (DataW H × List MemPlace)} {S : Nat → Prop} {w w' : World} {b r n cnt : Nat} {D : DataW H} {left : Lit → Bool} (h : w.ranges P k Rf b r n D left cnt) (hk : Kept S w w') (hb : ¬ S b) (hr : ¬ S r) : w'.ranges P k Rf b r n D left cnt := by
  obtain ⟨es, clock, since, seen, c0, h1, h2, h3, h4, h5, h6⟩ := h
  exact ⟨es, clock, since, seen, c0, hk.heap hb h1, h2, h3, h4, hk.heap hr h5, h6⟩
/-- The item that has come. -/
theorem entry_at31 {L : List It} {x : List UInt8} {c : Value} {y : DataW Value × List MemPlace} (hv : heldT c = some y) (hat : ∀ zd, (datT L).atKey (.string x) zd = y.1) : ∃ x0 ∈ L, x0.p = x ∧ c = itv x0 := by
  unfold heldT at hv
  injection hv with hv
  subst hv
  have h0 := hat (.held (.int .i64 0))
  have h1 := hat (.held (.int .i64 1))
  rw [datT_at] at h0 h1
  cases ha : atT L x with
  | none =>
    rw [ha] at h0 h1
    have h2 := h0.trans h1.symm
    exact absurd h2 (by simp)
  | some x0 =>
    rw [ha] at h0
    obtain ⟨e1, e2⟩ := atT_key ha
    refine ⟨x0, e2, e1, ?_⟩
    injection h0 with h0
    exact h0.symm
set_option maxHeartbeats 4000000 in
theorem Blocks31_any (w : World) (g bm : Nat) (I B : Int) (L : List It) (h : TrAt w g bm I B L) :
    Calls Tryz.prog 8 #[.pointer (some ⟨g, 0, none⟩)] w fun e w' => e = .returned (.int .i64 (blkT L)) ∧ Kept NoB w w' := by
  have HH := Lib.hid h
  have hown := h.mp.2
  have HSR := Lib.hid h.mp.1
  have HBL := Lib.hid h.mp.lt
  have HLL := Lib.hid h.len
  obtain ⟨q0, q1, q2⟩ := h.cc
  clear h
  go_enter Tryz.func8, Tryz.ntmps8
  go_wp2_with (at_range; refine wpList_range_own _ rfl _ 47 rfl 9 43 keyed_str31 mapty31 _ bm L.length _ rfl hown ?_; intro w0 hrg0 hg0 hs0)
  go_frame
  have HK0 : Hid (Kept NoB w w0) := Lib.hid ((Kept.refl NoB w).grown hg0 (fun k hk => by cases hk))
  have HR0 := Lib.hid hrg0
  clear hg0 hrg0 hown q0 q1 q2
  go_loopw [3] (fun nv wr => ∃ (left : Lit → Bool) (cnt : Nat), nv = .int .i64 (sumL left L) ∧ wr.ranges Tryz.prog 9 heldT bm w.heap.size L.length (datT L) left cnt ∧ Kept NoB w wr)
    (fun _ wr => wr.rangeLeft bm w.heap.size)
  case atStart => exact ⟨_, _, by rw [sumL_start], HR0.out, HK0.out⟩
  case round =>
    obtain ⟨left, cnt, rfl, hrg, hkw⟩ := hrel
    have HKW := Lib.hid hkw
    clear hkw
    go_wp2_with (at_next; refine wpList_next_ranges _ rfl _ rfl 9 keyed_str31 heldT (Value.string) (id : Value → Value) (fun key kl hkey => by obtain ⟨x, rfl, _⟩ := WideMaps.string_of_keyOf Tryz.underlying9 hkey; exact ⟨x, rfl⟩) (fun v y hv => ⟨v, rfl⟩) bm w.heap.size L.length (datT L) left cnt rfl hrg ?_ ?_)
    · intro _ hl0
      clear hrg
      have hE := sumL_end hl0 L
      rw [hE]
      clear hE hl0
      go_wp2
      go_ret
      exact ⟨rfl, HKW.out⟩
    · intro x c kl y yp w1 cnt1 hkey hlk hv hat hrg1 hlt hg1 hs1 hen
      obtain ⟨sx, e1, rfl, _⟩ := WideMaps.string_of_keyOf Tryz.underlying9 hkey
      injection e1 with e1
      subst e1
      obtain ⟨x0, hx0, hxs, hc⟩ := entry_at31 hv hat
      have hc : c = itv x0 := hc
      subst hc
      unfold itv at hen
      have hk1 : Kept (fun k => k = w.heap.size) wr w1 := (Kept.refl _ wr).grown hg1 (fun k hk => .inl (by injection hk with hk; exact hk.symm))
      have hit : ItC w1 x0 := ((HH.out.it x0 hx0).kept HKW.out (fun h => h) (fun _ _ h => h)).kept hk1 (fun e => by have e : x0.b = w.heap.size := e; have := (HH.out.it x0 hx0).lt; omega) (fun k hG e => by have e : k = w.heap.size := e; have := (HH.out.own x0 hx0 k hG).2; omega)
      have hb := HH.out.bd x0 hx0
      have HSZ := Lib.hid (size31_any w1 x0 hit (by omega) (by omega))
      have hz : sz31 x0 ≤ 512 := by unfold sz31; split <;> omega
      have hst := sumL_step left x0 HSR.out hx0 (by rw [hxs]; exact hlk)
      have hs1' := sumL_bd left HH.out.bd
      have hnb := ndT_bd hb
      unfold ndT at hst hnb
      have HRG1 := Lib.hid hrg1
      have HLT := Lib.hid hlt
      have HRW := Lib.hid hrg.left_eq
      have HK1 := Lib.hid (HKW.out.trans hk1 (T := fun k => k = w.heap.size) (fun i hi h => by have h : i = w.heap.size := h; omega))
      rw [← hxs] at HRG1
      obtain ⟨z, hzz⟩ : ∃ z, z = sz31 x0 := ⟨_, rfl⟩
      rw [← hzz] at HSZ hz hst hnb
      have HND := Lib.hid (Need31_any (z : Int) w1 (by omega) (by omega))
      obtain ⟨nz, hnz⟩ : ∃ n, n = nd31 (z : Int) := ⟨_, rfl⟩
      rw [← hnz] at HND hst hnb
      obtain ⟨S0, hS0⟩ : ∃ s, s = sumL left L := ⟨_, rfl⟩
      rw [← hS0] at hst hs1' ⊢
      have HST := Lib.hid hst
      have hll := HLL.out
      have wv : IntKind.i64.wrap (S0 + nz) = S0 + nz := IntWalk.i64_in _ (by omega)
      unfold itv at HSZ
      clear hkey hlk hv hat hrg1 hlt hg1 hit hb hz hst hs1' hnb hzz hnz hS0 hrg hk1 hx0 hxs hll hs1
      go_wp2_with (first
        | (go_at_call 28; refine HSZ.out.mono ?_; rintro e w1 ⟨rfl, rfl⟩)
        | (go_at_call 27; refine HND.out.mono ?_; rintro e w1 ⟨rfl, rfl⟩))
      exact ⟨⟨_, cnt1, by rw [HST.out], HRG1.out, HK1.out⟩, by rw [HRG1.out.left_eq, HRW.out]; exact HLT.out⟩
end Go.Proofs.YtokafgleejcbgaaGreatDoor
