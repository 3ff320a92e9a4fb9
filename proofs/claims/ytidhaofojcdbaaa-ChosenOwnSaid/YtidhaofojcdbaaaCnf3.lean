/-
  Package conf: Copy. Package conf and its answer: who is settled; whether two are the same. Whether two lists of numbers, two configurations, two lists of them are the same. Whether two configurations, two lists of them are the same. Whether two lists of configurations are the same; what may be, of few. Package conf: the rules of the kinds; whether a command is possible. Package conf: whether a command of each kind is possible. Package conf: whether a command of each kind is possible: Append, Promote, Settle.
-/
import Derived.Test.YtidhaofojcdbaaaCnf2
import Derived.Test.YtidhaofojcdbaaaCmd1
import Derived.Laws.EntriesVeiled
namespace Go.Proofs.Ytidhaofojcdbaaa
open Go.RowKit
set_option linter.unusedVariables false

/-- Each one's nodes are a row of the call's own, each another one. -/
def OwnC (B : Nat) (w : World) (l : List Cf) (us : Nat → Value) : Prop :=
  (∀ j, j < l.length → IOwn B w (us j) (nthC l j).ns ∧ 0 ≤ (nthC l j).ep ∧ (nthC l j).ep ≤ topE ∧ (nthC l j).ns.length ≤ 1000) ∧ (∀ i j k, i < l.length → j < l.length → i ≠ j → (us i).ownBlock = some k → (us j).ownBlock ≠ some k)
theorem OwnC.nodes {B : Nat} {w : World} {l : List Cf} {us : Nat → Value} (h : OwnC B w l us) : NodesC w (fun k => B ≤ k) l us := fun j hj => ⟨((h.1 j hj).1).nslB, (h.1 j hj).2⟩
theorem OnlyB.not {g k : Nat} (h : k ≠ g) : ¬ (fun i => i = g) k := h
theorem Kept.only' {S : Nat → Prop} {a w : World} (h : Kept S a w) {g : Nat} (hg : S g ∨ a.heap.size ≤ g) (o : Nat) (u : Value) : Kept S a (w.setCell ⟨g, o, none⟩ u) := h.setCell (p := ⟨g, o, none⟩) hg u
theorem row_ne {w : World} {r cap B : Nat} {l : List Cf} {us : Nat → Value} {v : Value} {ns : List Int} (h : RowC w r cap l us) (hv : IOwn B w v ns) : v.ownBlock ≠ some r := by
  obtain ⟨cs, h1, _⟩ := h
  exact (own_ne hv h1 (by decide)).symm
theorem RowC.put {w : World} {r cap : Nat} {l : List Cf} {us : Nat → Value} (h : RowC w r cap l us) {k : Nat} (hk : k < l.length) (v : Value) : RowC (w.setCell ⟨r, k * 5 + 2, none⟩ v) r cap l (fun j => if j = k then v else us j) := by
  obtain ⟨cs, h1, h2, h3, h4, h5⟩ := h
  refine ⟨cs.setIfInBounds (k * 5 + 2) v, by simp [World.setCell, Array.getElem?_modify, h1], by simpa using h2, h3, h4, fun m hm => ?_⟩
  rw [Array.getElem?_setIfInBounds]
  by_cases e : k * 5 + 2 = m
  · subst e
    rw [if_pos rfl, if_pos (by omega), cellC2, if_pos rfl]
  · rw [if_neg e, h5 m hm]
    congr 1
    unfold cellC
    split
    · rfl
    · split
      · rfl
      · split
        · rename_i hm2
          show us (m / 5) = if m / 5 = k then v else us (m / 5)
          rw [if_neg (by omega)]
        · rfl
def CopyEnd (l : List Cf) (w : World) (e : Ending) (w' : World) : Prop :=
  Kept NoB w w' ∧ ((l = [] ∧ ∃ a c, e = .returned (.slice a 0 c) ∧ c ≤ maxLen ∧ (a = none → c = 0)) ∨ ∃ r cap us, e = .returned (.slice (some ⟨r, 0, none⟩) l.length cap) ∧ w.heap.size ≤ r ∧ RowC w' r cap l us ∧ OwnC w.heap.size w' l us)
set_option maxRecDepth 100000 in
set_option maxHeartbeats 1000000 in
theorem Copy_any (v : Value) (l : List Cf) (w : World) (F : Nat → Prop) (h : CfsAt w F v l) (hl : l.length ≤ 1000) : Calls Try.prog 76 #[v] w (CopyEnd l w) := by
  obtain ⟨a, cap, rfl, _⟩ := id h
  have HC := Lib.hid (CloneC_any _ l F w h hl)
  have H := Lib.hid h
  clear h
  go_enter Try.func76, Try.ntmps76
  go_wp2_with fail
  refine HC.out.mono ?_
  rintro e w1 ⟨hk1, ⟨rfl, a', c', rfl, hc', hn'⟩ | ⟨r, rc, us, rfl, hr, hrow, hnod⟩⟩
  · have HK1 := Lib.hid hk1
    have HX := Lib.hid hc'
    have HY := Lib.hid hn'
    clear hk1 hc' hn'
    go_wp2_with fail
    go_loopw [10] (fun i wr => i = .int .i64 0 ∧ wr = w1) (fun _ _ => 0)
    case atStart => exact ⟨rfl, rfl⟩
    case round =>
      obtain ⟨rfl, rfl⟩ := hrel
      go_wp2
      go_ret
      exact ⟨HK1.out, .inl ⟨(by simp), a', c', rfl, HX.out, HY.out⟩⟩
  · have HR := Lib.hid hrow
    have HK1 := Lib.hid hk1
    clear hk1 hrow hnod
    go_wp2_with fail
    go_loopw [4, 5, 10] (fun _ _ i wr => ∃ (k : Nat) (us : Nat → Value), i = .int .i64 k ∧ k ≤ l.length ∧ RowC wr r rc l us ∧ Kept NoB w wr ∧ (∀ j, j < k → IOwn w.heap.size wr (us j) (nthC l j).ns) ∧ (∀ i j b, i < k → j < k → i ≠ j → (us i).ownBlock = some b → (us j).ownBlock ≠ some b)) (fun _ _ i _ => l.length - (intOf i).toNat)
    case atStart => exact ⟨0, us, rfl, Nat.zero_le _, HR.out, HK1.out, fun j h => absurd h (by omega), fun i j b h => absurd h (by omega)⟩
    case round =>
      obtain ⟨k, us, rfl, hk, hrow, hkk, hown, hap⟩ := hrel
      have HRO := Lib.hid hrow
      have HK := Lib.hid hkk
      have HOW := Lib.hid hown
      have HAP := Lib.hid hap
      clear hrow hkk hown hap
      by_cases hlt : k < l.length
      · have hcs := (H.out.kept HK.out (fun _ _ _ h => h))
        obtain ⟨b, o, rfl, _, _, u, e0, e1, e2, e3, e4, hns, hep, htop, hnl⟩ := hcs.at_ hlt
        obtain ⟨ua, uc, rfl, _⟩ := id hns
        obtain ⟨y, hy⟩ : ∃ y, y = nthC l k := ⟨_, rfl⟩
        rw [← hy] at e0 e1 e2 e3 e4 hns hnl
        have HY := Lib.hid hy
        have hk1 : (k : Int) < (l.length : Int) := by omega
        have hk0 : (0 : Int) ≤ (k : Int) := by omega
        have HCL := Lib.hid (CloneN_any _ y.ns F _ (hns.kept ((Kept.refl NoB wr).alloc (.cells #[.int .i64 y.ch, .int .u64 y.ep, .slice ua y.ns.length uc, .bool y.fr, .int .i64 y.jn] 84)) (fun _ _ _ h => h)) hnl)
        clear hy hns hcs hep htop hnl
        go_wp2_with fail
        refine HCL.out.mono ?_
        rintro e w2 ⟨v', rfl, hown, hk2⟩
        have hka := ((Kept.refl NoB wr).alloc (.cells #[.int .i64 y.ch, .int .u64 y.ep, .slice ua y.ns.length uc, .bool y.fr, .int .i64 y.jn] 84)).trans hk2 (fun _ _ h => h)
        have HKA := Lib.hid hka
        have hr2 := HRO.out.kept hka (fun h => h)
        obtain ⟨hx2, hz2⟩ := hr2.cell (m := k * 5 + 2) (by omega)
        rw [cellC2] at hx2
        have HR2 := Lib.hid hr2
        have HO2 := Lib.hid hown
        have HLB : Hid (∀ b, v'.ownBlock = some b → wr.heap.size ≤ b) := Lib.hid (fun b hb => by have := (World.ownsRow.lt hown b hb).1; simp at this; omega)
        obtain ⟨va, vc, rfl⟩ := hown.form
        have hcapr : k < rc := by obtain ⟨_, _, _, hh, _⟩ := HRO.out; omega
        clear hown hk2 hka hr2
        go_wp2
        have hset : Kept (fun i => i = r) w2 (w2.setCell ⟨r, k * 5 + 2, none⟩ (.slice va y.ns.length vc)) := (Kept.refl (fun i => i = r) w2).only' (.inl rfl) _ _
        have hvr := row_ne HR2.out HO2.out
        refine ⟨⟨k + 1, fun j => if j = k then .slice va y.ns.length vc else us j, by go_num, by omega, HR2.out.put hlt _, ?_, fun j hj => ?_, fun i j bb hi hj hij => ?_⟩, by simp [intOf]; omega⟩
        · have hw := HK.out.trans HKA.out (fun _ _ h => h)
          exact hw.only' (.inr (by have := HK1.out.size; omega)) _ _
        · by_cases e : j = k
          · subst e
            simp only [if_true]
            rw [← HY.out]
            exact (row_keptI HO2.out hset (fun i hi h => hvr (h ▸ hi))).low (by have := HK.out.size; simp; omega)
          · simp only [if_neg e]
            have h1 := row_keptI (HOW.out j (by omega)) HKA.out (fun _ _ h => h)
            exact row_keptI h1 hset (fun i hi h => row_ne HR2.out h1 (h ▸ hi))
        · intro hb hb'
          simp only at hb hb'
          by_cases e : i = k
          · have e2 : j ≠ k := by omega
            rw [if_pos e] at hb
            rw [if_neg e2] at hb'
            have h1 := HLB.out bb hb
            have h2 := (World.ownsRow.lt (HOW.out j (by omega)) bb hb').2
            omega
          · rw [if_neg e] at hb
            by_cases e2 : j = k
            · rw [if_pos e2] at hb'
              have h1 := HLB.out bb hb'
              have h2 := (World.ownsRow.lt (HOW.out i (by omega)) bb hb).2
              omega
            · rw [if_neg e2] at hb'
              exact HAP.out i j bb (by omega) (by omega) hij hb hb'
      · obtain rfl : k = l.length := by omega
        go_wp2
        go_ret
        refine ⟨HK.out, .inr ⟨r, rc, us, rfl, hr, HRO.out, fun j hj => ?_, HAP.out⟩⟩
        obtain ⟨b, o, _, _, _, u, _, _, _, _, _, _, h1, h2, h3⟩ := H.out.at_ hj
        exact ⟨HOW.out j hj, h1, h2, h3⟩
end Go.Proofs.Ytidhaofojcdbaaa
namespace Go.Proofs.Ytidhaofojcdbaaa
open Go.RowKit
set_option linter.unusedVariables false

set_option maxRecDepth 100000 in
set_option maxHeartbeats 1000000 in
theorem Settled_any (v : Value) (c : Cf) (F : Nat → Prop) (w : World) (h : CfV w F v c) : Calls Try.prog 169 #[v] w (ListEnd F c.set w) := by
  obtain ⟨u, rfl, hn, _, _, hl⟩ := id h
  obtain ⟨a, cap, rfl, _⟩ := id hn
  have HR := Lib.hid (fun w' (hk : Kept NoB w w') => Right_any _ c F w' (h.kept hk (fun _ _ _ h => h)))
  have HCL := Lib.hid (fun w' (hk : Kept NoB w w') => CloneN_any _ c.ns F w' (hn.kept hk (fun _ _ _ h => h)) hl)
  have HS : Hid (c.set = if rgtB c = true then (if c.fr then c.ns.take (c.ns.length - 1) else c.ns) else []) := Lib.hid (by unfold Cf.set rgtB; simp)
  have HR4 : Hid (rgtB c = true → 1 ≤ c.ns.length) := Lib.hid (fun h => (of_decide_eq_true h : Rgt c).2.2.2.1)
  obtain ⟨r, hr⟩ : ∃ r, r = rgtB c := ⟨_, rfl⟩
  rw [← hr] at HR HS HR4
  obtain ⟨S, hS⟩ : ∃ S, S = c.set := ⟨_, rfl⟩
  rw [← hS] at HS ⊢
  obtain ⟨ch, hch⟩ : ∃ x, x = c.ch := ⟨_, rfl⟩
  obtain ⟨ep, hep⟩ : ∃ x, x = c.ep := ⟨_, rfl⟩
  obtain ⟨fr, hfr⟩ : ∃ x, x = c.fr := ⟨_, rfl⟩
  obtain ⟨jn, hjn⟩ : ∃ x, x = c.jn := ⟨_, rfl⟩
  obtain ⟨ns, hns⟩ : ∃ x, x = c.ns := ⟨_, rfl⟩
  rw [← hch, ← hep, ← hfr, ← hjn, ← hns] at HR ⊢
  rw [← hns, ← hfr] at HS
  rw [← hns] at HCL HR4 hl
  have HK0 := Lib.hid ((Kept.refl NoB w).alloc (.cells #[.int .i64 ch, .int .u64 ep, .slice a ns.length cap, .bool fr, .int .i64 jn] 84))
  have HB0 := Lib.hid (heap_alloc_new w (.cells #[.int .i64 ch, .int .u64 ep, .slice a ns.length cap, .bool fr, .int .i64 jn] 84))
  clear h hn hr hS hch hep hfr hjn hns
  cases r with
  | false =>
    have HS' : Hid (S = []) := Lib.hid (by rw [HS.out]; rfl)
    go_enter Try.func169, Try.ntmps169
    go_wp2_with fail
    refine (HR.out _ HK0.out).mono ?_
    rintro e w1 ⟨rfl, hk⟩
    have HK1 := Lib.hid (HK0.out.trans hk (fun _ _ h => h))
    clear hk
    go_wp2
    go_ret
    exact ⟨_, rfl, by rw [HS'.out]; exact NSl.nil _ _, HK1.out⟩
  | true =>
    have h1 : 1 ≤ ns.length := HR4.out rfl
    have h1i : (1 : Int) ≤ (ns.length : Int) := by omega
    cases fr with
    | false =>
      have HS' : Hid (S = ns) := Lib.hid (by rw [HS.out]; rfl)
      go_enter Try.func169, Try.ntmps169
      go_wp2_with fail
      refine (HR.out _ HK0.out).mono ?_
      rintro e w1 ⟨rfl, hk⟩
      have HK1 := Lib.hid (HK0.out.trans hk (fun _ _ h => h))
      have HB1 := Lib.hid (hk.heap (fun h => h) HB0.out)
      obtain ⟨c0, c1, c2, c3, c4⟩ := cells5 HB1.out
      clear hk
      go_wp2_with fail
      refine (HCL.out _ HK1.out).mono ?_
      rintro e w2 ⟨v', rfl, hown, hk⟩
      have HK2 := Lib.hid (HK1.out.trans hk (fun _ _ h => h))
      have HN := Lib.hid (hown.nslB.mono (G := fun k => F k ∨ w.heap.size ≤ k) (fun i _ hi => .inr (by have := HK1.out.size; have hi : w1.heap.size ≤ i := hi; omega)))
      obtain ⟨va, vc, rfl⟩ := hown.form
      have HB2 := hk.heap (fun h => h) HB1.out
      clear hk hown c0 c1 c2 c3 c4
      obtain ⟨c0, c1, c2, c3, c4⟩ := cells5 HB2
      clear HB2
      go_wp2
      go_ret
      exact ⟨_, rfl, by rw [HS'.out]; exact HN.out, HK2.out⟩
    | true =>
      have HS' : Hid (S = ns.take (ns.length - 1)) := Lib.hid (by rw [HS.out]; rfl)
      obtain ⟨m, hm⟩ : ∃ m, m = ns.length - 1 := ⟨_, rfl⟩
      rw [← hm] at HS'
      have hmi : (ns.length : Int) - 1 = (m : Int) := by omega
      have HMI := Lib.hid hmi
      have hmle : (m : Int) ≤ (ns.length : Int) := by omega
      have hm2 : m ≤ ns.length := by omega
      clear hm hmi
      go_enter Try.func169, Try.ntmps169
      go_wp2_with fail
      refine (HR.out _ HK0.out).mono ?_
      rintro e w1 ⟨rfl, hk⟩
      have HK1 := Lib.hid (HK0.out.trans hk (fun _ _ h => h))
      have HB1 := Lib.hid (hk.heap (fun h => h) HB0.out)
      obtain ⟨c0, c1, c2, c3, c4⟩ := cells5 HB1.out
      clear hk
      go_wp2_with fail
      refine (HCL.out _ HK1.out).mono ?_
      rintro e w2 ⟨v', rfl, hown, hk⟩
      have HK2 := Lib.hid (HK1.out.trans hk (fun _ _ h => h))
      have HN0 := Lib.hid (hown.nslB.mono (G := fun k => F k ∨ w.heap.size ≤ k) (fun i _ hi => .inr (by have := HK1.out.size; have hi : w1.heap.size ≤ i := hi; omega)))
      obtain ⟨va, vc, rfl⟩ := hown.form
      have HN := Lib.hid (nsl_take HN0.out (k := m) hm2)
      have hvc := HN0.out.len.2.1
      have HB2 := hk.heap (fun h => h) HB1.out
      clear hk hown c0 c1 c2 c3 c4
      obtain ⟨c0, c1, c2, c3, c4⟩ := cells5 HB2
      clear HB2
      have hmi := HMI.out
      go_wp2
      go_ret
      exact ⟨_, rfl, by rw [HS'.out]; exact HN.out, HK2.out⟩
set_option maxRecDepth 100000 in
set_option maxHeartbeats 1000000 in
theorem RSettled_any (v : Value) (c : Cf) (F : Nat → Prop) (w : World) (h : CfV w F v c) : Calls Try.prog 137 #[v] w (ListEnd F c.set w) := by
  obtain ⟨u, rfl, hn, _, _, hl⟩ := id h
  obtain ⟨a, cap, rfl, _⟩ := id hn
  have HR := Lib.hid (fun w' (hk : Kept NoB w w') => RRight_any _ c F w' (h.kept hk (fun _ _ _ h => h)))
  have HN0 := Lib.hid (fun w' (hk : Kept NoB w w') => hn.kept hk (fun _ _ _ h => h))
  have HS : Hid (c.set = if rgtB c = true then (if c.fr then c.ns.take (c.ns.length - 1) else c.ns) else []) := Lib.hid (by unfold Cf.set rgtB; simp)
  have HR4 : Hid (rgtB c = true → 1 ≤ c.ns.length) := Lib.hid (fun h => (of_decide_eq_true h : Rgt c).2.2.2.1)
  obtain ⟨r, hr⟩ : ∃ r, r = rgtB c := ⟨_, rfl⟩
  rw [← hr] at HR HS HR4
  obtain ⟨S, hS⟩ : ∃ S, S = c.set := ⟨_, rfl⟩
  rw [← hS] at HS ⊢
  obtain ⟨ch, hch⟩ : ∃ x, x = c.ch := ⟨_, rfl⟩
  obtain ⟨ep, hep⟩ : ∃ x, x = c.ep := ⟨_, rfl⟩
  obtain ⟨fr, hfr⟩ : ∃ x, x = c.fr := ⟨_, rfl⟩
  obtain ⟨jn, hjn⟩ : ∃ x, x = c.jn := ⟨_, rfl⟩
  obtain ⟨ns, hns⟩ : ∃ x, x = c.ns := ⟨_, rfl⟩
  rw [← hch, ← hep, ← hfr, ← hjn, ← hns] at HR ⊢
  rw [← hns, ← hfr] at HS
  rw [← hns] at HN0 HR4 hl
  have hcap : ns.length ≤ cap := by rw [hns]; exact hn.len.2.1
  have HK0 := Lib.hid ((Kept.refl NoB w).alloc (.cells #[.int .i64 ch, .int .u64 ep, .slice a ns.length cap, .bool fr, .int .i64 jn] 84))
  have HB0 := Lib.hid (heap_alloc_new w (.cells #[.int .i64 ch, .int .u64 ep, .slice a ns.length cap, .bool fr, .int .i64 jn] 84))
  clear h hn hr hS hch hep hfr hjn hns
  cases r with
  | false =>
    have HS' : Hid (S = []) := Lib.hid (by rw [HS.out]; rfl)
    go_enter Try.func137, Try.ntmps137
    go_wp2_with fail
    refine (HR.out _ HK0.out).mono ?_
    rintro e w1 ⟨rfl, hk⟩
    have HK1 := Lib.hid (HK0.out.trans hk (fun _ _ h => h))
    clear hk
    go_wp2
    go_ret
    exact ⟨_, rfl, by rw [HS'.out]; exact NSl.nil _ _, HK1.out⟩
  | true =>
    have h1 : 1 ≤ ns.length := HR4.out rfl
    have h1i : (1 : Int) ≤ (ns.length : Int) := by omega
    cases fr with
    | false =>
      have HS' : Hid (S = ns.take ns.length) := Lib.hid (by rw [HS.out, List.take_length]; rfl)
      have hmle : (ns.length : Int) ≤ (cap : Int) := by omega
      go_enter Try.func137, Try.ntmps137
      go_wp2_with fail
      refine (HR.out _ HK0.out).mono ?_
      rintro e w1 ⟨rfl, hk⟩
      have HK1 := Lib.hid (HK0.out.trans hk (fun _ _ h => h))
      have HB1 := Lib.hid (hk.heap (fun h => h) HB0.out)
      obtain ⟨c0, c1, c2, c3, c4⟩ := cells5 HB1.out
      clear hk
      go_wp2
      go_ret
      exact ⟨_, rfl, by rw [HS'.out]; exact (nsl_take (HN0.out _ HK1.out) (Nat.le_refl _)).mono (fun _ _ h => .inl h), HK1.out⟩
    | true =>
      have HS' : Hid (S = ns.take (ns.length - 1)) := Lib.hid (by rw [HS.out]; rfl)
      obtain ⟨m, hm⟩ : ∃ m, m = ns.length - 1 := ⟨_, rfl⟩
      rw [← hm] at HS'
      have hmi : (ns.length : Int) - 1 = (m : Int) := by omega
      have hmle : (m : Int) ≤ (cap : Int) := by omega
      have hm2 : m ≤ ns.length := by omega
      have HMI := Lib.hid hmi
      clear hm hmi
      go_enter Try.func137, Try.ntmps137
      go_wp2_with fail
      refine (HR.out _ HK0.out).mono ?_
      rintro e w1 ⟨rfl, hk⟩
      have HK1 := Lib.hid (HK0.out.trans hk (fun _ _ h => h))
      have HB1 := Lib.hid (hk.heap (fun h => h) HB0.out)
      obtain ⟨c0, c1, c2, c3, c4⟩ := cells5 HB1.out
      clear hk
      have hmi := HMI.out
      go_wp2
      go_ret
      exact ⟨_, rfl, by rw [HS'.out]; exact (nsl_take (HN0.out _ HK1.out) hm2).mono (fun _ _ h => .inl h), HK1.out⟩
end Go.Proofs.Ytidhaofojcdbaaa
namespace Go.Proofs.Ytidhaofojcdbaaa
open Go.RowKit
set_option linter.unusedVariables false

theorem eq_list {l m : List Int} (hl : l.length = m.length) (h : ∀ j, j < l.length → l.getD j 0 = m.getD j 0) : l = m := by
  refine List.ext_getElem hl fun i h1 h2 => ?_
  have := h i h1
  rw [getD_at h1, getD_at h2] at this
  exact this
set_option maxRecDepth 100000 in
theorem SameN_any (v u : Value) (l m : List Int) (F G : Nat → Prop) (w : World) (hv : NSl w F v l) (hu : NSl w G u m) :
    Calls Try.prog 74 #[v, u] w (BoolE (decide (l = m)) w) := by
  obtain ⟨a, ca, rfl, _⟩ := id hv
  obtain ⟨b, cb, rfl, _⟩ := id hu
  have h1 := len_le hv
  have h2 := len_le hu
  have HV := Lib.hid hv
  have HU := Lib.hid hu
  clear hv hu
  by_cases hl : l.length = m.length
  · have HL := Lib.hid hl
    obtain ⟨n, hn⟩ : ∃ n, n = m.length := ⟨_, rfl⟩
    have hln : l.length = n := by omega
    have HN := Lib.hid hn
    have HLN := Lib.hid hln
    rw [← hn] at h2 ⊢
    rw [hln]
    rw [← hn] at HU
    rw [hln] at HV
    clear hl hn hln
    go_enter Try.func74, Try.ntmps74
    go_wp2
    go_loopw [5] (fun i wr => ∃ k d : Nat, i = .int .i64 k ∧ k ≤ n ∧ (∀ j, j < k → l.getD j 0 = m.getD j 0) ∧ wr = w.drewN d) (fun i _ => n - (intOf i).toNat)
    case atStart => exact ⟨0, 0, rfl, Nat.zero_le _, fun j h => absurd h (by omega), rfl⟩
    case round =>
      obtain ⟨k, d, rfl, hk, hno, rfl⟩ := hrel
      have HNO := Lib.hid hno
      clear hno
      by_cases hlt : k < n
      · obtain ⟨b1, o1, rfl, _, _, hc1⟩ := HV.out.at_ (j := k) (by have := HLN.out; omega)
        obtain ⟨b2, o2, rfl, _, _, hc2⟩ := HU.out.at_ (j := k) (by have := HN.out; omega)
        obtain ⟨x, hx⟩ : ∃ x, x = l.getD k 0 := ⟨_, rfl⟩
        obtain ⟨y, hy⟩ : ∃ y, y = m.getD k 0 := ⟨_, rfl⟩
        rw [← hx] at hc1
        rw [← hy] at hc2
        have HX := Lib.hid hx
        have HY := Lib.hid hy
        have hk0 : (0 : Int) ≤ (k : Int) := by omega
        have hk1 : (k : Int) < (n : Int) := by omega
        clear hx hy
        by_cases he : x = y
        · have HE := Lib.hid he
          have heb : ((x : Int) != (y : Int)) = false := by simpa using he
          clear he
          go_wp2
          go_quiet (fail)
          go_wp2
          go_roundw
          case rel => exact ⟨k + 1, _, by go_num, by omega, fun j hj => by
            rcases Nat.lt_or_ge j k with h | h
            · exact HNO.out j h
            · obtain rfl : j = k := by omega
              rw [← HX.out, ← HY.out, HE.out], rfl⟩
          case measure => simp [intOf]; omega
        · have HE := Lib.hid he
          have heb : ((x : Int) != (y : Int)) = true := by simpa using he
          clear he
          go_wp2
          go_quiet (fail)
          go_wp2
          go_ret
          exact ⟨(by rw [decide_eq_false (fun h => HE.out (by rw [HX.out, HY.out, h]))] <;> rfl), ((Kept.refl _ _).drewN _).drewN _⟩
      · obtain rfl : k = n := by omega
        go_wp2
        go_ret
        exact ⟨(by rw [decide_eq_true (eq_list HL.out (fun j hj => HNO.out j (by rw [HLN.out] at hj; exact hj)))] <;> rfl), (Kept.refl _ _).drewN _⟩
  · have hb : ((l.length : Int) != (m.length : Int)) = true := by simp; omega
    have HE : Hid (decide (l = m) = false) := Lib.hid (decide_eq_false (fun h => hl (by rw [h])))
    clear hl
    go_enter Try.func74, Try.ntmps74
    go_wp2
    go_ret
    exact ⟨(by rw [HE.out] <;> rfl), Kept.refl _ _⟩
end Go.Proofs.Ytidhaofojcdbaaa
namespace Go.Proofs.Ytidhaofojcdbaaa
open Go.RowKit
set_option linter.unusedVariables false

theorem same_is (a b : Cf) (d : Bool) (hd : d = decide (a.ns = b.ns)) : sameC a b = (decide (a.ch = b.ch) && decide (a.ep = b.ep) && d && (a.fr == b.fr) && decide (a.jn = b.jn)) := by
  subst hd
  unfold sameC
  cases a; cases b
  rw [Bool.eq_iff_iff]
  simp [Cf.mk.injEq, and_assoc]
set_option maxRecDepth 100000 in
set_option maxHeartbeats 2000000 in
theorem RSame_any (v u : Value) (a b : Cf) (F G : Nat → Prop) (w : World) (hv : CfV w F v a) (hu : CfV w G u b) : Calls Try.prog 44 #[v, u] w (BoolE (sameC a b) w) := by
  obtain ⟨x, rfl, hn, _, _, hl⟩ := hv
  obtain ⟨y, rfl, hm, _, _, hl2⟩ := hu
  obtain ⟨xa, xc, rfl, _⟩ := id hn
  obtain ⟨ya, yc, rfl, _⟩ := id hm
  obtain ⟨d, hd⟩ : ∃ d, d = decide (a.ns = b.ns) := ⟨_, rfl⟩
  have HS := Lib.hid (same_is a b d hd)
  have HE := Lib.hid (fun w' (hk : Kept NoB w w') => hd ▸ SameN_any _ _ a.ns b.ns F G w' (hn.kept hk (fun _ _ _ h => h)) (hm.kept hk (fun _ _ _ h => h)))
  obtain ⟨s, hs⟩ : ∃ s, s = sameC a b := ⟨_, rfl⟩
  rw [← hs] at HS ⊢
  clear hn hm hd hs
  obtain ⟨ch, ep, ns, fr, jn⟩ := a
  obtain ⟨ch2, ep2, ns2, fr2, jn2⟩ := b
  simp only at HS HE hl hl2 ⊢
  by_cases e1 : ch = ch2
  rotate_left
  · have b1 : ((ch : Int) == (ch2 : Int)) = false := by simpa using e1
    have HF : Hid (s = false) := Lib.hid (by rw [HS.out, decide_eq_false e1]; simp)
    clear e1
    go_enter Try.func44, Try.ntmps44
    go_wp2
    go_ret
    exact ⟨(by rw [HF.out] <;> rfl), ((Kept.refl _ _).alloc _).alloc _⟩
  subst e1
  by_cases e2 : ep = ep2
  rotate_left
  · have b1 : ((ep : Int) == (ep2 : Int)) = false := by simpa using e2
    have HF : Hid (s = false) := Lib.hid (by rw [HS.out, decide_eq_false e2]; simp)
    clear e2
    go_enter Try.func44, Try.ntmps44
    go_wp2
    go_ret
    exact ⟨(by rw [HF.out] <;> rfl), ((Kept.refl _ _).alloc _).alloc _⟩
  subst e2
  have HK := Lib.hid (((Kept.refl NoB w).alloc (.cells #[.int .i64 ch, .int .u64 ep, .slice xa ns.length xc, .bool fr, .int .i64 jn] 84)).alloc (.cells #[.int .i64 ch, .int .u64 ep, .slice ya ns2.length yc, .bool fr2, .int .i64 jn2] 84))
  have hb := heap_alloc_new (w.alloc (.cells #[.int .i64 ch, .int .u64 ep, .slice xa ns.length xc, .bool fr, .int .i64 jn] 84)) (.cells #[.int .i64 ch, .int .u64 ep, .slice ya ns2.length yc, .bool fr2, .int .i64 jn2] 84)
  have hz : (w.alloc (.cells #[.int .i64 ch, .int .u64 ep, .slice xa ns.length xc, .bool fr, .int .i64 jn] 84)).heap.size = w.heap.size + 1 := by simp
  rw [hz] at hb
  have HB := Lib.hid hb
  have HA := Lib.hid (balloc (heap_alloc_new w (.cells #[.int .i64 ch, .int .u64 ep, .slice xa ns.length xc, .bool fr, .int .i64 jn] 84)) (.cells #[.int .i64 ch, .int .u64 ep, .slice ya ns2.length yc, .bool fr2, .int .i64 jn2] 84))
  clear hb hz
  obtain ⟨q, hq⟩ : ∃ q, q = decide (jn = jn2) := ⟨_, rfl⟩
  have HQ : Hid (s = (d && (fr == fr2) && q)) := Lib.hid (by rw [HS.out, hq]; simp)
  have b3 : ((jn : Int) == (jn2 : Int)) = q := by rw [hq]; rfl
  have b4 : ((jn2 : Int) == (jn : Int)) = q := by rw [hq, Bool.eq_iff_iff]; simp; exact ⟨fun h => h.symm, fun h => h.symm⟩
  clear hq
  cases fr <;> cases fr2 <;> cases d <;> cases q
  all_goals
    go_enter Try.func44, Try.ntmps44
    go_wp2_with (go_at_call 74; refine (HE.out _ HK.out).mono ?_; rintro e w1 ⟨rfl, hk1⟩; obtain ⟨c0, c1, c2, c3, c4⟩ := cells5 (hk1.heap (fun h => h) HA.out); obtain ⟨d0, d1, d2, d3, d4⟩ := cells5 (hk1.heap (fun h => h) HB.out); have HK1 := Lib.hid (HK.out.trans hk1 (fun _ _ h => h)); clear hk1)
    go_ret
    exact ⟨retB (by rw [HQ.out]; rfl), (by first | exact HK1.out | exact ((Kept.refl _ _).alloc _).alloc _)⟩
end Go.Proofs.Ytidhaofojcdbaaa
namespace Go.Proofs.Ytidhaofojcdbaaa
open Go.RowKit
set_option linter.unusedVariables false

set_option maxRecDepth 100000 in
set_option maxHeartbeats 1000000 in
theorem SameAll_any (v u : Value) (l m : List Cf) (F G : Nat → Prop) (w : World) (hv : CfsAt w F v l) (hu : CfsAt w G u m) : Calls Try.prog 35 #[v, u] w (BoolE (decide (l = m)) w) := by
  obtain ⟨a, ca, rfl, _⟩ := id hv
  obtain ⟨b, cb, rfl, _⟩ := id hu
  have h1 : l.length ≤ 9223372036854775807 := by have := hv.len; unfold maxLen at this; omega
  have h2 : m.length ≤ 9223372036854775807 := by have := hu.len; unfold maxLen at this; omega
  have HV := Lib.hid hv
  have HU := Lib.hid hu
  clear hv hu
  by_cases hl : l.length = m.length
  · have HL := Lib.hid hl
    obtain ⟨n, hn⟩ : ∃ n, n = m.length := ⟨_, rfl⟩
    have hln : l.length = n := by omega
    have HN := Lib.hid hn
    have HLN := Lib.hid hln
    rw [← hn] at h2 ⊢
    rw [hln]
    rw [← hn] at HU
    rw [hln] at HV
    clear hl hn hln
    go_enter Try.func35, Try.ntmps35
    go_wp2
    go_loopw [5] (fun i wr => ∃ k : Nat, i = .int .i64 k ∧ k ≤ n ∧ (∀ j, j < k → nthC l j = nthC m j) ∧ Kept NoB w wr) (fun i _ => n - (intOf i).toNat)
    case atStart => exact ⟨0, rfl, Nat.zero_le _, fun j h => absurd h (by omega), Kept.refl _ _⟩
    case round =>
      obtain ⟨k, rfl, hk, hno, hkk⟩ := hrel
      have HNO := Lib.hid hno
      have HK := Lib.hid hkk
      clear hno hkk
      by_cases hlt : k < n
      · obtain ⟨b1, o1, rfl, _, _, x, e0, e1, e2, e3, e4, hn1, hp1⟩ := (HV.out.kept HK.out (fun _ _ _ h => h)).at_ (j := k) (by have := HLN.out; omega)
        obtain ⟨b2, o2, rfl, _, _, y, f0, f1, f2, f3, f4, hn2, hp2⟩ := (HU.out.kept HK.out (fun _ _ _ h => h)).at_ (j := k) (by have := HN.out; omega)
        have hc1 := cf_eta _ _ _ _ hn1 hp1
        have hc2 := cf_eta _ _ _ _ hn2 hp2
        obtain ⟨xa, xc, rfl, _⟩ := id hn1
        obtain ⟨ya, yc, rfl, _⟩ := id hn2
        obtain ⟨s, hs⟩ : ∃ s, s = sameC (nthC l k) (nthC m k) := ⟨_, rfl⟩
        have HE : Hid (∀ w', Kept NoB wr w' → _) := Lib.hid (fun w' hk => hs ▸ RSame_any _ _ _ _ F G w' (hc1.kept hk (fun _ _ _ h => h)) (hc2.kept hk (fun _ _ _ h => h)))
        have HS := Lib.hid hs
        clear hs hc1 hc2 hn1 hn2 hp1 hp2
        obtain ⟨p, hp⟩ : ∃ p, p = nthC l k := ⟨_, rfl⟩
        obtain ⟨q, hq⟩ : ∃ q, q = nthC m k := ⟨_, rfl⟩
        rw [← hp] at e0 e1 e2 e3 e4
        rw [← hq] at f0 f1 f2 f3 f4
        rw [← hp, ← hq] at HE HS
        have HP := Lib.hid hp
        have HQ := Lib.hid hq
        clear hp hq
        have hk0 : (0 : Int) ≤ (k : Int) := by omega
        have hk1 : (k : Int) < (n : Int) := by omega
        have HKc := Lib.hid (Kept.refl NoB wr)
        go_wp2_with fail
        go_region_held3 (fun w' => w'.cell? ⟨b1, o1 + k * 5, none⟩ = some (.int .i64 p.ch) ∧ w'.cell? ⟨b1, o1 + k * 5 + 1, none⟩ = some (.int .u64 p.ep) ∧ w'.cell? ⟨b1, o1 + k * 5 + 2, none⟩ = some (.slice xa p.ns.length xc) ∧ w'.cell? ⟨b1, o1 + k * 5 + 3, none⟩ = some (.bool p.fr) ∧ w'.cell? ⟨b1, o1 + k * 5 + 4, none⟩ = some (.int .i64 p.jn) ∧
            w'.cell? ⟨b2, o2 + k * 5, none⟩ = some (.int .i64 q.ch) ∧ w'.cell? ⟨b2, o2 + k * 5 + 1, none⟩ = some (.int .u64 q.ep) ∧ w'.cell? ⟨b2, o2 + k * 5 + 2, none⟩ = some (.slice ya q.ns.length yc) ∧ w'.cell? ⟨b2, o2 + k * 5 + 3, none⟩ = some (.bool q.fr) ∧ w'.cell? ⟨b2, o2 + k * 5 + 4, none⟩ = some (.int .i64 q.jn))
          (first
            | exact ⟨cell_drew e0, cell_drew e1, cell_drew e2, cell_drew e3, cell_drew e4, cell_drew f0, cell_drew f1, cell_drew f2, cell_drew f3, cell_drew f4⟩
            | exact ⟨HKc.out.cell (p := ⟨b1, o1 + k * 5, none⟩) (fun h => h) e0, HKc.out.cell (p := ⟨b1, o1 + k * 5 + 1, none⟩) (fun h => h) e1, HKc.out.cell (p := ⟨b1, o1 + k * 5 + 2, none⟩) (fun h => h) e2, HKc.out.cell (p := ⟨b1, o1 + k * 5 + 3, none⟩) (fun h => h) e3, HKc.out.cell (p := ⟨b1, o1 + k * 5 + 4, none⟩) (fun h => h) e4, HKc.out.cell (p := ⟨b2, o2 + k * 5, none⟩) (fun h => h) f0, HKc.out.cell (p := ⟨b2, o2 + k * 5 + 1, none⟩) (fun h => h) f1, HKc.out.cell (p := ⟨b2, o2 + k * 5 + 2, none⟩) (fun h => h) f2, HKc.out.cell (p := ⟨b2, o2 + k * 5 + 3, none⟩) (fun h => h) f3, HKc.out.cell (p := ⟨b2, o2 + k * 5 + 4, none⟩) (fun h => h) f4⟩
            | go_keep)
          ((go_at_call 44; refine (HE.out _ (Kept.refl NoB wr).drew).mono ?_; rintro e w1 ⟨rfl, hk1⟩; replace HKc := Lib.hid (HKc.out.drew.trans hk1 (fun _ _ h => h)); clear hk1))
        all_goals
          have HKF := Lib.hid (HK.out.trans HKc.out (fun _ _ h => h))
          have hnot : ∀ (x : Bool) (w : World), (Op.unary .not (.bool x)).run Try.prog w = .ok (.bool (!x)) w := fun _ _ => rfl
          cases s with
          | true =>
            have hpq : p = q := by have := HS.out; unfold sameC at this; simpa using this.symm
            have HPQ := Lib.hid hpq
            clear hpq
            go_wp2
            go_roundw
            case rel => exact ⟨k + 1, by go_num, by omega, fun j hj => by
              rcases Nat.lt_or_ge j k with h | h
              · exact HNO.out j h
              · obtain rfl : j = k := by omega
                rw [← HP.out, ← HQ.out, HPQ.out], HKF.out⟩
            case measure => simp [intOf]; omega
          | false =>
            have hpq : ¬ p = q := by have := HS.out; unfold sameC at this; simpa using this.symm
            have HPQ := Lib.hid hpq
            clear hpq
            go_wp2
            go_ret
            exact ⟨(by rw [decide_eq_false (fun h => HPQ.out (by rw [HP.out, HQ.out, h]))] <;> rfl), HKF.out⟩
      · obtain rfl : k = n := by omega
        go_wp2
        go_ret
        exact ⟨(by rw [decide_eq_true (nthC_ext HL.out (fun j hj => HNO.out j (by rw [HLN.out] at hj; exact hj)))] <;> rfl), HK.out⟩
  · have hb : ((l.length : Int) != (m.length : Int)) = true := by simp; omega
    have HE : Hid (decide (l = m) = false) := Lib.hid (decide_eq_false (fun h => hl (by rw [h])))
    clear hl
    go_enter Try.func35, Try.ntmps35
    go_wp2
    go_ret
    exact ⟨(by rw [HE.out] <;> rfl), Kept.refl _ _⟩
end Go.Proofs.Ytidhaofojcdbaaa
namespace Go.Proofs.Ytidhaofojcdbaaa
open Go.RowKit
set_option linter.unusedVariables false

abbrev fnv (f : FuncId) : Value := .func (.func f) #[] #[]
def RuleEnd (f g : FuncId) (w : World) (e : Ending) (w' : World) : Prop := e = .returned (.agg #[fnv f, fnv g]) ∧ Kept NoB w w'
set_option maxRecDepth 100000 in
theorem rule1 (w : World) : Calls Try.prog 117 #[.int .i64 1] w (RuleEnd 139 140 w) := by
  go_enter Try.func117, Try.ntmps117
  go_wp2
  exact bodyPost_ret (v := .agg #[fnv 139, fnv 140]) (by simp [results, Try.results117, go_sem]) rfl ⟨rfl, ((Kept.refl _ _).alloc _).alloc _⟩
set_option maxRecDepth 100000 in
theorem rule2 (w : World) : Calls Try.prog 117 #[.int .i64 2] w (RuleEnd 141 142 w) := by
  go_enter Try.func117, Try.ntmps117
  go_wp2
  exact bodyPost_ret (v := .agg #[fnv 141, fnv 142]) (by simp [results, Try.results117, go_sem]) rfl ⟨rfl, ((Kept.refl _ _).alloc _).alloc _⟩
set_option maxRecDepth 100000 in
theorem rule3 (w : World) : Calls Try.prog 117 #[.int .i64 3] w (RuleEnd 143 144 w) := by
  go_enter Try.func117, Try.ntmps117
  go_wp2
  exact bodyPost_ret (v := .agg #[fnv 143, fnv 144]) (by simp [results, Try.results117, go_sem]) rfl ⟨rfl, ((Kept.refl _ _).alloc _).alloc _⟩
set_option maxRecDepth 100000 in
theorem rule4 (w : World) : Calls Try.prog 117 #[.int .i64 4] w (RuleEnd 145 146 w) := by
  go_enter Try.func117, Try.ntmps117
  go_wp2
  exact bodyPost_ret (v := .agg #[fnv 145, fnv 146]) (by simp [results, Try.results117, go_sem]) rfl ⟨rfl, ((Kept.refl _ _).alloc _).alloc _⟩
end Go.Proofs.Ytidhaofojcdbaaa
namespace Go.Proofs.Ytidhaofojcdbaaa
open Go.RowKit
set_option linter.unusedVariables false

def IntE (x : Int) (w : World) (e : Ending) (w' : World) : Prop := e = .returned (.int .i64 x) ∧ Kept NoB w w'
theorem ent_rem1 : Enters 170 := fun args w => by kernel_rfl
theorem Rem1_any (x n : Int) (g : Nat) (w : World) (hg : w.cell? ⟨g, 0, none⟩ = some (.int .i64 n)) : Calls Try.prog 170 #[.int .i64 x, .pointer (some ⟨g, 0, none⟩)] w (BoolE (decide (x ≠ n)) w) := by
  by_cases h : x = n
  · subst h
    go_enter Try.func170, Try.ntmps170
    go_wp2
    go_ret
    exact ⟨(by simp), Kept.refl _ _⟩
  · have hb : ((x : Int) != (n : Int)) = true := by simpa using h
    have HD : Hid (decide (x ≠ n) = true) := Lib.hid (decide_eq_true h)
    obtain ⟨d, hd⟩ : ∃ d, d = decide (x ≠ n) := ⟨_, rfl⟩
    rw [← hd] at HD ⊢
    clear h hd
    go_enter Try.func170, Try.ntmps170
    go_wp2
    go_ret
    exact ⟨(by rw [HD.out] <;> rfl), Kept.refl _ _⟩
theorem cells1 {w : World} {b : Nat} {x : Value} {t : TypeId} (h : w.heap[b]? = some (.cells #[x] t (0, 0))) : w.cell? ⟨b, 0, none⟩ = some x := cell_of_row _ _ 0 _ _ _ h
set_option maxRecDepth 100000 in
set_option maxHeartbeats 2000000 in
theorem canRemove_any (lv v : Value) (l : List Cf) (c : Cf) (nd : Int) (F : Nat → Prop) (w : World) (h : CfV w F v c) :
    Calls Try.prog 139 #[lv, v, .int .i64 nd] w (IntE (canK l c 1 nd) w) := by
  obtain ⟨u, rfl, hn, hbd⟩ := id h
  obtain ⟨a, cap, rfl, _⟩ := id hn
  have HM := Lib.hid (fun w' (hk : Kept NoB w w') => members_any _ c F w' (h.kept hk (fun _ _ _ h => h)))
  have HS := Lib.hid (fun w' (hk : Kept NoB w w') => Settled_any _ c F w' (h.kept hk (fun _ _ _ h => h)))
  obtain ⟨d, hd⟩ : ∃ d, d = decide (nd ∈ c.mem) := ⟨_, rfl⟩
  have HD := Lib.hid (fun v (F : Nat → Prop) w (h : NSl w F v c.mem) => hd ▸ Contains_any v c.mem nd F w h)
  obtain ⟨q, hq⟩ : ∃ q, q = c.set.any (fun x => decide (x ≠ nd)) := ⟨_, rfl⟩
  have HC := Lib.hid (fun v (F : Nat → Prop) (g : Nat) w (h : NSl w F v c.set) (hg : w.cell? ⟨g, 0, none⟩ = some (.int .i64 nd)) => hq ▸ ContainsN_any v c.set 170 #[.pointer (some ⟨g, 0, none⟩)] (fun x => decide (x ≠ nd)) F w h ⟨ent_rem1, fun x w' _ hk => Rem1_any x nd g w' (hk.cell (p := ⟨g, 0, none⟩) (fun h => h) hg)⟩)
  have HX : Hid (canK l c 1 nd = if d = true then (if q = true then 0 else 12) else 7) := Lib.hid (by
    unfold canK
    rw [if_pos rfl, hd, hq]
    by_cases h1 : nd ∈ c.mem
    · rw [if_neg (fun h => h h1), decide_eq_true h1, if_pos rfl]
      by_cases h2 : ∀ x ∈ c.set, x = nd
      · rw [if_pos h2, if_neg]
        intro h3
        obtain ⟨x, hx, hne⟩ := List.any_eq_true.1 h3
        have := h2 x hx
        simp at hne
        exact hne this
      · rw [if_neg h2, if_pos]
        refine List.any_eq_true.2 ?_
        refine Classical.byContradiction fun hno => h2 fun x hx => Classical.byContradiction fun hne => hno ⟨x, hx, by simpa using hne⟩
    · rw [if_pos h1, decide_eq_false h1]; rfl)
  obtain ⟨r, hr⟩ : ∃ r, r = canK l c 1 nd := ⟨_, rfl⟩
  rw [← hr] at HX ⊢
  clear h hn hbd hd hq hr
  obtain ⟨ch, hch⟩ : ∃ x, x = c.ch := ⟨_, rfl⟩
  obtain ⟨ep, hep⟩ : ∃ x, x = c.ep := ⟨_, rfl⟩
  obtain ⟨fr, hfr⟩ : ∃ x, x = c.fr := ⟨_, rfl⟩
  obtain ⟨jn, hjn⟩ : ∃ x, x = c.jn := ⟨_, rfl⟩
  obtain ⟨n, hnn⟩ : ∃ x, x = c.ns.length := ⟨_, rfl⟩
  obtain ⟨M, hM⟩ : ∃ x, x = c.mem := ⟨_, rfl⟩
  obtain ⟨T, hT⟩ : ∃ x, x = c.set := ⟨_, rfl⟩
  rw [← hch, ← hep, ← hfr, ← hjn, ← hnn] at HM HS ⊢
  rw [← hM] at HM HD
  rw [← hT] at HS HC
  clear hch hep hfr hjn hnn hM hT
  have hb0 := balloc (heap_alloc_new w (.cells #[.int .i64 ch, .int .u64 ep, .slice a n cap, .bool fr, .int .i64 jn] 84)) (.cells #[.int .i64 nd] 3)
  have hz : (w.alloc (.cells #[.int .i64 ch, .int .u64 ep, .slice a n cap, .bool fr, .int .i64 jn] 84)).heap.size = w.heap.size + 1 := by simp
  have hi0 := heap_alloc_new (w.alloc (.cells #[.int .i64 ch, .int .u64 ep, .slice a n cap, .bool fr, .int .i64 jn] 84)) (.cells #[.int .i64 nd] 3)
  rw [hz] at hi0
  have HK := Lib.hid (((Kept.refl NoB w).alloc (.cells #[.int .i64 ch, .int .u64 ep, .slice a n cap, .bool fr, .int .i64 jn] 84)).alloc (.cells #[.int .i64 nd] 3))
  clear hz
  go_enter Try.func139, Try.ntmps139
  go_wp2_with fail
  generalize (w.alloc (.cells #[.int .i64 ch, .int .u64 ep, .slice a n cap, .bool fr, .int .i64 jn] 84)).alloc (.cells #[.int .i64 nd] 3) = W at hb0 hi0 HK ⊢
  have HB := Lib.hid hb0
  have HI := Lib.hid hi0
  obtain ⟨c0, c1, c2, c3, c4⟩ := cells5 hb0
  have i0 := cells1 hi0
  clear hb0 hi0
  have HKc := Lib.hid (Kept.refl NoB W)
  go_region_held3 (fun w' => w'.cell? ⟨w.heap.size, 0, none⟩ = some (.int .i64 ch) ∧ w'.cell? ⟨w.heap.size, 1, none⟩ = some (.int .u64 ep) ∧ w'.cell? ⟨w.heap.size, 2, none⟩ = some (.slice a n cap) ∧ w'.cell? ⟨w.heap.size, 3, none⟩ = some (.bool fr) ∧ w'.cell? ⟨w.heap.size, 4, none⟩ = some (.int .i64 jn) ∧ w'.cell? ⟨w.heap.size + 1, 0, none⟩ = some (.int .i64 nd))
    (first
      | exact ⟨cell_drew c0, cell_drew c1, cell_drew c2, cell_drew c3, cell_drew c4, cell_drew i0⟩
      | exact ⟨HKc.out.cell (p := ⟨w.heap.size, 0, none⟩) (fun h => h) c0, HKc.out.cell (p := ⟨w.heap.size, 1, none⟩) (fun h => h) c1, HKc.out.cell (p := ⟨w.heap.size, 2, none⟩) (fun h => h) c2, HKc.out.cell (p := ⟨w.heap.size, 3, none⟩) (fun h => h) c3, HKc.out.cell (p := ⟨w.heap.size, 4, none⟩) (fun h => h) c4, HKc.out.cell (p := ⟨w.heap.size + 1, 0, none⟩) (fun h => h) i0⟩
      | go_keep)
    (first
      | (go_at_call 110; refine (HM.out _ HK.out.drew).mono ?_; rintro e w1 ⟨v', rfl, hn, hk1⟩; have HN := Lib.hid hn; replace HKc := Lib.hid (HKc.out.drew.trans hk1 (fun _ _ h => h)); clear hn hk1)
      | (go_at_call 128; refine (HD.out _ _ _ HN.out).mono ?_; rintro e w2 ⟨rfl, rfl⟩))
  all_goals
    have hnot : ∀ (x : Bool) (w : World), (Op.unary .not (.bool x)).run Try.prog w = .ok (.bool (!x)) w := fun _ _ => rfl
    cases d with
    | false =>
      have HX' : Hid (r = 7) := Lib.hid (by rw [HX.out]; rfl)
      have HKF := Lib.hid (HK.out.trans HKc.out (fun _ _ h => h))
      go_wp2
      go_ret
      exact ⟨(by rw [HX'.out] <;> rfl), HKF.out⟩
    | true =>
      have HKF := Lib.hid (HK.out.trans HKc.out (fun _ _ h => h))
      clear c0 c1 c2 c3 c4 i0
      obtain ⟨c0, c1, c2, c3, c4⟩ := cells5 (HKc.out.heap (fun h => h) HB.out)
      have HI2 := Lib.hid (HKc.out.heap (fun h => h) HI.out)
      go_wp2_with fail
      refine (HS.out _ HKF.out).mono ?_
      rintro e w3 ⟨v3, rfl, hn3, hk3⟩
      have HKG := Lib.hid (HKF.out.trans hk3 (fun _ _ h => h))
      have HI3 := Lib.hid (cells1 (hk3.heap (fun h => h) HI2.out))
      have HN3 := Lib.hid hn3
      clear hn3 hk3 c0 c1 c2 c3 c4
      go_wp2_with fail
      refine (HC.out _ _ _ _ HN3.out HI3.out).mono ?_
      rintro e w4 ⟨rfl, hk4⟩
      have HKH := Lib.hid (HKG.out.trans hk4 (fun _ _ h => h))
      clear hk4
      cases q with
      | false =>
        have HX' : Hid (r = 12) := Lib.hid (by rw [HX.out]; rfl)
        go_wp2
        go_ret
        exact ⟨(by rw [HX'.out] <;> rfl), HKH.out⟩
      | true =>
        have HX' : Hid (r = 0) := Lib.hid (by rw [HX.out]; rfl)
        go_wp2
        go_ret
        exact ⟨(by rw [HX'.out] <;> rfl), HKH.out⟩
end Go.Proofs.Ytidhaofojcdbaaa
namespace Go.Proofs.Ytidhaofojcdbaaa
open Go.RowKit
set_option linter.unusedVariables false

theorem k2_is (l : List Cf) (c : Cf) (nd : Int) (u : Bool) (hu : u = usedB l nd) : canK l c 2 nd = if u = true then 8 else if c.jn ≠ 0 ∨ c.fr = true then 12 else if 5 ≤ c.ns.length then 9 else 0 := by
  unfold canK; rw [if_neg (by decide), if_pos rfl, hu]
theorem k3_is (l : List Cf) (c : Cf) (nd : Int) : canK l c 3 nd = if c.jn ≠ nd then 7 else if 5 ≤ c.ns.length then 9 else 0 := by
  unfold canK; rw [if_neg (by decide), if_neg (by decide), if_pos rfl]
theorem k4_is (l : List Cf) (c : Cf) (nd : Int) : canK l c 4 nd = if c.fr = false ∨ c.last ≠ nd then 7 else 0 := by
  unfold canK; rw [if_neg (by decide), if_neg (by decide), if_neg (by decide)]
set_option maxRecDepth 100000 in
set_option maxHeartbeats 2000000 in
theorem canAppend_any (lv v : Value) (l : List Cf) (c : Cf) (nd : Int) (F G : Nat → Prop) (w : World) (hl : CfsAt w G lv l) (h : CfV w F v c) :
    Calls Try.prog 141 #[lv, v, .int .i64 nd] w (IntE (canK l c 2 nd) w) := by
  obtain ⟨u, rfl, hn, hbd⟩ := id h
  obtain ⟨a, cap, rfl, _⟩ := id hn
  have hnl := hbd.2.2
  obtain ⟨d, hd⟩ : ∃ d, d = usedB l nd := ⟨_, rfl⟩
  have HU := Lib.hid (fun w' (hk : Kept NoB w w') => hd ▸ Used_any lv l nd G w' (hl.kept hk (fun _ _ _ h => h)))
  have HX := Lib.hid (k2_is l c nd d hd)
  obtain ⟨r, hr⟩ : ∃ r, r = canK l c 2 nd := ⟨_, rfl⟩
  rw [← hr] at HX ⊢
  obtain ⟨la, lc, rfl, _⟩ := id hl
  clear h hn hbd hd hr hl
  obtain ⟨ch, ep, ns, fr, jn⟩ := c
  simp only at HX hnl ⊢
  have HB := Lib.hid (heap_alloc_new w (.cells #[.int .i64 ch, .int .u64 ep, .slice a ns.length cap, .bool fr, .int .i64 jn] 84))
  have HK := Lib.hid ((Kept.refl NoB w).alloc (.cells #[.int .i64 ch, .int .u64 ep, .slice a ns.length cap, .bool fr, .int .i64 jn] 84))
  cases d <;> cases fr
  all_goals
    go_enter Try.func141, Try.ntmps141
    go_wp2_with fail
    refine (HU.out _ HK.out).mono ?_
    rintro e w1 ⟨rfl, hk⟩
    have HK1 := Lib.hid (HK.out.trans hk (fun _ _ h => h))
    obtain ⟨c0, c1, c2, c3, c4⟩ := cells5 (hk.heap (fun h => h) HB.out)
    clear hk
    go_wp2
    all_goals go_ret
    all_goals exact ⟨by rw [HX.out]; first | rfl | (simp <;> omega) | (simp_all <;> omega), HK1.out⟩
set_option maxRecDepth 100000 in
set_option maxHeartbeats 2000000 in
theorem canPromote_any (lv v : Value) (l : List Cf) (c : Cf) (nd : Int) (F : Nat → Prop) (w : World) (h : CfV w F v c) :
    Calls Try.prog 143 #[lv, v, .int .i64 nd] w (IntE (canK l c 3 nd) w) := by
  obtain ⟨u, rfl, hn, hbd⟩ := id h
  obtain ⟨a, cap, rfl, _⟩ := id hn
  have hnl := hbd.2.2
  have HX := Lib.hid (k3_is l c nd)
  obtain ⟨r, hr⟩ : ∃ r, r = canK l c 3 nd := ⟨_, rfl⟩
  rw [← hr] at HX ⊢
  clear h hn hbd hr
  obtain ⟨ch, ep, ns, fr, jn⟩ := c
  simp only at HX hnl ⊢
  by_cases hj : jn = nd
  · subst hj
    go_enter Try.func143, Try.ntmps143
    go_wp2
    all_goals go_ret
    all_goals exact ⟨by rw [HX.out]; simp <;> omega, (Kept.refl _ _).alloc _⟩
  · have hjb : ((jn : Int) != (nd : Int)) = true := by simpa using hj
    have HX' : Hid (r = 7) := Lib.hid (by rw [HX.out, if_pos hj])
    clear hj
    go_enter Try.func143, Try.ntmps143
    go_wp2
    go_ret
    exact ⟨by rw [HX'.out] <;> rfl, (Kept.refl _ _).alloc _⟩
set_option maxRecDepth 100000 in
set_option maxHeartbeats 1000000 in
theorem isLast_any (v : Value) (c : Cf) (nd : Int) (F : Nat → Prop) (w : World) (h : CfV w F v c) (h1 : 1 ≤ c.ns.length) :
    Calls Try.prog 171 #[v, .int .i64 nd] w (BoolE (decide (c.last = nd)) w) := by
  obtain ⟨u, rfl, hn, hbd⟩ := id h
  obtain ⟨a, cap, rfl, _⟩ := id hn
  have hnl := hbd.2.2
  have hn1 := hn.kept ((Kept.refl NoB w).alloc (.cells #[.int .i64 c.ch, .int .u64 c.ep, .slice a c.ns.length cap, .bool c.fr, .int .i64 c.jn] 84)) (fun _ _ _ h => h)
  obtain ⟨b, o, rfl, _, _, hc⟩ := hn1.at_ (j := c.ns.length - 1) (by omega)
  have HL : Hid (c.last = c.ns.getD (c.ns.length - 1) 0) := Lib.hid rfl
  obtain ⟨x, hx⟩ : ∃ x, x = c.ns.getD (c.ns.length - 1) 0 := ⟨_, rfl⟩
  rw [← hx] at hc HL
  rw [HL.out]
  clear h hn hbd hn1 hx
  obtain ⟨ch, ep, ns, fr, jn⟩ := c
  simp only at hc h1 hnl ⊢
  obtain ⟨m, hm⟩ : ∃ m, m = ns.length - 1 := ⟨_, rfl⟩
  have hml : ns.length = m + 1 := by omega
  rw [← hm] at hc
  rw [hml] at hc hnl ⊢
  clear hm hml h1
  by_cases he : x = nd
  · subst he
    rw [decide_eq_true rfl]
    go_enter Try.func171, Try.ntmps171
    go_wp2
    go_ret
    exact ⟨rfl, (Kept.refl _ _).alloc _⟩
  · rw [decide_eq_false he]
    have heb : ((x : Int) == (nd : Int)) = false := by simpa using he
    clear he
    go_enter Try.func171, Try.ntmps171
    go_wp2
    go_ret
    exact ⟨rfl, (Kept.refl _ _).alloc _⟩
set_option maxRecDepth 100000 in
set_option maxHeartbeats 1000000 in
theorem canSettle_any (lv v : Value) (l : List Cf) (c : Cf) (nd : Int) (F : Nat → Prop) (w : World) (h : CfV w F v c) (h1 : 1 ≤ c.ns.length) :
    Calls Try.prog 145 #[lv, v, .int .i64 nd] w (IntE (canK l c 4 nd) w) := by
  obtain ⟨u, rfl, hn, hbd⟩ := id h
  obtain ⟨a, cap, rfl, _⟩ := id hn
  obtain ⟨d, hd⟩ : ∃ d, d = decide (c.last = nd) := ⟨_, rfl⟩
  have HL := Lib.hid (fun w' (hk : Kept NoB w w') => hd ▸ isLast_any _ c nd F w' (h.kept hk (fun _ _ _ h => h)) h1)
  have HX : Hid (canK l c 4 nd = if c.fr = false ∨ d = false then 7 else 0) := Lib.hid (by rw [k4_is, hd]; simp)
  obtain ⟨r, hr⟩ : ∃ r, r = canK l c 4 nd := ⟨_, rfl⟩
  rw [← hr] at HX ⊢
  clear h hn hbd hd hr h1
  obtain ⟨ch, ep, ns, fr, jn⟩ := c
  simp only at HX HL ⊢
  have HK := Lib.hid ((Kept.refl NoB w).alloc (.cells #[.int .i64 ch, .int .u64 ep, .slice a ns.length cap, .bool fr, .int .i64 jn] 84))
  cases fr <;> cases d
  all_goals
    go_enter Try.func145, Try.ntmps145
    go_wp2_with (go_at_call 171; refine (HL.out _ HK.out).mono ?_; rintro e w1 ⟨rfl, hk⟩; have HK1 := Lib.hid (HK.out.trans hk (fun _ _ h => h)); clear hk)
    go_ret
    exact ⟨by rw [HX.out] <;> rfl, (by first | exact HK1.out | exact (Kept.refl _ _).alloc _)⟩
end Go.Proofs.Ytidhaofojcdbaaa
