/-
  Package role and the chapter: Newer, Missing.
-/
import Derived.Test.YtajneoaljpljpaaRolJ
namespace Go.Proofs.Ytajneoaljpljpaa
open Go.RowKit
set_option linter.unusedVariables false
set_option linter.unusedSimpArgs false

def newB (o c : Cf) : Bool := rgtB c && (decide (o.ch = c.ch) && decide (o.ep < c.ep))
set_option maxRecDepth 100000 in
set_option maxHeartbeats 1000000 in
theorem Newer19 (v u : Value) (o c : Cf) (w : World) (ho : CfR w AnyC v o) (h : CfR w AnyC u c) : Calls Try.prog 17 #[v, u] w (BoolE (newB o c) w) := by
  have HR := Lib.hid (fun w' (hk : Kept NoB w w') => Right19 _ c AnyC w' (h.no hk))
  have HD : Hid (newB o c = (rgtB c && (decide (o.ch = c.ch) && decide (o.ep < c.ep)))) := Lib.hid rfl
  obtain ⟨u1, rfl, hn, h0, htop⟩ := h
  obtain ⟨a, cap, rfl, hn1, hn2, _⟩ := hn
  obtain ⟨u2, rfl, hn', h0', htop'⟩ := ho
  obtain ⟨a', cap', rfl, hn1', hn2', _⟩ := hn'
  obtain ⟨d, hd⟩ : ∃ d, d = newB o c := ⟨_, rfl⟩
  rw [← hd] at HD ⊢
  obtain ⟨r, hr⟩ : ∃ r, r = rgtB c := ⟨_, rfl⟩
  rw [← hr] at HR HD
  obtain ⟨ch, ep, ns, fr, jn⟩ := c
  obtain ⟨ch', ep', ns', fr', jn'⟩ := o
  simp only at HR HD h0 htop h0' htop' ⊢
  obtain ⟨m, hm⟩ : ∃ m, m = ns.length := ⟨_, rfl⟩
  obtain ⟨m', hm'⟩ : ∃ m, m = ns'.length := ⟨_, rfl⟩
  rw [← hm] at HR ⊢
  rw [← hm']
  clear hd hr hm hm' hn1 hn2 hn1' hn2'
  have hb1 := heap_alloc_new w (.cells #[.int .i64 ch', .int .u64 ep', .slice a' m' cap', .bool fr', .int .i64 jn'] 25)
  obtain ⟨V, hV⟩ : ∃ V, V = (w.alloc (.cells #[.int .i64 ch', .int .u64 ep', .slice a' m' cap', .bool fr', .int .i64 jn'] 25)).alloc (.cells #[.int .i64 ch, .int .u64 ep, .slice a m cap, .bool fr, .int .i64 jn] 25) := ⟨_, rfl⟩
  have HB1 : Hid (V.heap[w.heap.size]? = some (.cells #[.int .i64 ch', .int .u64 ep', .slice a' m' cap', .bool fr', .int .i64 jn'] 25 (0, 0))) := Lib.hid (by rw [hV]; exact balloc19 hb1 _)
  have HB2 : Hid (V.heap[w.heap.size + 1]? = some (.cells #[.int .i64 ch, .int .u64 ep, .slice a m cap, .bool fr, .int .i64 jn] 25 (0, 0))) := Lib.hid (by
    have := heap_alloc_new (w.alloc (.cells #[.int .i64 ch', .int .u64 ep', .slice a' m' cap', .bool fr', .int .i64 jn'] 25)) (.cells #[.int .i64 ch, .int .u64 ep, .slice a m cap, .bool fr, .int .i64 jn] 25)
    rw [show (w.alloc (.cells #[.int .i64 ch', .int .u64 ep', .slice a' m' cap', .bool fr', .int .i64 jn'] 25)).heap.size = w.heap.size + 1 by simp] at this
    rw [hV]; exact this)
  have HK : Hid (Kept NoB w V) := Lib.hid (by rw [hV]; exact ((Kept.refl _ _).alloc _).alloc _)
  have HV := Lib.hid hV
  clear hb1 hV
  go_enter Try.func17, Try.ntmps17
  go_wp2_with fail
  rw [← HV.out]
  refine (HR.out _ HK.out).mono ?_
  rintro e w1 ⟨rfl, hk⟩
  have HK1 := Lib.hid (HK.out.trans hk (fun _ _ h => h))
  obtain ⟨c0, c1, c2, c3, c4⟩ := cells5 (hk.heap (fun h => h) HB1.out)
  obtain ⟨d0, d1, d2, d3, d4⟩ := cells5 (hk.heap (fun h => h) HB2.out)
  clear hk
  cases r with
  | false =>
    go_wp2
    go_ret
    exact ⟨(by rw [HD.out] <;> rfl), HK1.out⟩
  | true =>
    by_cases h1 : ch' = ch
    · subst h1
      by_cases h2 : ep' < ep
      · have HE : Hid (d = true) := Lib.hid (by rw [HD.out]; simp [h2])
        have h2d : decide (ep' < ep) = true := decide_eq_true h2
        clear HD
        go_wp2
        go_ret
        exact ⟨(by rw [HE.out] <;> rfl), HK1.out⟩
      · have HE : Hid (d = false) := Lib.hid (by rw [HD.out]; simp [h2])
        have h2d : decide (ep' < ep) = false := decide_eq_false h2
        clear HD
        go_wp2
        go_ret
        exact ⟨(by rw [HE.out] <;> rfl), HK1.out⟩
    · have HE : Hid (d = false) := Lib.hid (by rw [HD.out]; simp [h1])
      have h1b : (ch' == ch) = false := beq_eq_false_iff_ne.2 h1
      have h1c : (ch == ch') = false := beq_eq_false_iff_ne.2 (fun e => h1 e.symm)
      clear HD h1
      go_wp2
      go_ret
      exact ⟨(by rw [HE.out] <;> rfl), HK1.out⟩
set_option maxRecDepth 100000 in
set_option maxHeartbeats 1000000 in
theorem RNewer19 (v u : Value) (o c : Cf) (w : World) (ho : CfR w AnyC v o) (h : CfR w AnyC u c) : Calls Try.prog 18 #[v, u] w (BoolE (newB o c) w) := by
  have HR := Lib.hid (fun w' (hk : Kept NoB w w') => RRight19 _ c AnyC w' (h.no hk))
  have HD : Hid (newB o c = (rgtB c && (decide (o.ch = c.ch) && decide (o.ep < c.ep)))) := Lib.hid rfl
  obtain ⟨u1, rfl, hn, h0, htop⟩ := h
  obtain ⟨a, cap, rfl, hn1, hn2, _⟩ := hn
  obtain ⟨u2, rfl, hn', h0', htop'⟩ := ho
  obtain ⟨a', cap', rfl, hn1', hn2', _⟩ := hn'
  obtain ⟨d, hd⟩ : ∃ d, d = newB o c := ⟨_, rfl⟩
  rw [← hd] at HD ⊢
  obtain ⟨r, hr⟩ : ∃ r, r = rgtB c := ⟨_, rfl⟩
  rw [← hr] at HR HD
  obtain ⟨ch, ep, ns, fr, jn⟩ := c
  obtain ⟨ch', ep', ns', fr', jn'⟩ := o
  simp only at HR HD h0 htop h0' htop' ⊢
  obtain ⟨m, hm⟩ : ∃ m, m = ns.length := ⟨_, rfl⟩
  obtain ⟨m', hm'⟩ : ∃ m, m = ns'.length := ⟨_, rfl⟩
  rw [← hm] at HR ⊢
  rw [← hm']
  clear hd hr hm hm' hn1 hn2 hn1' hn2'
  have hb1 := heap_alloc_new w (.cells #[.int .i64 ch', .int .u64 ep', .slice a' m' cap', .bool fr', .int .i64 jn'] 25)
  obtain ⟨V, hV⟩ : ∃ V, V = (w.alloc (.cells #[.int .i64 ch', .int .u64 ep', .slice a' m' cap', .bool fr', .int .i64 jn'] 25)).alloc (.cells #[.int .i64 ch, .int .u64 ep, .slice a m cap, .bool fr, .int .i64 jn] 25) := ⟨_, rfl⟩
  have HB1 : Hid (V.heap[w.heap.size]? = some (.cells #[.int .i64 ch', .int .u64 ep', .slice a' m' cap', .bool fr', .int .i64 jn'] 25 (0, 0))) := Lib.hid (by rw [hV]; exact balloc19 hb1 _)
  have HB2 : Hid (V.heap[w.heap.size + 1]? = some (.cells #[.int .i64 ch, .int .u64 ep, .slice a m cap, .bool fr, .int .i64 jn] 25 (0, 0))) := Lib.hid (by
    have := heap_alloc_new (w.alloc (.cells #[.int .i64 ch', .int .u64 ep', .slice a' m' cap', .bool fr', .int .i64 jn'] 25)) (.cells #[.int .i64 ch, .int .u64 ep, .slice a m cap, .bool fr, .int .i64 jn] 25)
    rw [show (w.alloc (.cells #[.int .i64 ch', .int .u64 ep', .slice a' m' cap', .bool fr', .int .i64 jn'] 25)).heap.size = w.heap.size + 1 by simp] at this
    rw [hV]; exact this)
  have HK : Hid (Kept NoB w V) := Lib.hid (by rw [hV]; exact ((Kept.refl _ _).alloc _).alloc _)
  have HV := Lib.hid hV
  clear hb1 hV
  go_enter Try.func18, Try.ntmps18
  go_wp2_with fail
  rw [← HV.out]
  refine (HR.out _ HK.out).mono ?_
  rintro e w1 ⟨rfl, hk⟩
  have HK1 := Lib.hid (HK.out.trans hk (fun _ _ h => h))
  obtain ⟨c0, c1, c2, c3, c4⟩ := cells5 (hk.heap (fun h => h) HB1.out)
  obtain ⟨d0, d1, d2, d3, d4⟩ := cells5 (hk.heap (fun h => h) HB2.out)
  clear hk
  cases r with
  | false =>
    go_wp2
    go_ret
    exact ⟨(by rw [HD.out] <;> rfl), HK1.out⟩
  | true =>
    by_cases h1 : ch' = ch
    · subst h1
      by_cases h2 : ep' < ep
      · have HE : Hid (d = true) := Lib.hid (by rw [HD.out]; simp [h2])
        have h2d : decide (ep' < ep) = true := decide_eq_true h2
        clear HD
        go_wp2
        go_ret
        exact ⟨(by rw [HE.out] <;> rfl), HK1.out⟩
      · have HE : Hid (d = false) := Lib.hid (by rw [HD.out]; simp [h2])
        have h2d : decide (ep' < ep) = false := decide_eq_false h2
        clear HD
        go_wp2
        go_ret
        exact ⟨(by rw [HE.out] <;> rfl), HK1.out⟩
    · have HE : Hid (d = false) := Lib.hid (by rw [HD.out]; simp [h1])
      have h1b : (ch' == ch) = false := beq_eq_false_iff_ne.2 h1
      have h1c : (ch == ch') = false := beq_eq_false_iff_ne.2 (fun e => h1 e.symm)
      clear HD h1
      go_wp2
      go_ret
      exact ⟨(by rw [HE.out] <;> rfl), HK1.out⟩
/-- Are all settled nodes down? -/
def missB (c : Cf) (l : List Int) : Bool := c.set.all (fun n => decide (n ∈ l))
theorem ent_miss : Enters 29 := fun args w => by kernel_rfl
set_option maxRecDepth 100000 in
theorem Miss1_any (v : Value) (l : List Int) (x : Int) (g : Nat) (w : World) (h : NSl w AnyC v l) (hg : w.cell? ⟨g, 0, none⟩ = some v) : Calls Try.prog 29 #[.int .i64 x, .pointer (some ⟨g, 0, none⟩)] w (BoolE (!decide (x ∈ l)) w) := by
  have HC := Lib.hid (Contains_any v l x AnyC w h)
  obtain ⟨a, cap, rfl, _⟩ := h
  obtain ⟨d, hd⟩ : ∃ d, d = decide (x ∈ l) := ⟨_, rfl⟩
  rw [← hd] at HC ⊢
  clear hd
  go_enter Try.func29, Try.ntmps29
  go_wp2_with fail
  refine HC.out.mono ?_
  rintro e w1 ⟨rfl, rfl⟩
  go_wp2
  go_ret
  exact ⟨rfl, Kept.refl _ _⟩
theorem miss_not (l : List Int) (m : List Int) : (!(m.any fun x => !decide (x ∈ l))) = m.all (fun n => decide (n ∈ l)) := by
  induction m with
  | nil => rfl
  | cons x m ih => simp only [List.any_cons, List.all_cons, ← ih]; cases decide (x ∈ l) <;> simp
set_option maxRecDepth 100000 in
set_option maxHeartbeats 1000000 in
theorem Missing19 (v u : Value) (c : Cf) (l : List Int) (w : World) (h : CfV w AnyC v c) (hl : NSl w AnyC u l) : Calls Try.prog 19 #[v, u] w (BoolE (missB c l) w) := by
  have HS := Lib.hid (fun w' (hk : Kept NoB w w') => Settled_any _ c AnyC w' (h.kept hk (fun _ _ _ h => h)))
  have HCF := Lib.hid (fun v' w' (hs : NSl w' (fun _ => True) v' c.set) (hg : w'.cell? ⟨w.heap.size + 1, 0, none⟩ = some u) (hk : Kept NoB w w') => ContainsN_any v' c.set 29 #[.pointer (some ⟨w.heap.size + 1, 0, none⟩)] (fun x => !decide (x ∈ l)) (fun _ => True) w' hs
    ⟨ent_miss, fun x w'' hx hk' => Miss1_any u l x (w.heap.size + 1) w'' (hl.kept (hk.trans hk' (fun _ _ h => h)) (fun _ _ _ h => h)) (hk'.cell (p := ⟨w.heap.size + 1, 0, none⟩) (fun h => h) hg)⟩)
  have HD : Hid (missB c l = !(c.set.any fun x => !decide (x ∈ l))) := Lib.hid (miss_not l c.set).symm
  have hmf : ∀ (fn : Fn) (first cap : Array Value) (w : World), (Instr.makeFunc fn first cap).run Try.prog w = .ok (.func fn first cap) w := fun _ _ _ _ => rfl
  obtain ⟨u1, rfl, hn, _, _, _⟩ := h
  obtain ⟨a, cap, rfl, _⟩ := hn
  obtain ⟨b, cab, rfl, _⟩ := hl
  obtain ⟨d, hd⟩ : ∃ d, d = (c.set.any fun x => !decide (x ∈ l)) := ⟨_, rfl⟩
  rw [← hd] at HD HCF
  obtain ⟨R, hR⟩ : ∃ R, R = missB c l := ⟨_, rfl⟩
  rw [← hR] at HD ⊢
  obtain ⟨S, hS⟩ : ∃ S, S = c.set := ⟨_, rfl⟩
  rw [← hS] at HS HCF
  obtain ⟨ch, ep, ns, fr, jn⟩ := c
  simp only at HS ⊢
  obtain ⟨m, hm⟩ : ∃ m, m = ns.length := ⟨_, rfl⟩
  obtain ⟨n, hn⟩ : ∃ n, n = l.length := ⟨_, rfl⟩
  rw [← hm] at HS ⊢
  rw [← hn] at HCF ⊢
  clear hd hR hS hm hn
  have hb1 := heap_alloc_new w (.cells #[.int .i64 ch, .int .u64 ep, .slice a m cap, .bool fr, .int .i64 jn] 25)
  obtain ⟨V, hV⟩ : ∃ V, V = (w.alloc (.cells #[.int .i64 ch, .int .u64 ep, .slice a m cap, .bool fr, .int .i64 jn] 25)).alloc (.cells #[.slice b n cab] 23) := ⟨_, rfl⟩
  have HB1 : Hid (V.heap[w.heap.size]? = some (.cells #[.int .i64 ch, .int .u64 ep, .slice a m cap, .bool fr, .int .i64 jn] 25 (0, 0))) := Lib.hid (by rw [hV]; exact balloc19 hb1 _)
  have HB2 : Hid (V.heap[w.heap.size + 1]? = some (.cells #[.slice b n cab] 23 (0, 0))) := Lib.hid (by
    have := heap_alloc_new (w.alloc (.cells #[.int .i64 ch, .int .u64 ep, .slice a m cap, .bool fr, .int .i64 jn] 25)) (.cells #[.slice b n cab] 23)
    rw [show (w.alloc (.cells #[.int .i64 ch, .int .u64 ep, .slice a m cap, .bool fr, .int .i64 jn] 25)).heap.size = w.heap.size + 1 by simp] at this
    rw [hV]; exact this)
  have HK : Hid (Kept NoB w V) := Lib.hid (by rw [hV]; exact ((Kept.refl _ _).alloc _).alloc _)
  have HV := Lib.hid hV
  clear hb1 hV
  go_enter Try.func19, Try.ntmps19
  go_wp2_with fail
  rw [← HV.out]
  refine (HS.out _ HK.out).mono ?_
  rintro e w1 ⟨v', rfl, hn', hk⟩
  have HN := Lib.hid (hn'.mono (G := fun _ => True) (fun _ _ _ => trivial))
  have HK1 := Lib.hid (HK.out.trans hk (fun _ _ h => h))
  have HG := Lib.hid (cell_of_row _ _ 0 _ _ _ (hk.heap (fun h => h) HB2.out))
  obtain ⟨va, vc, rfl, _⟩ := id HN.out
  clear hk hn'
  go_wp2_with fail
  refine (HCF.out _ _ HN.out HG.out HK1.out).mono ?_
  rintro e w2 ⟨rfl, hk⟩
  have HK2 := Lib.hid (HK1.out.trans hk (fun _ _ h => h))
  clear hk
  go_wp2
  go_ret
  exact ⟨(by rw [HD.out] <;> rfl), HK2.out⟩
set_option maxRecDepth 100000 in
set_option maxHeartbeats 1000000 in
theorem RMissing19 (v u : Value) (c : Cf) (l : List Int) (w : World) (h : CfV w AnyC v c) (hl : NSl w AnyC u l) : Calls Try.prog 20 #[v, u] w (BoolE (missB c l) w) := by
  have HS := Lib.hid (fun w' (hk : Kept NoB w w') => RSettled_any _ c AnyC w' (h.kept hk (fun _ _ _ h => h)))
  have HH := Lib.hid (fun x w' (hk : Kept NoB w w') => Has4_any u l x AnyC w' (hl.kept hk (fun _ _ _ h => h)))
  have HD : Hid (missB c l = c.set.all (fun n => decide (n ∈ l))) := Lib.hid rfl
  obtain ⟨u1, rfl, hn, _, _, _⟩ := h
  obtain ⟨a, cap, rfl, _⟩ := hn
  obtain ⟨b, cab, rfl, _⟩ := hl
  obtain ⟨R, hR⟩ : ∃ R, R = missB c l := ⟨_, rfl⟩
  rw [← hR] at HD ⊢
  obtain ⟨S, hS⟩ : ∃ S, S = c.set := ⟨_, rfl⟩
  rw [← hS] at HS HD
  obtain ⟨ch, ep, ns, fr, jn⟩ := c
  simp only at HS ⊢
  obtain ⟨m, hm⟩ : ∃ m, m = ns.length := ⟨_, rfl⟩
  obtain ⟨n, hn⟩ : ∃ n, n = l.length := ⟨_, rfl⟩
  rw [← hm] at HS ⊢
  rw [← hn] at HH ⊢
  clear hR hS hm hn
  have HK := Lib.hid ((Kept.refl NoB w).alloc (.cells #[.int .i64 ch, .int .u64 ep, .slice a m cap, .bool fr, .int .i64 jn] 25))
  go_enter Try.func20, Try.ntmps20
  go_wp2_with fail
  refine (HS.out _ HK.out).mono ?_
  rintro e w1 ⟨v', rfl, hn', hk⟩
  have HN := Lib.hid (hn'.mono (G := fun _ => True) (fun _ _ _ => trivial))
  have HK1 := Lib.hid (HK.out.trans hk (fun _ _ h => h))
  obtain ⟨va, vc, rfl, _⟩ := id HN.out
  have hll := len_le HN.out
  clear hk hn'
  go_wp2_with fail
  go_loop [6] (fun i => ∃ k : Nat, i = .int .i64 k ∧ k ≤ S.length ∧ (S.take k).all (fun n => decide (n ∈ l)) = true) (fun i => S.length - (intOf i).toNat)
  case atStart => exact ⟨0, rfl, Nat.zero_le _, by simp⟩
  case round =>
    obtain ⟨k, rfl, hk, hno⟩ := hrel
    have HNO := Lib.hid hno
    clear hno
    by_cases hlt : k < S.length
    · obtain ⟨b2, o, rfl, _, _, hc⟩ := HN.out.at_ hlt
      have HT := Lib.hid (take_one hlt)
      have HA : Hid (S.getD k 0 ∈ S) := Lib.hid (by rw [getD_at hlt]; exact List.getElem_mem _)
      obtain ⟨y, hy⟩ : ∃ y, y = S.getD k 0 := ⟨_, rfl⟩
      rw [← hy] at hc HT HA
      have hk1 : (k : Int) < (S.length : Int) := by omega
      have HC := Lib.hid (HH.out y w1 HK1.out)
      obtain ⟨t, ht⟩ : ∃ t, t = decide (y ∈ l) := ⟨_, rfl⟩
      rw [← ht] at HC
      have HTT := Lib.hid ht
      clear hy ht
      cases t with
      | true =>
        have HNN : Hid ((S.take (k + 1)).all (fun n => decide (n ∈ l)) = true) := Lib.hid (by rw [HT.out, List.all_append, HNO.out]; simp [← HTT.out])
        go_wp2_with (go_at_call 26; refine HC.out.mono ?_; rintro e w2 ⟨rfl, rfl⟩)
        go_round
        case rel => exact ⟨k + 1, by go_num, by omega, HNN.out⟩
        case measure => simp [intOf]; omega
      | false =>
        have HE : Hid (R = false) := Lib.hid (by rw [HD.out, List.all_eq_false]; exact ⟨y, HA.out, by simp [← HTT.out]⟩)
        go_wp2_with (go_at_call 26; refine HC.out.mono ?_; rintro e w2 ⟨rfl, rfl⟩)
        go_ret
        exact ⟨(by rw [HE.out] <;> rfl), HK1.out⟩
    · obtain rfl : k = S.length := by omega
      have HE : Hid (R = true) := Lib.hid (by rw [HD.out]; have := HNO.out; rwa [List.take_length] at this)
      go_wp2
      go_ret
      exact ⟨(by rw [HE.out] <;> rfl), HK1.out⟩
end Go.Proofs.Ytajneoaljpljpaa
