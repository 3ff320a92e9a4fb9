/-
  Package conf: Begin. Configurations in a row of the call's own; append to it. The chapter's Begin. One command, plainly: what P9.5 asks of it.
-/
import Derived.Test.YtclfecninhipnaaGreatDoorCnf4
import Derived.Laws.MakeOwn
import Derived.Test.YtclfecninhipnaaGreatDoorCnf2
import Derived.Test.YtclfecninhipnaaGreatDoorCnf1
import Derived.Test.YtclfecninhipnaaGreatDoorCnf3
namespace Go.Proofs.YtclfecninhipnaaGreatDoor
open Go.RowKit
set_option linter.unusedVariables false
set_option linter.unusedSimpArgs false

/-- What Begin tells. -/
def begB (chains per : Int) : Bool := decide (1 ≤ chains ∧ chains ≤ 4 ∧ 1 ≤ per ∧ per ≤ 5)
def begC (chains per : Int) : List Cf := if begB chains per then begL chains.toNat per.toNat else []
def begX (chains per : Int) : Int := if begB chains per then 0 else 1
def BegE (chains per : Int) (w : World) (e : Ending) (w' : World) : Prop := ∃ v, e = .returned (.tuple #[v, .int .i64 (begX chains per)]) ∧ CfsAt w' (fun k => w.heap.size ≤ k) v (begC chains per) ∧ Kept NoB w w'
theorem upd_upd (us : Nat → Value) (j : Nat) (x y : Value) : upd (upd us j x) j y = upd us j y := by
  funext i
  unfold upd
  split <;> rfl
theorem RowC.setCh {w : World} {r cap : Nat} {l : List Cf} {us : Nat → Value} (h : RowC w r cap l us) {j : Nat} (hj : j < l.length) (n : Int) :
    RowC (w.setCell ⟨r, j * 5, none⟩ (.int .i64 n)) r cap (l.set j { nthC l j with ch := n }) (Go.Proofs.YtclfecninhipnaaGreatDoor.upd us j (us j)) :=
  h.upd hj _ _ _ 0 (by decide) fun i' hi => by
    rw [cell_set hj _ _ _ hi, cell_old _ _ _ _ hi]
    rcases (by omega : i' = 0 ∨ i' = 1 ∨ i' = 2 ∨ i' = 3 ∨ i' = 4) with rfl | rfl | rfl | rfl | rfl <;> rfl
theorem RowC.set5 {w : World} {r cap : Nat} {l : List Cf} {us : Nat → Value} (h : RowC w r cap l us) {j : Nat} (hj : j < l.length) (c : Cf) (v : Value) :
    RowC (((((w.setCell ⟨r, j * 5, none⟩ (.int .i64 c.ch)).setCell ⟨r, j * 5 + 1, none⟩ (.int .u64 c.ep)).setCell ⟨r, j * 5 + 2, none⟩ v).setCell ⟨r, j * 5 + 3, none⟩ (.bool c.fr)).setCell ⟨r, j * 5 + 4, none⟩ (.int .i64 c.jn)) r cap (l.set j c) (Go.Proofs.YtclfecninhipnaaGreatDoor.upd us j v) := by
  have hl : ∀ x, j < (l.set j x).length := fun x => by rw [List.length_set]; exact hj
  have h1 := h.setCh hj c.ch
  have h2 := h1.setEp (hl _) c.ep
  rw [nthC_sets hj, set_set, upd_at, upd_upd] at h2
  have h3 := h2.setNs (hl _) v c.ns
  rw [nthC_sets hj, set_set, upd_upd] at h3
  have h4 := h3.setFr (hl _) c.fr
  rw [nthC_sets hj, set_set, upd_at, upd_upd] at h4
  have h5 := h4.setJn (hl _) c.jn
  rw [nthC_sets hj, set_set, upd_at, upd_upd] at h5
  exact h5
theorem bother1 {w : World} {g k : Nat} {o : Obj} (h : w.heap[g]? = some o) (i : Nat) (u : Value) (hk : k ≠ g) :
    (w.setCell ⟨k, i, none⟩ u).heap[g]? = some o := by simp [World.setCell, Array.getElem?_modify, h, hk]
def lkC (chains per k : Nat) : List Cf := (List.range chains).map fun i => if i < k then beg1 per i else cf0
theorem lk_len (chains per k : Nat) : (lkC chains per k).length = chains := by simp [lkC]
theorem lk_nth {chains per k i : Nat} (h : i < chains) : nthC (lkC chains per k) i = if i < k then beg1 per i else cf0 := by
  rw [nthC_at (by rw [lk_len]; exact h)]
  simp [lkC]
theorem lk_set {chains per k : Nat} (h : k < chains) : (lkC chains per k).set k (beg1 per k) = lkC chains per (k + 1) := by
  refine nthC_ext (by simp [lk_len]) fun i hi => ?_
  have hi' : i < chains := by simpa [lk_len] using hi
  rw [nthC_set (by rw [lk_len]; exact h), lk_nth hi', lk_nth hi']
  by_cases e : i = k
  · subst e; rw [if_pos rfl, if_pos (by omega)]
  · rw [if_neg e]
    by_cases e2 : i < k
    · rw [if_pos e2, if_pos (by omega)]
    · rw [if_neg e2, if_neg (by omega)]
theorem lk_all (chains per : Nat) : lkC chains per chains = begL chains per := by
  refine nthC_ext (by simp [lk_len, begL_len]) fun i hi => ?_
  have hi' : i < chains := by simpa [lk_len] using hi
  rw [lk_nth hi', begL_nth hi', if_pos hi']
theorem beg1_ns (per k : Nat) : (beg1 per k).ns.length = per := by simp [beg1]
theorem beg1_at {per k i : Nat} (h : i < per) : (beg1 per k).ns.getD i 0 = ((k * per + i + 1 : Nat) : Int) := by
  rw [getD_at (by rw [beg1_ns]; exact h)]
  simp [beg1]
theorem made_row {w : World} {chains per : Nat} (hm : chains ≤ 4) : RowC (w.alloc (.cells (madeCells (Value.agg #[.int .i64 0, .int .u64 0, .slice none 0 0, .bool false, .int .i64 0]).cells (chains * 5)) 44)) w.heap.size chains (lkC chains per 0) (fun _ => .slice none 0 0) := by
  refine ⟨_, heap_alloc_new w _, by rw [size_madeCells], by rw [lk_len]; exact Nat.le_refl _, by unfold maxLen; omega, fun m hm' => ?_⟩
  rw [lk_len] at hm'
  have hn : nthC (lkC chains per 0) (m / 5) = cf0 := by rw [lk_nth (by omega), if_neg (by omega)]
  unfold cellC
  rw [hn]
  unfold madeCells
  simp only [Value.cells, Array.getElem?_map, Array.getElem?_range, hm', if_true, Option.map_some]
  have hs : (#[Value.int .i64 0, .int .u64 0, .slice none 0 0, .bool false, .int .i64 0] : Array Value).size = 5 := rfl
  simp only [hs]
  congr 1
  rcases (by omega : m % 5 = 0 ∨ m % 5 = 1 ∨ m % 5 = 2 ∨ m % 5 = 3 ∨ m % 5 = 4) with e | e | e | e | e <;> rw [e] <;> rfl
end Go.Proofs.YtclfecninhipnaaGreatDoor
namespace Go.Proofs.YtclfecninhipnaaGreatDoor
open Go.RowKit
set_option linter.unusedVariables false

/-- The cells of configurations, each with its nodes' slice. -/
def kc (ps : List (Cf × Value)) : List Value := ps.flatMap fun p => [.int .i64 p.1.ch, .int .u64 p.1.ep, p.2, .bool p.1.fr, .int .i64 p.1.jn]
theorem kc_app (a b : List (Cf × Value)) : kc (a ++ b) = kc a ++ kc b := by simp [kc]
theorem kc_len (a : List (Cf × Value)) : (kc a).length = a.length * 5 := by
  induction a with
  | nil => rfl
  | cons p a ih =>
    have : kc (p :: a) = [.int .i64 p.1.ch, .int .u64 p.1.ep, p.2, .bool p.1.fr, .int .i64 p.1.jn] ++ kc a := rfl
    rw [this, List.length_append, ih, List.length_cons]
    simp only [List.length_cons, List.length_nil]
    omega
theorem kc_at (a : List (Cf × Value)) (j i : Nat) (hj : j < a.length) (hi : i < 5) : (kc a)[j * 5 + i]? = [Value.int .i64 (a[j]).1.ch, .int .u64 (a[j]).1.ep, (a[j]).2, .bool (a[j]).1.fr, .int .i64 (a[j]).1.jn][i]? := by
  induction a generalizing j with
  | nil => exact absurd hj (by simp)
  | cons p a ih =>
    have e : kc (p :: a) = [.int .i64 p.1.ch, .int .u64 p.1.ep, p.2, .bool p.1.fr, .int .i64 p.1.jn] ++ kc a := rfl
    rw [e]
    cases j with
    | zero =>
      rw [Nat.zero_mul, Nat.zero_add, List.getElem?_append_left (by simpa using hi)]
      rfl
    | succ j =>
      rw [List.getElem?_append_right (by simp only [List.length_cons, List.length_nil]; omega)]
      simp only [List.length_cons, List.length_nil, List.getElem_cons_succ]
      rw [show (j + 1) * 5 + i - (0 + 1 + 1 + 1 + 1 + 1) = j * 5 + i by omega]
      exact ih j (by simpa using hj)
/-- A row of configurations of the call's own, from block B on. -/
def KOwn (B : Nat) (w : World) (v : Value) (ps : List (Cf × Value)) : Prop := w.ownsRow B 44 5 v ps.length (kc ps)
theorem KOwn.nil (B : Nat) (w : World) : KOwn B w (.slice none 0 0) [] := World.ownsRow_nil _ _ _ _
theorem KOwn.form {B : Nat} {w : World} {v : Value} {l : List (Cf × Value)} (h : KOwn B w v l) : ∃ a c, v = .slice a l.length c := by
  rcases h.2 with ⟨rfl, h0⟩ | ⟨r, cap, cur, rfl, _⟩
  · exact ⟨none, 0, by rw [h0]⟩
  · exact ⟨_, _, rfl⟩
theorem KOwn.kept {S : Nat → Prop} {B : Nat} {w w' : World} {v : Value} {l : List (Cf × Value)} (h : KOwn B w v l) (hk : Kept S w w') (hs : ∀ k, v.ownBlock = some k → ¬ S k) : KOwn B w' v l := by
  refine ⟨h.1, ?_⟩
  rcases h.2 with hn | ⟨r, cap, cur, rfl, hb, hr, rest⟩
  · exact .inl hn
  · exact .inr ⟨r, cap, cur, rfl, hb, hk.heap (hs r rfl) hr, rest⟩
/-- It reads as the configurations. -/
theorem KOwn.cfs {B : Nat} {w : World} {v : Value} {ps : List (Cf × Value)} {F : Nat → Prop} (h : KOwn B w v ps) (hF : ∀ k, v.ownBlock = some k → F k)
    (hn : ∀ p ∈ ps, NSl w F p.2 p.1.ns ∧ 0 ≤ p.1.ep ∧ p.1.ep ≤ topE ∧ p.1.ns.length ≤ 1000) : CfsAt w F v (ps.map Prod.fst) := by
  have hl : (ps.map Prod.fst).length = ps.length := List.length_map _
  rcases h.2 with ⟨rfl, h0⟩ | ⟨r, cap, cur, rfl, hb, hr, hc, hm, _⟩
  · obtain rfl : ps = [] := List.eq_nil_of_length_eq_zero h0
    exact CfsAt.nil w F
  · refine ⟨_, cap, by rw [hl], by rw [hl]; exact hc, hm, (fun h => by cases h), fun _ => ⟨r, 0, rfl, hF r rfl, heap_lt hr, fun j hj => ?_⟩⟩
    rw [hl] at hj
    have hx : ∀ i, i < 5 → ∀ u, [Value.int .i64 (ps[j]).1.ch, .int .u64 (ps[j]).1.ep, (ps[j]).2, .bool (ps[j]).1.fr, .int .i64 (ps[j]).1.jn][i]? = some u → w.cell? ⟨r, 0 + j * 5 + i, none⟩ = some u := fun i hi u hu => by
      have := h.cells (g := r) rfl (j * 5 + i) u (by rw [kc_at ps j i hj hi]; exact hu)
      have hadd : (⟨r, 0, none⟩ : Addr).add (j * 5 + i) = ⟨r, 0 + j * 5 + i, none⟩ := by unfold Addr.add; split <;> simp_all
      rw [← hadd]
      exact this
    have hnj : nthC (ps.map Prod.fst) j = (ps[j]).1 := by rw [nthC_at (by rw [hl]; exact hj)]; simp
    rw [hnj]
    exact ⟨(ps[j]).2, hx 0 (by omega) _ rfl, hx 1 (by omega) _ rfl, hx 2 (by omega) _ rfl, hx 3 (by omega) _ rfl, hx 4 (by omega) _ rfl, hn _ (List.getElem_mem hj)⟩
/-- append of one configuration that lies in a block to a row of the call's own. -/
theorem run_append_kc (w : World) (base : Nat) (ty : TypeId) (v : Value) (ps : List (Cf × Value)) (hown : KOwn base w v ps) (b : Nat) (c : Cf) (u : Value) (hb : w.heap[b]? = some (.cells #[.int .i64 c.ch, .int .u64 c.ep, u, .bool c.fr, .int .i64 c.jn] 44 (0, 0))) (hu : u.oneCell' = true) (hl : ps.length ≤ 100000) (hbase : base ≤ w.heap.size) :
    ∃ a' c' w', (Builtin.append_ #[28, 28] ty #[v, .slice (some ⟨b, 0, none⟩) 1 1]).run Tryz.prog w = .ok (.slice a' (ps.length + 1) c') w' ∧ KOwn base w' (.slice a' (ps.length + 1) c') (ps ++ [(c, u)]) ∧ w.grownBy w' v.ownBlock ∧ ((Value.slice a' (ps.length + 1) c').ownBlock = v.ownBlock ∨ (Value.slice a' (ps.length + 1) c').ownBlock = some w.heap.size) := by
  obtain ⟨i0, hi, hz0, hz1, hz2⟩ := info_parts conf_zero
  obtain ⟨v', w', hrun, h2, h3, _, h5⟩ := run_append_own_at (P := Tryz.prog) w base 28 ty 44 i0 _ 5 56 Tryz.underlying28 hi hz0 hz1 hz2 rfl (by decide) v ps.length _ hown ⟨b, 0, none⟩ 1 1 (kc [(c, u)]) (by simp [kc]) (World.news_of_block hb) (by
    intro x hx
    simp only [kc, List.flatMap_cons, List.flatMap_nil, List.append_nil, List.mem_cons, List.not_mem_nil, or_false] at hx
    rcases hx with rfl | rfl | rfl | rfl | rfl
    · rfl
    · rfl
    · exact hu
    · rfl
    · rfl) (by unfold maxLen; omega) (by omega) hbase
  have h2' : KOwn base w' v' (ps ++ [(c, u)]) := by
    unfold KOwn
    rw [kc_app, List.length_append]
    exact h2
  obtain ⟨a', c', e⟩ := h2'.form
  rw [List.length_append] at e
  have e : v' = .slice a' (ps.length + 1) c' := e
  subst e
  exact ⟨a', c', w', hrun, h2', h3, h5⟩
theorem wpList_append_kc (w : World) {ops : Array Oper} {rest : List Oper} {o : Oper} {a : Act} {Q : Exit → Act → World → Prop} (hgd : o.guard = none) (s x : Operand)
    (ho : o.op = .call { callee := .builtin .append, args := #[s, x], argTypes := #[28, 28] })
    (base : Nat) (v : Value) (ps : List (Cf × Value)) (hs : a.eval s = v) (hown : KOwn base w v ps) (b : Nat) (c : Cf) (u : Value) (hx : a.eval x = .slice (some ⟨b, 0, none⟩) 1 1) (hb : w.heap[b]? = some (.cells #[.int .i64 c.ch, .int .u64 c.ep, u, .bool c.fr, .int .i64 c.jn] 44 (0, 0))) (hu : u.oneCell' = true) (hl : ps.length ≤ 100000) (hbase : base ≤ w.heap.size)
    (h : ∀ a' c' w', KOwn base w' (.slice a' (ps.length + 1) c') (ps ++ [(c, u)]) → w.grownBy w' v.ownBlock → ((Value.slice a' (ps.length + 1) c').ownBlock = v.ownBlock ∨ (Value.slice a' (ps.length + 1) c').ownBlock = some w.heap.size) → wpList Tryz.prog ops Q rest (a.put o.dst (.slice a' (ps.length + 1) c')) w') : wpList Tryz.prog ops Q (o :: rest) a w :=
  wpList_plain hgd fun K hK => by
    obtain ⟨a', c', w', hrun, h2, h3, h4⟩ := run_append_kc w base o.type v ps hown b c u hb hu hl hbase
    unfold Oper.wp execOp
    simp only [ho, resolve, invoke, builtin, Sem.run_bind, Sem.run_pure, Result.andThen_ok, List.map_toArray, List.map_cons, List.map_nil, hs, hx, hrun]
    exact hK _ _ (h a' c' w' h2 h3 h4)
end Go.Proofs.YtclfecninhipnaaGreatDoor
namespace Go.Proofs.YtclfecninhipnaaGreatDoor
open Go.RowKit
set_option linter.unusedVariables false
set_option linter.unusedSimpArgs false

theorem RBegin_bad (chains per : Int) (w : World) (h : begB chains per = false) : Calls Tryz.prog 4 #[.int .i64 chains, .int .i64 per] w (BegE chains per w) := by
  have HBX : Hid (begC chains per = [] ∧ begX chains per = 1) := Lib.hid (by unfold begC begX; rw [h]; exact ⟨rfl, rfl⟩)
  have hb : ¬ (1 ≤ chains ∧ chains ≤ 4 ∧ 1 ≤ per ∧ per ≤ 5) := of_decide_eq_false h
  have hfin : BegE chains per w (.returned (.tuple #[.slice none 0 0, .int .i64 1])) w := by
    exact ⟨.slice none 0 0, (by rw [HBX.out.2] <;> rfl), (by rw [HBX.out.1]; exact CfsAt.nil _ _), Kept.refl _ _⟩
  have HF := Lib.hid hfin
  clear h hfin HBX
  by_cases h1 : chains < 1
  · clear hb
    go_enter Tryz.func4, Tryz.ntmps4
    go_wp2
    go_ret2
    exact HF.out
  · have b1 : decide (chains < 1) = false := decide_eq_false h1
    by_cases h2 : 4 < chains
    · clear hb
      go_enter Tryz.func4, Tryz.ntmps4
      go_wp2
      go_ret2
      exact HF.out
    · have b2 : decide (4 < chains) = false := decide_eq_false h2
      by_cases h3 : per < 1
      · clear hb
        go_enter Tryz.func4, Tryz.ntmps4
        go_wp2
        go_ret2
        exact HF.out
      · have b3 : decide (per < 1) = false := decide_eq_false h3
        have h4 : 5 < per := by omega
        clear hb
        go_enter Tryz.func4, Tryz.ntmps4
        go_wp2
        go_ret2
        exact HF.out
/-- What stands behind k chains. -/
def BegK (B k per : Nat) (q : Value) (ps : List (Cf × Value)) (w0 wr : World) : Prop :=
  ps.map Prod.fst = (List.range k).map (beg1 per) ∧ KOwn B wr q ps ∧ (∀ p ∈ ps, NSl wr (fun b => B ≤ b ∧ q.ownBlock ≠ some b) p.2 p.1.ns) ∧ Kept NoB w0 wr
set_option maxRecDepth 100000 in
set_option maxHeartbeats 2000000 in
theorem RBegin_good (chains per : Nat) (w : World) (h1 : 1 ≤ chains) (h4 : chains ≤ 4) (p1 : 1 ≤ per) (p5 : per ≤ 5) :
    Calls Tryz.prog 4 #[.int .i64 chains, .int .i64 per] w (BegE chains per w) := by
  have hmul : ∀ k : Nat, k ≤ 4 → k * per ≤ 20 := fun k hk => by have := Nat.mul_le_mul hk p5; omega
  have HM := Lib.hid hmul
  have hc1 : decide ((chains : Int) < 1) = false := decide_eq_false (by omega)
  have hc4 : decide (4 < (chains : Int)) = false := decide_eq_false (by omega)
  have hp1 : decide ((per : Int) < 1) = false := decide_eq_false (by omega)
  have hp5 : decide (5 < (per : Int)) = false := decide_eq_false (by omega)
  have HBX : Hid (begC chains per = begL chains per ∧ begX chains per = 0) := Lib.hid (by
    have hb : begB chains per = true := decide_eq_true (by omega)
    unfold begC begX
    rw [hb, Int.toNat_natCast, Int.toNat_natCast]
    exact ⟨rfl, rfl⟩)
  clear hmul
  go_enter Tryz.func4, Tryz.ntmps4
  go_wp2_with fail
  go_loopw [6, 7, 8] (fun q n i wr => ∃ (k : Nat) (ps : List (Cf × Value)), i = .int .i64 k ∧ k ≤ chains ∧ n = .int .i64 ((k * per : Nat) : Int) ∧ BegK w.heap.size k per q ps w wr) (fun _ _ i _ => chains - (intOf i).toNat)
  case atStart => exact ⟨0, [], rfl, Nat.zero_le _, by rw [Nat.zero_mul]; rfl, rfl, KOwn.nil _ _, (fun _ h => by cases h), Kept.refl _ _⟩
  case round =>
    obtain ⟨k, ps, rfl, hk, rfl, hmap, hown, hns, hkk⟩ := hrel
    have HMAP := Lib.hid hmap
    have HO := Lib.hid hown
    have HN := Lib.hid hns
    have HK := Lib.hid hkk
    have hpl : ps.length = k := by have := congrArg List.length hmap; simpa using this
    obtain ⟨qa, qc, rfl⟩ := hown.form
    have HPL := Lib.hid hpl
    clear hmap hown hns hkk hpl
    have hkp := HM.out k (by omega)
    obtain ⟨kp, hkpe⟩ : ∃ kp, kp = k * per := ⟨_, rfl⟩
    have HKP := Lib.hid hkpe
    rw [← hkpe] at hkp
    rw [← hkpe]
    clear hkpe
    by_cases hlt : k < chains
    · have hk1 : (k : Int) < (chains : Int) := by omega
      go_wp2_with fail
      obtain ⟨wo, rfl⟩ : ∃ wo : World, wo = wr := ⟨_, rfl⟩
      have HB0 := Lib.hid (heap_alloc_new wo (.cells #[.int .i64 (k : Int), .int .u64 1, .slice none 0 0, .bool false, .int .i64 0] 44))
      have HK0 := Lib.hid ((Kept.refl NoB wo).alloc (.cells #[.int .i64 (k : Int), .int .u64 1, .slice none 0 0, .bool false, .int .i64 0] 44))
      go_loopw [7, 10] (fun n i wr => ∃ (m : Nat) (qb : Option Addr) (qd : Nat), i = .int .i64 m ∧ m ≤ per ∧ n = .int .i64 ((kp + m : Nat) : Int) ∧ wr.heap[wo.heap.size]? = some (.cells #[.int .i64 (k : Int), .int .u64 1, .slice qb m qd, .bool false, .int .i64 0] 44 (0, 0)) ∧ IOwn (wo.heap.size + 1) wr (.slice qb m qd) ((beg1 per k).ns.take m) ∧ Kept NoB wo wr) (fun _ i _ => per - (intOf i).toNat)
      case atStart => exact ⟨0, none, 0, rfl, Nat.zero_le _, rfl, HB0.out, IOwn.nil _ _, HK0.out⟩
      case round =>
        obtain ⟨m, qb, qd, rfl, hm, rfl, hrow, hio, hkw⟩ := hrel
        have HROW := Lib.hid hrow
        have HIO := Lib.hid hio
        have HKW := Lib.hid hkw
        have hln : ((beg1 per k).ns.take m).length = m := by rw [List.length_take, beg1_ns]; omega
        have HLN := Lib.hid hln
        have hgs := heap_lt hrow
        clear hio hkw hln
        by_cases hml : m < per
        · have hm1 : (m : Int) < (per : Int) := by omega
          have HTK : Hid ((beg1 per k).ns.take (m + 1) = (beg1 per k).ns.take m ++ [(((kp + m : Nat) : Int) + 1)]) := Lib.hid (by rw [take_one (by rw [beg1_ns]; exact hml), beg1_at hml, ← HKP.out]; rfl)
          obtain ⟨M, hM⟩ : ∃ M, M = (beg1 per k).ns.take m := ⟨_, rfl⟩
          rw [← hM] at HIO HLN HTK
          clear hM
          obtain ⟨n0, hn0⟩ : ∃ n0, n0 = kp + m := ⟨_, rfl⟩
          rw [← hn0] at HTK ⊢
          have hn0b : n0 ≤ 25 := by omega
          have HN0 := Lib.hid hn0
          clear hn0
          have HO1 := Lib.hid (row_keptI HIO.out ((Kept.refl NoB wr).alloc (.cells #[.int .i64 ((n0 : Int) + 1)] 3)) (fun _ _ h => h))
          have HON := Lib.hid (nsl_one (heap_alloc_new wr (.cells #[.int .i64 ((n0 : Int) + 1)] 3)))
          have HSZ : Hid (wo.heap.size + 1 ≤ (wr.alloc (.cells #[.int .i64 ((n0 : Int) + 1)] 3)).heap.size) := Lib.hid (by simp; omega)
          obtain ⟨c0, c1, c2, c3, c4⟩ := cells5 hrow
          have HM5 : Hid (M.length + 1 ≤ 100000) := Lib.hid (by rw [HLN.out]; omega)
          rw [← HLN.out] at HO1
          clear hrow
          go_wp2_with (at_builtin; refine wpList_append_nsl _ rfl (.tmp 40) (.tmp 42) rfl (wo.heap.size + 1) (.slice qb M.length qd) M (by rw [HLN.out] <;> rfl) HO1.out (fun _ => True) (.slice (some ⟨wr.heap.size, 0, none⟩) 1 1) [(n0 : Int) + 1] rfl HON.out (by simpa using HM5.out) HSZ.out ?_; intro a1 e1 w3 hown1 hg1 hat1; have hk3 : Kept (fun b => (Value.slice qb M.length qd).ownBlock = some b) wr w3 := ((Kept.refl _ wr).alloc _).grown hg1 (fun b hb => .inl hb); have hrow3 := hk3.heap (fun h => by have := (World.ownsRow.lt HO1.out _ h).1; omega) HROW.out; obtain ⟨d0, d1, d2, d3, d4⟩ := cells5 hrow3; have z2 : w3.frozen? ⟨wo.heap.size, 2, none⟩ = false := (by simp [World.frozen?, hrow3]); have HOWN1 := Lib.hid hown1; have HROW3 := Lib.hid hrow3; have HKW3 := Lib.hid ((HKW.out.alloc (.cells #[.int .i64 ((n0 : Int) + 1)] 3)).grown hg1 (fun b hb => .inr (by have := (World.ownsRow.lt HO1.out _ hb).1; omega))); clear hown1 hg1 hat1 hk3 hrow3 c0 c1 c2 c3 c4)
          rw [List.length_singleton, HLN.out] at HOWN1
          go_roundw
          case rel =>
            refine ⟨m + 1, a1, e1, by go_num, by omega, by rw [show kp + (m + 1) = n0 + 1 by rw [HN0.out]; omega]; go_num, by rw [HLN.out]; exact bset1 HROW3.out 2 _, ?_, HKW3.out.setCell (p := ⟨wo.heap.size, 2, none⟩) (.inr (Nat.le_refl _)) _⟩
            rw [HTK.out]
            exact row_keptI HOWN1.out ((Kept.refl (fun i => i = wo.heap.size) w3).setCell (p := ⟨wo.heap.size, 2, none⟩) (.inl rfl) _) (fun b hb h => by have := (World.ownsRow.lt HOWN1.out b hb).1; omega)
          case measure => simp [intOf]; omega
        · obtain rfl : m = per := by omega
          have HNS : Hid ((beg1 m k).ns.take m = (beg1 m k).ns) := Lib.hid (List.take_of_length_le (by rw [beg1_ns]; omega))
          rw [HNS.out] at HIO HLN
          obtain ⟨c0, c1, c2, c3, c4⟩ := cells5 hrow
          have HKA := Lib.hid (HKW.out.alloc (.cells #[.int .i64 (k : Int), .int .u64 1, .slice qb m qd, .bool false, .int .i64 0] 44))
          have HKO := Lib.hid (HO.out.kept HKA.out (fun _ _ h => h))
          have HBB : Hid ((wr.alloc (.cells #[.int .i64 (k : Int), .int .u64 1, .slice qb m qd, .bool false, .int .i64 0] 44)).heap[wr.heap.size]? = some (.cells #[.int .i64 (beg1 m k).ch, .int .u64 (beg1 m k).ep, .slice qb m qd, .bool (beg1 m k).fr, .int .i64 (beg1 m k).jn] 44 (0, 0))) := Lib.hid (heap_alloc_new wr _)
          have HSZ : Hid (w.heap.size ≤ (wr.alloc (.cells #[.int .i64 (k : Int), .int .u64 1, .slice qb m qd, .bool false, .int .i64 0] 44)).heap.size) := Lib.hid (by have := HK.out.size; simp; omega)
          clear hrow
          go_wp2_with (at_builtin; refine wpList_append_kc _ rfl (.tmp 45) (.tmp 47) rfl w.heap.size (.slice qa ps.length qc) ps rfl HKO.out wr.heap.size (beg1 m k) (.slice qb m qd) rfl HBB.out rfl (by have := HPL.out; omega) HSZ.out ?_; intro a1 e1 w3 hown1 hg1 hat1; have HOWN1 := Lib.hid hown1; have HG1 := Lib.hid hg1; have HAT1 := Lib.hid hat1; clear hown1 hg1 hat1)
          refine ⟨⟨k + 1, ps ++ [(beg1 m k, .slice qb m qd)], by go_num, by omega, ?_, ?_, ?_, ?_, ?_⟩, by simp [intOf]; omega⟩
          · rw [Nat.add_mul, ← HKP.out, Nat.one_mul]; go_num
          · rw [List.map_append, HMAP.out, List.range_succ, List.map_append]; rfl
          · exact HOWN1.out
          · have hks : Kept (fun b => (Value.slice qa ps.length qc).ownBlock = some b) wo w3 := (HKA.out.mono (fun _ _ h => absurd h (fun h => h))).grown HG1.out (fun b hb => .inl hb)
            have hks2 : Kept (fun b => (Value.slice qa ps.length qc).ownBlock = some b) wr w3 := ((Kept.refl _ wr).alloc _).grown HG1.out (fun b hb => .inl hb)
            have hlo : ∀ b, (Value.slice qa ps.length qc).ownBlock = some b → b < wo.heap.size := fun b hb => (World.ownsRow.lt HO.out b hb).2
            have hnw : ∀ b, b < wr.heap.size → (Value.slice qa ps.length qc).ownBlock ≠ some b → (Value.slice a1 (ps.length + 1) e1).ownBlock ≠ some b := fun b hb hne he => by
              rcases HAT1.out with h | h
              · exact hne (h ▸ he)
              · rw [h] at he
                injection he with he
                have : (wr.alloc (.cells #[.int .i64 (k : Int), .int .u64 1, .slice qb m qd, .bool false, .int .i64 0] 44)).heap.size = wr.heap.size + 1 := by simp
                omega
            intro p hp
            rcases List.mem_append.1 hp with hp | hp
            · have hz := HKW.out.size
              exact (((HN.out p hp).mono (G := fun b => (w.heap.size ≤ b ∧ (Value.slice a1 (ps.length + 1) e1).ownBlock ≠ some b) ∧ (Value.slice qa ps.length qc).ownBlock ≠ some b) (fun b hb h => ⟨⟨h.1, hnw b (by omega) h.2⟩, h.2⟩)).kept hks (fun b _ h => h.2)).mono (fun _ _ h => h.1)
            · obtain rfl : p = (beg1 m k, .slice qb m qd) := by simpa using hp
              have hz := HK.out.size
              refine ((HIO.out.nsl (F := fun b => (w.heap.size ≤ b ∧ (Value.slice a1 (ps.length + 1) e1).ownBlock ≠ some b) ∧ (Value.slice qa ps.length qc).ownBlock ≠ some b) (fun b hb => ?_)).kept hks2 (fun b _ h => h.2)).mono (fun _ _ h => h.1)
              have hbb := World.ownsRow.lt HIO.out b hb
              have hne : (Value.slice qa ps.length qc).ownBlock ≠ some b := fun h => by have := hlo b h; omega
              exact ⟨⟨by omega, hnw b hbb.2 hne⟩, hne⟩
          · exact (HK.out.trans HKA.out (fun _ _ h => h)).grown HG1.out (fun b hb => .inr (World.ownsRow.lt HO.out b hb).1)
    · obtain rfl : k = chains := by omega
      have h24 : decide (24 < (kp : Int)) = false := decide_eq_false (by omega)
      have hcf : CfsAt wr (fun b => w.heap.size ≤ b) (.slice qa ps.length qc) (ps.map Prod.fst) := HO.out.cfs (fun b hb => (World.ownsRow.lt HO.out b hb).1) (fun p hp => by
        have hp1 : p.1 ∈ (List.range k).map (beg1 per) := HMAP.out ▸ List.mem_map_of_mem hp
        obtain ⟨j, _, hj⟩ := List.mem_map.1 hp1
        refine ⟨(HN.out p hp).mono (fun _ _ h => h.1), ?_⟩
        rw [← hj]
        exact ⟨by show (0 : Int) ≤ 1; omega, by show (1 : Int) ≤ topE; unfold topE; omega, by rw [beg1_ns]; omega⟩)
      rw [HMAP.out] at hcf
      have HC := Lib.hid hcf
      clear hcf
      go_wp2
      go_ret2
      exact ⟨_, (by rw [HBX.out.2] <;> rfl), (by rw [HBX.out.1]; exact HC.out), HK.out⟩
end Go.Proofs.YtclfecninhipnaaGreatDoor
namespace Go.Proofs.YtclfecninhipnaaGreatDoor
open Go.RowKit
set_option linter.unusedVariables false
set_option linter.unusedSimpArgs false

theorem RBegin_any (chains per : Int) (w : World) : Calls Tryz.prog 4 #[.int .i64 chains, .int .i64 per] w (BegE chains per w) := by
  cases h : begB chains per with
  | false => exact RBegin_bad chains per w h
  | true =>
    have hb : 1 ≤ chains ∧ chains ≤ 4 ∧ 1 ≤ per ∧ per ≤ 5 := of_decide_eq_true h
    obtain ⟨c, rfl⟩ := Int.eq_ofNat_of_zero_le (show 0 ≤ chains by omega)
    obtain ⟨p, rfl⟩ := Int.eq_ofNat_of_zero_le (show 0 ≤ per by omega)
    exact RBegin_good c p w (by omega) (by omega) (by omega) (by omega)
theorem set_some {c : Cf} (h : Rgt c) : ∃ x, x ∈ c.set := by
  rw [set_rgt h]
  obtain ⟨r1, r2, r3, r4, r5, r6, r7⟩ := h
  cases hf : c.fr with
  | false =>
    rw [if_neg (by simp)]
    exact ⟨_, List.getElem_mem (n := 0) (by omega)⟩
  | true =>
    have := (r6 hf).1
    rw [if_pos rfl]
    exact ⟨_, List.getElem_mem (n := 0) (by rw [List.length_take]; omega)⟩
/-- What one command does, chain by chain. -/
structure Stp (l l' : List Cf) (ok : Bool) (k ch : Int) : Prop where
  len : l'.length = l.length
  all : AllC l'
  moved : ∀ c, c < l.length → ok = true → k ≠ 0 → ch = (c : Int) → (nthC l' c).ep = (nthC l c).ep + 1 ∧ (nthC l c).ep ≠ topE
  stays : ∀ c, c < l.length → ¬ (ok = true ∧ k ≠ 0 ∧ ch = (c : Int)) → nthC l' c = nthC l c
  meet : ∀ c, c < l.length → meetB (nthC l c).set (nthC l' c).set = true
  ord : ∀ c, c < l.length → Ordd (nthC l c).ns (nthC l' c).ns
theorem stp_same {l : List Cf} {ok : Bool} {k ch : Int} (hA : AllC l) (hno : ∀ c : Nat, c < l.length → ¬ (ok = true ∧ k ≠ 0 ∧ ch = (c : Int))) : Stp l l ok k ch where
  len := rfl
  all := hA
  moved := fun c hc h1 h2 h3 => absurd ⟨h1, h2, h3⟩ (hno c hc)
  stays := fun _ _ _ => rfl
  meet := fun c hc => by
    obtain ⟨x, hx⟩ := set_some (hA.2.2 c hc).1
    exact meet_of hx hx
  ord := fun c _ => Ordd.refl _
theorem stp_of {l : List Cf} {e0 k ch ep nd : Int} (hA : AllC l) (hx : Chk k ch ep nd e0) (hbd : ∀ j, j < l.length → (nthC l j).ep ≤ topE) : Stp l (doC l e0 k ch ep nd) (decide (canC l e0 k ch ep nd = 0)) k ch := by
  by_cases hc : canC l e0 k ch ep nd = 0
  · obtain ⟨_, rfl, hk⟩ := can_ok hc
    have hv := Chk.ok.1 hx
    by_cases k0 : k = 0
    · subst k0
      rw [doC_zero]
      exact stp_same hA (fun c _ h => h.2.1 rfl)
    · rcases hk with hk | ⟨_, h1, h2, h3, h4⟩
      · exact absurd hk k0
      rw [doC_yes hc k0]
      unfold Vld at hv
      have hch0 : 0 ≤ ch := by omega
      have hk1 : 1 ≤ k := by unfold Chk at hx; omega
      have hk4 : k ≤ 4 := by unfold Chk at hx; omega
      have hn1 : 1 ≤ nd := by omega
      have hn2 : nd ≤ 24 := by omega
      obtain ⟨i, rfl⟩ := Int.eq_ofNat_of_zero_le hch0
      have hi : i < l.length := by omega
      obtain ⟨ha, hg⟩ := do_all hA hk1 hk4 hch0 h1 hn1 hn2 h3 h4 (hbd _ (by rw [Int.toNat_natCast]; exact hi))
      rw [Int.toNat_natCast] at *
      have hat : nthC (l.set i (madeC (nthC l i) k nd)) i = madeC (nthC l i) k nd := nthC_sets hi _
      have hfar : ∀ c, c ≠ i → nthC (l.set i (madeC (nthC l i) k nd)) c = nthC l c := fun c hne => by rw [nthC_set hi, if_neg hne]
      refine ⟨by simp, ha, fun c hcl _ _ he => ?_, fun c hcl hno => ?_, fun c hcl => ?_, fun c hcl => ?_⟩
      · obtain rfl : i = c := by omega
        rw [hat]
        exact ⟨hg.ep, h4⟩
      · refine hfar c (fun e => ?_)
        subst e
        exact hno ⟨decide_eq_true hc, k0, rfl⟩
      · by_cases e : c = i
        · subst e
          rw [hat]
          obtain ⟨x, x1, x2⟩ := hg.set
          exact meet_of x1 x2
        · rw [hfar c e]
          obtain ⟨x, hx⟩ := set_some (hA.2.2 c hcl).1
          exact meet_of hx hx
      · by_cases e : c = i
        · subst e
          rw [hat]
          exact hg.ns
        · rw [hfar c e]
          exact Ordd.refl _
  · rw [doC_no hc]
    exact stp_same hA (fun c _ h => hc (of_decide_eq_true h.1))
end Go.Proofs.YtclfecninhipnaaGreatDoor
