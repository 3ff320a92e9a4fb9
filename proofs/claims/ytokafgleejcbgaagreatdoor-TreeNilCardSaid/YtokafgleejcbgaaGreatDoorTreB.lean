/-
  Layer 31: a tree in memory; size, Need, more, hasRoom, has.
-/
import Derived.Test.YtokafgleejcbgaaGreatDoorTreA
import Derived.StringKeys
import Derived.Deep.QuietTactic
import Derived.BigQuiet
import Derived.BigRegion
import Derived.Deep.RegionLaw
import Derived.Deep.RegionHeld3
namespace Go.Proofs.YtokafgleejcbgaaGreatDoor
open Go.RowKit
set_option linter.unusedVariables false
set_option maxRecDepth 100000
set_option maxHeartbeats 1000000

theorem zero_it31 (w : World) : (zeroValue 43).run Tryz.prog w = .ok (.pointer none) w := by kernel_rfl
def lookV (o : Option It) : Value := (o.map itv).getD (.pointer none)
/-- 'v, ok := m[s]'. -/
theorem run_look31 {w : World} {bm : Nat} {L : List It} (h : MapT w bm L) (s : ByteArray) (hs : s.size ≤ maxLen) :
    (Instr.lookup 47 (.map (some bm)) (.string s) true).run Tryz.prog w = .ok (.tuple #[lookV (atT L s.data.toList), .bool (atT L s.data.toList).isSome]) w := by
  obtain ⟨v, ps, hrun, hv⟩ := h.2.look_ok (t := 47) keyed_str31 mapty31 (zero_it31 w) (zd := .held (.pointer none)) (zp := []) rfl (WideMaps.keyOf_string_mk Tryz.underlying9 hs)
  rw [datT_at] at hv
  unfold heldT at hv
  injection hv with hv
  injection hv with h1 h2
  injection h1 with h1
  rw [hrun, h1, datT_has]
  rfl
/-- 'm[s]'. -/
theorem run_look31_one {w : World} {bm : Nat} {L : List It} (h : MapT w bm L) (s : ByteArray) (hs : s.size ≤ maxLen) :
    (Instr.lookup 47 (.map (some bm)) (.string s) false).run Tryz.prog w = .ok (lookV (atT L s.data.toList)) w := by
  obtain ⟨v, ps, hrun, hv⟩ := h.2.lookup (t := 47) keyed_str31 mapty31 (zero_it31 w) (zd := .held (.pointer none)) (zp := []) rfl (WideMaps.keyOf_string_mk Tryz.underlying9 hs)
  rw [datT_at] at hv
  unfold heldT at hv
  injection hv with hv
  injection hv with h1 h2
  injection h1 with h1
  rw [hrun, h1]
  rfl
section
variable (w : World) {ops : Array Oper} {rest : List Oper} {o : Oper} {a : Act} {Q : Exit → Act → World → Prop}
/-- 'm[s] = v'. -/
theorem run_store31 (bm : Nat) (L : List It) (v : It) (s : ByteArray) (hsv : s.data.toList = v.p) (hown : MapT w bm L) (hs : s.size ≤ maxLen) (hl : L.length ≤ 100000) :
    ∃ w', (Instr.mapUpdate 47 (.map (some bm)) (.string s) (itv v)).run Tryz.prog w = .ok () w' ∧ MapT w' bm (putT L v) ∧ w.grownBy w' (some bm) := by
  obtain ⟨w', h1, h2, h3⟩ := hown.2.update (t := 47) keyed_str31 mapty31 (by unfold maxLen; omega) (WideMaps.keyOf_string_mk Tryz.underlying9 hs) (val := itv v) (d := .held (itv v)) (ps := []) rfl
  rw [hsv, datT_put v hown.1] at h2
  exact ⟨w', h1, ⟨putT_srt v hown.1, own_exactT h2⟩, h3⟩
theorem wpList_store31 (hg : o.guard = none) (m x y : Operand) (hop : o.op = Op.mapUpdate 47 m x y)
    (bm : Nat) (L : List It) (v : It) (s : ByteArray) (hsv : s.data.toList = v.p) (hm : a.eval m = .map (some bm)) (hx : a.eval x = .string s) (hy : a.eval y = itv v) (hown : MapT w bm L) (hs : s.size ≤ maxLen) (hl : L.length ≤ 100000)
    (hK : ∀ w', MapT w' bm (putT L v) → w.grownBy w' (some bm) → wpList Tryz.prog ops Q rest (a.put o.dst undef) w') : wpList Tryz.prog ops Q (o :: rest) a w :=
  wpList_plain hg fun K' hK' => by
    obtain ⟨w', hrun, r1, r2⟩ := run_store31 w bm L v s hsv hown hs hl
    unfold Oper.wp
    simp [execOp, hop, hm, hx, hy, hrun, Result.andThen]
    exact hK' _ _ (hK w' r1 r2)
/-- 'v, ok := m[s]'. -/
theorem wpList_look31 (hg : o.guard = none) (m x : Operand) (hop : o.op = Op.lookup 47 m x true) (bm : Nat) (L : List It) (s : ByteArray) (hm : a.eval m = .map (some bm)) (hown : MapT w bm L) (hx : a.eval x = .string s) (hs : s.size ≤ maxLen)
    (hK : wpList Tryz.prog ops Q rest (a.put o.dst (.tuple #[lookV (atT L s.data.toList), .bool (atT L s.data.toList).isSome])) w) : wpList Tryz.prog ops Q (o :: rest) a w :=
  wpList_plain hg fun K' hK' => by
    have hrun := run_look31 hown s hs
    unfold Oper.wp
    simp [execOp, hop, hm, hx, hrun, Result.andThen]
    exact hK' _ _ hK
/-- 'len(m)'. -/
theorem wpList_len31 (hg : o.guard = none) (m : Operand) (hop : o.op = Op.call { callee := Callee.builtin Builtin.len, args := #[m], argTypes := #[47] })
    (bm : Nat) (L : List It) (hm : a.eval m = .map (some bm)) (hown : MapT w bm L) (hK : wpList Tryz.prog ops Q rest (a.put o.dst (.int .i64 L.length)) w) : wpList Tryz.prog ops Q (o :: rest) a w :=
  wpList_len_own w hg m 47 hop 9 43 mapty31 heldT bm L.length (datT L) hm hown.2 (by
    have : Maps.size (datT L) = L.length := by simp [datT, Maps.size]
    rw [this]
    exact hK)
end
/-- How many blocks so many bytes need. -/
def nd31 (s : Int) : Int := if s ≤ 0 then 0 else (s - 1) / 64 + 1
theorem Need31_any (s : Int) (w : World) (h0 : -9223372036854775808 ≤ s) (h1 : s ≤ 9223372036854775807) : Calls Tryz.prog 27 #[.int .i64 s] w fun e w' => e = .returned (.int .i64 (nd31 s)) ∧ w = w' := by
  unfold nd31
  by_cases h : s ≤ 0
  · rw [if_pos h]
    go_enter Tryz.func27, Tryz.ntmps27
    go_wp2
    go_ret
    exact ⟨rfl, rfl⟩
  · rw [if_neg h]
    have h2 : 0 ≤ s - 1 := by omega
    go_enter Tryz.func27, Tryz.ntmps27
    go_wp2
    go_ret
    exact ⟨rfl, rfl⟩
theorem nd31_bd {s : Int} (h0 : -1000 ≤ s) (h : s ≤ 2000) : 0 ≤ nd31 s ∧ nd31 s ≤ 32 := by unfold nd31; split <;> omega
theorem nd31_le {s : Int} (h : s ≤ 512) : nd31 s ≤ 8 := by unfold nd31; split <;> omega
/-- How many bytes an item has. -/
def sz31 (x : It) : Nat := if x.dir then x.n * 16 else x.d.length
/-- An item in memory. -/
def ItC (w : World) (x : It) : Prop := ∃ a c, w.heap[x.b]? = some (.cells #[.bool x.dir, .slice a x.d.length c, .int .i64 x.n] 51 (0, 0)) ∧ BSl w x.G (.slice a x.d.length c) x.d
theorem ItC.cells {w : World} {x : It} (h : ItC w x) : ∃ a c, w.cell? ⟨x.b, 0, none⟩ = some (.bool x.dir) ∧ w.cell? ⟨x.b, 1, none⟩ = some (.slice a x.d.length c) ∧ w.cell? ⟨x.b, 2, none⟩ = some (.int .i64 x.n) := by
  obtain ⟨a, c, h, _⟩ := h
  exact ⟨a, c, cell_of_row _ _ 0 _ _ _ h, cell_of_row _ _ 1 _ _ _ h, cell_of_row _ _ 2 _ _ _ h⟩
theorem ItC.kept {S : Nat → Prop} {w w' : World} {x : It} (h : ItC w x) (hk : Kept S w w') (h1 : ¬ S x.b) (h2 : ∀ k, x.G k → ¬ S k) : ItC w' x := by
  obtain ⟨a, c, h, h'⟩ := h
  exact ⟨a, c, hk.heap h1 h, h'.kept hk h2⟩
theorem ItC.lt {w : World} {x : It} (h : ItC w x) : x.b < w.heap.size := by obtain ⟨_, _, h, _⟩ := h; exact heap_lt h
theorem size31_any (w : World) (x : It) (h : ItC w x) (h1 : x.d.length ≤ 1000000) (h2 : x.n ≤ 1000000) : Calls Tryz.prog 28 #[itv x] w fun e w' => e = .returned (.int .i64 (sz31 x)) ∧ w = w' := by
  obtain ⟨a, c, c0, c1, c2⟩ := h.cells
  unfold sz31 itv
  cases hd : x.dir with
  | true =>
    rw [hd] at c0
    have w1 : IntKind.i64.wrap ((x.n : Int) * 16) = ((x.n * 16 : Nat) : Int) := by rw [IntWalk.i64_in _ (by omega)]; omega
    obtain ⟨N, hN⟩ : ∃ N, N = x.n * 16 := ⟨_, rfl⟩
    rw [if_pos rfl]
    rw [← hN] at w1 ⊢
    clear hN h hd c1
    go_enter Tryz.func28, Tryz.ntmps28
    go_wp2
    go_ret
    exact ⟨rfl, rfl⟩
  | false =>
    rw [hd] at c0
    rw [if_neg (by simp)]
    clear h hd c2
    go_enter Tryz.func28, Tryz.ntmps28
    go_wp2
    go_ret
    exact ⟨rfl, rfl⟩
/-- How many blocks an item needs more with so many bytes more. -/
def more31 (x : It) (by_ : Int) : Int := nd31 ((sz31 x : Int) + by_) - nd31 (sz31 x : Int)
theorem more31_any (w : World) (x : It) (b : Int) (h : ItC w x) (h1 : x.d.length ≤ 512) (h2 : x.n ≤ 32) (b0 : -1000 ≤ b) (b1 : b ≤ 1000) :
    Calls Tryz.prog 41 #[itv x, .int .i64 b] w fun e w' => e = .returned (.int .i64 (more31 x b)) ∧ w = w' := by
  have HS := Lib.hid (size31_any w x h (by omega) (by omega))
  unfold more31
  have hsz : sz31 x ≤ 512 := by unfold sz31; split <;> omega
  obtain ⟨z, hz⟩ : ∃ z, z = sz31 x := ⟨_, rfl⟩
  rw [← hz] at HS hsz ⊢
  have HN1 := Lib.hid (Need31_any ((z : Int) + b) w (by omega) (by omega))
  have HN2 := Lib.hid (Need31_any (z : Int) w (by omega) (by omega))
  have hb1 := nd31_bd (s := (z : Int) + b) (by omega) (by omega)
  have hb2 := nd31_bd (s := (z : Int)) (by omega) (by omega)
  obtain ⟨q, hq⟩ : ∃ q, q = (z : Int) + b := ⟨_, rfl⟩
  have w1 : IntKind.i64.wrap ((z : Int) + b) = q := by rw [hq]; exact IntWalk.i64_in _ (by omega)
  rw [← hq] at HN1 hb1 ⊢
  obtain ⟨n1, hn1⟩ : ∃ n, n = nd31 q := ⟨_, rfl⟩
  obtain ⟨n2, hn2⟩ : ∃ n, n = nd31 (z : Int) := ⟨_, rfl⟩
  rw [← hn1] at HN1 hb1 ⊢
  rw [← hn2] at HN2 hb2 ⊢
  have w2 : IntKind.i64.wrap (n1 - n2) = n1 - n2 := IntWalk.i64_in _ (by omega)
  clear h h1 h2 b0 b1 hsz hz hb1 hb2 hq hn1 hn2
  unfold itv at HS ⊢
  go_enter Tryz.func41, Tryz.ntmps41
  go_wp2_with (first
    | (go_at_call 28; refine HS.out.mono ?_; rintro e w1 ⟨rfl, rfl⟩)
    | (have hm := M1; clear hm; go_at_call 27; refine HN2.out.mono ?_; rintro e w1 ⟨rfl, rfl⟩)
    | (go_at_call 27; refine HN1.out.mono ?_; rintro e w1 ⟨rfl, rfl⟩; have M1 := Lib.hid trivial))
  go_ret
  exact ⟨rfl, rfl⟩
def room31 (x : It) : Bool := decide (nd31 ((sz31 x : Int) + 16) ≤ 8)
theorem hasRoom31_any (w : World) (x : It) (h : ItC w x) (h1 : x.d.length ≤ 512) (h2 : x.n ≤ 32) :
    Calls Tryz.prog 39 #[itv x] w fun e w' => e = .returned (.bool (room31 x)) ∧ w = w' := by
  have HS := Lib.hid (size31_any w x h (by omega) (by omega))
  unfold room31
  have hsz : sz31 x ≤ 512 := by unfold sz31; split <;> omega
  obtain ⟨z, hz⟩ : ∃ z, z = sz31 x := ⟨_, rfl⟩
  rw [← hz] at HS hsz ⊢
  have HN1 := Lib.hid (Need31_any ((z : Int) + 16) w (by omega) (by omega))
  obtain ⟨q, hq⟩ : ∃ q, q = (z : Int) + 16 := ⟨_, rfl⟩
  have w1 : IntKind.i64.wrap ((z : Int) + 16) = q := by rw [hq]; exact IntWalk.i64_in _ (by omega)
  rw [← hq] at HN1 ⊢
  obtain ⟨n1, hn1⟩ : ∃ n, n = nd31 q := ⟨_, rfl⟩
  rw [← hn1] at HN1 ⊢
  clear h h1 h2 hsz hz hq hn1
  unfold itv at HS ⊢
  go_enter Tryz.func39, Tryz.ntmps39
  go_wp2_with (first
    | (go_at_call 28; refine HS.out.mono ?_; rintro e w1 ⟨rfl, rfl⟩)
    | (go_at_call 27; refine HN1.out.mono ?_; rintro e w1 ⟨rfl, rfl⟩))
  go_ret
  exact ⟨rfl, rfl⟩
/-- The blocks that a tree's calls write: the map, and the items. -/
def Foot31 (bm : Nat) (L : List It) (k : Nat) : Prop := k = bm ∨ ∃ x ∈ L, k = x.b
/-- Block g is a tree of that shape, with these items, in the map of block bm. -/
structure TrAt (w : World) (g bm : Nat) (I B : Int) (L : List It) : Prop where
  c : w.heap[g]? = some (.cells #[.int .i64 I, .int .i64 B, .map (some bm)] 49 (0, 0))
  mp : MapT w bm L
  it : ∀ x ∈ L, ItC w x
  uq : ∀ x ∈ L, ∀ y ∈ L, x.b = y.b → x = y
  own : ∀ x ∈ L, ∀ k, x.G k → ¬ Foot31 bm L k ∧ k < w.heap.size
  bd : ∀ x ∈ L, x.d.length ≤ 512 ∧ x.n ≤ 32
  len : L.length ≤ 1000
  sh : 1 ≤ I ∧ I ≤ 64 ∧ 1 ≤ B ∧ B ≤ 96
theorem TrAt.cc {w : World} {g bm : Nat} {I B : Int} {L : List It} (h : TrAt w g bm I B L) : w.cell? ⟨g, 0, none⟩ = some (.int .i64 I) ∧ w.cell? ⟨g, 1, none⟩ = some (.int .i64 B) ∧ w.cell? ⟨g, 2, none⟩ = some (.map (some bm)) :=
  ⟨cell_of_row _ _ 0 _ _ _ h.c, cell_of_row _ _ 1 _ _ _ h.c, cell_of_row _ _ 2 _ _ _ h.c⟩
theorem TrAt.foot_lt {w : World} {g bm : Nat} {I B : Int} {L : List It} (h : TrAt w g bm I B L) {k : Nat} (hk : Foot31 bm L k) : k < w.heap.size := by
  rcases hk with rfl | ⟨x, hx, rfl⟩
  · exact h.mp.lt
  · exact (h.it x hx).lt
theorem TrAt.g_foot {w : World} {g bm : Nat} {I B : Int} {L : List It} (h : TrAt w g bm I B L) : ¬ Foot31 bm L g := by
  rintro (e | ⟨x, hx, e⟩)
  · exact h.mp.ne h.c e.symm
  · obtain ⟨a, c, hc, _⟩ := h.it x hx
    have := h.c
    rw [e, hc] at this
    injection this with this
    injection this with _ this
    exact absurd this (by decide)
theorem TrAt.kept {S : Nat → Prop} {w w' : World} {g bm : Nat} {I B : Int} {L : List It} (h : TrAt w g bm I B L) (hk : Kept S w w') (hs : ∀ k, k < w.heap.size → (k = g ∨ Foot31 bm L k ∨ ∃ x ∈ L, x.G k) → ¬ S k) : TrAt w' g bm I B L where
  c := hk.heap (hs g (heap_lt h.c) (.inl rfl)) h.c
  mp := h.mp.kept hk (hs bm h.mp.lt (.inr (.inl (.inl rfl))))
  it := fun x hx => (h.it x hx).kept hk (hs x.b (h.it x hx).lt (.inr (.inl (.inr ⟨x, hx, rfl⟩)))) (fun k hG => hs k (h.own x hx k hG).2 (.inr (.inr ⟨x, hx, hG⟩)))
  uq := h.uq
  own := fun x hx k hG => ⟨(h.own x hx k hG).1, Nat.lt_of_lt_of_le (h.own x hx k hG).2 hk.size⟩
  bd := h.bd
  len := h.len
  sh := h.sh
theorem TrAt.no {w w' : World} {g bm : Nat} {I B : Int} {L : List It} (h : TrAt w g bm I B L) (hk : Kept NoB w w') : TrAt w' g bm I B L := h.kept hk (fun _ _ _ h => h)
theorem has31_any (w : World) (g bm : Nat) (I B : Int) (L : List It) (s : ByteArray) (h : TrAt w g bm I B L) (hs : s.size ≤ 1000000) :
    Calls Tryz.prog 38 #[.pointer (some ⟨g, 0, none⟩), .string s] w fun e w' => e = .returned (.bool (atT L s.data.toList).isSome) ∧ w = w' := by
  obtain ⟨c0, c1, c2⟩ := h.cc
  have HM := Lib.hid h.mp
  have HSM : Hid (s.size ≤ maxLen) := Lib.hid (by unfold maxLen; omega)
  obtain ⟨q, hq⟩ : ∃ q, q = atT L s.data.toList := ⟨_, rfl⟩
  have HQ := Lib.hid hq
  rw [← hq]
  clear h hq hs
  go_enter Tryz.func38, Tryz.ntmps38
  go_wp2_with (at_lookup; refine wpList_look31 _ rfl _ _ rfl bm L s rfl HM.out rfl HSM.out ?_; rw [← HQ.out])
  go_ret
  exact ⟨rfl, rfl⟩
theorem Inodes31_any (w : World) (g bm : Nat) (I B : Int) (L : List It) (h : TrAt w g bm I B L) :
    Calls Tryz.prog 7 #[.pointer (some ⟨g, 0, none⟩)] w fun e w' => e = .returned (.int .i64 L.length) ∧ w = w' := by
  obtain ⟨c0, c1, c2⟩ := h.cc
  have HM := Lib.hid h.mp
  clear h
  go_enter Tryz.func7, Tryz.ntmps7
  go_wp2_with (at_len; refine wpList_len31 _ rfl _ rfl bm L rfl HM.out ?_)
  go_ret
  exact ⟨rfl, rfl⟩
end Go.Proofs.YtokafgleejcbgaaGreatDoor
