/-
  Package role: inside.
-/
import Derived.Test.YtajneoaljpljpaaRolB
namespace Go.Proofs.Ytajneoaljpljpaa
open Go.RowKit
set_option linter.unusedVariables false

def nearV (c : Cf) (x : Int) : Int := if x < 0 then 0 else if (c.ns.length : Int) - 1 < x then c.jn else c.ns.getD x.toNat 0
/-- What a place's neighbour's literal reads: the last place, and the configuration. -/
structure NearB (w : World) (F : Nat → Prop) (c : Cf) (g b : Nat) (ua : Option Addr) (uc : Nat) : Prop where
  last : w.cell? ⟨g, 0, none⟩ = some (.int .i64 ((c.ns.length : Int) - 1))
  nodes : w.cell? ⟨b, 2, none⟩ = some (.slice ua c.ns.length uc)
  join : w.cell? ⟨b, 4, none⟩ = some (.int .i64 c.jn)
  row : NSl w F (.slice ua c.ns.length uc) c.ns
set_option maxRecDepth 100000 in
theorem near_any (x : Int) (c : Cf) (g b : Nat) (ua : Option Addr) (uc : Nat) (F : Nat → Prop) (w : World) (hx : -1 ≤ x ∧ x ≤ 1000000) (h : NearB w F c g b ua uc) (hl : c.ns.length ≤ 1000) :
    Calls Try.prog 35 #[.int .i64 x, .pointer (some ⟨g, 0, none⟩), .pointer (some ⟨b, 0, none⟩)] w fun e w' => e = .returned (.int .i64 (nearV c x)) ∧ w = w' := by
  obtain ⟨hg, h2, h4, hn⟩ := h
  have HN := Lib.hid hn
  have HD : Hid (nearV c x = if x < 0 then 0 else if (c.ns.length : Int) - 1 < x then c.jn else c.ns.getD x.toNat 0) := Lib.hid rfl
  obtain ⟨d, hd⟩ : ∃ d, d = nearV c x := ⟨_, rfl⟩
  rw [← hd] at HD ⊢
  obtain ⟨ch, ep, ns, fr, jn⟩ := c
  simp only at hg h2 h4 HN HD hl ⊢
  clear hd hn
  by_cases h1 : x < 0
  · have hd1 : decide (x < 0) = true := decide_eq_true h1
    have HE : Hid (d = 0) := Lib.hid (by rw [HD.out, if_pos h1])
    clear HD
    go_enter Try.func35, Try.ntmps35
    go_wp2
    go_ret
    exact ⟨(by rw [HE.out] <;> rfl), rfl⟩
  · have hd1 : decide (x < 0) = false := decide_eq_false h1
    by_cases h3 : (ns.length : Int) - 1 < x
    · have hd2 : decide ((ns.length : Int) - 1 < x) = true := decide_eq_true h3
      have HE : Hid (d = jn) := Lib.hid (by rw [HD.out, if_neg h1, if_pos h3])
      clear HD
      go_enter Try.func35, Try.ntmps35
      go_wp2
      go_ret
      exact ⟨(by rw [HE.out] <;> rfl), rfl⟩
    · have hd2 : decide ((ns.length : Int) - 1 < x) = false := decide_eq_false h3
      have HE : Hid (d = ns.getD x.toNat 0) := Lib.hid (by rw [HD.out, if_neg h1, if_neg h3])
      obtain ⟨k, rfl⟩ : ∃ k : Nat, x = k := ⟨x.toNat, by omega⟩
      obtain ⟨bb, o, rfl, _, _, hc⟩ := HN.out.at_ (j := k) (by omega)
      rw [Int.toNat_natCast] at HE
      obtain ⟨y, hy⟩ : ∃ y, y = ns.getD k 0 := ⟨_, rfl⟩
      rw [← hy] at hc HE
      have hk1 : (k : Int) < (ns.length : Int) := by omega
      clear HD hy HN
      go_enter Try.func35, Try.ntmps35
      go_wp2
      go_ret
      exact ⟨(by rw [HE.out] <;> rfl), rfl⟩
theorem near_pred (c : Cf) (k : Nat) (hk : k < c.ns.length) : nearV c ((k : Int) - 1) = predN c k := by
  unfold nearV predN
  by_cases h : k = 0
  · rw [if_pos h, if_pos (by omega)]
  · rw [if_neg h, if_neg (by omega), if_neg (by omega), show ((k : Int) - 1).toNat = k - 1 by omega]
theorem near_succ (c : Cf) (k : Nat) (hk : k < c.ns.length) : nearV c ((k : Int) + 1) = succN c k := by
  unfold nearV succN
  by_cases h : k + 1 = c.ns.length
  · rw [if_pos h, if_neg (by omega), if_pos (by omega)]
  · rw [if_neg h, if_neg (by omega), if_neg (by omega), show ((k : Int) + 1).toNat = k + 1 by omega]
theorem ent_near : Enters 35 := fun args w => by kernel_rfl
/-- A role that was laid into its block. -/
theorem rl_cells {w : World} {b : Nat} {t : TypeId} (r : Rl) {x0 x1 x2 x3 x4 x5 x6 x7 : Value} (h : w.heap[b]? = some (.cells #[x0, x1, x2, x3, x4, x5, x6, x7] t (0, 0))) :
    ((((((((w.setCell ⟨b, 0, none⟩ (.bool r.inn)).setCell ⟨b, 1, none⟩ (.bool r.joins)).setCell ⟨b, 2, none⟩ (.bool r.head)).setCell ⟨b, 3, none⟩ (.bool r.tail)).setCell ⟨b, 4, none⟩ (.bool r.waits)).setCell ⟨b, 5, none⟩ (.int .i64 r.place)).setCell ⟨b, 6, none⟩ (.int .i64 r.pred)).setCell ⟨b, 7, none⟩ (.int .i64 r.succ)).heap[b]? =
      some (.cells #[.bool r.inn, .bool r.joins, .bool r.head, .bool r.tail, .bool r.waits, .int .i64 r.place, .int .i64 r.pred, .int .i64 r.succ] t (0, 0)) := by
  simp [World.setCell, Array.getElem?_modify, h]
theorem rl_kept {w0 w : World} {b : Nat} (r : Rl) (h : Kept NoB w0 w) (hb : w0.heap.size ≤ b) :
    Kept NoB w0 ((((((((w.setCell ⟨b, 0, none⟩ (.bool r.inn)).setCell ⟨b, 1, none⟩ (.bool r.joins)).setCell ⟨b, 2, none⟩ (.bool r.head)).setCell ⟨b, 3, none⟩ (.bool r.tail)).setCell ⟨b, 4, none⟩ (.bool r.waits)).setCell ⟨b, 5, none⟩ (.int .i64 r.place)).setCell ⟨b, 6, none⟩ (.int .i64 r.pred)).setCell ⟨b, 7, none⟩ (.int .i64 r.succ)) :=
  ((((((((h.setCell (.inr hb) _).setCell (.inr hb) _).setCell (.inr hb) _).setCell (.inr hb) _).setCell (.inr hb) _).setCell (.inr hb) _).setCell (.inr hb) _).setCell (.inr hb) _)
theorem rl_keptS {S : Nat → Prop} {w0 w : World} {b : Nat} (r : Rl) (h : Kept S w0 w) (hb : S b ∨ w0.heap.size ≤ b) :
    Kept S w0 ((((((((w.setCell ⟨b, 0, none⟩ (.bool r.inn)).setCell ⟨b, 1, none⟩ (.bool r.joins)).setCell ⟨b, 2, none⟩ (.bool r.head)).setCell ⟨b, 3, none⟩ (.bool r.tail)).setCell ⟨b, 4, none⟩ (.bool r.waits)).setCell ⟨b, 5, none⟩ (.int .i64 r.place)).setCell ⟨b, 6, none⟩ (.int .i64 r.pred)).setCell ⟨b, 7, none⟩ (.int .i64 r.succ)) :=
  ((((((((h.setCell hb _).setCell hb _).setCell hb _).setCell hb _).setCell hb _).setCell hb _).setCell hb _).setCell hb _)
theorem cells8 {w : World} {b : Nat} {t : TypeId} {x0 x1 x2 x3 x4 x5 x6 x7 : Value} (h : w.heap[b]? = some (.cells #[x0, x1, x2, x3, x4, x5, x6, x7] t (0, 0))) :
    w.cell? ⟨b, 0, none⟩ = some x0 ∧ w.cell? ⟨b, 1, none⟩ = some x1 ∧ w.cell? ⟨b, 2, none⟩ = some x2 ∧ w.cell? ⟨b, 3, none⟩ = some x3 ∧ w.cell? ⟨b, 4, none⟩ = some x4 ∧ w.cell? ⟨b, 5, none⟩ = some x5 ∧ w.cell? ⟨b, 6, none⟩ = some x6 ∧ w.cell? ⟨b, 7, none⟩ = some x7 :=
  ⟨cell_of_row _ _ 0 _ _ _ h, cell_of_row _ _ 1 _ _ _ h, cell_of_row _ _ 2 _ _ _ h, cell_of_row _ _ 3 _ _ _ h, cell_of_row _ _ 4 _ _ _ h, cell_of_row _ _ 5 _ _ _ h, cell_of_row _ _ 6 _ _ _ h, cell_of_row _ _ 7 _ _ _ h⟩
theorem frz {w : World} {b : Nat} {cs : Array Value} {t : TypeId} (h : w.heap[b]? = some (.cells cs t (0, 0))) (o : Nat) : w.frozen? ⟨b, o, none⟩ = false := by simp [World.frozen?, h]
end Go.Proofs.Ytajneoaljpljpaa
