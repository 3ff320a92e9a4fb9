/-
  Reads by a function literal: IndexFunc, DeleteFunc.
-/
import Derived.Test.YtnnmkmipeoajjaaGreatDoorCrqD
import Derived.Shelf.Abstract
namespace Go.Proofs.YtnnmkmipeoajjaaGreatDoor
open Go.RowKit Go.Shelf
set_option linter.unusedVariables false
set_option linter.unusedSimpArgs false

/-- A function literal, with one variable at block b that holds o, that tells p of a read. -/
def TellsR (f : FuncId) (b : Nat) (o : Obj) (p : Rq → Bool) : Prop :=
  (∀ (args : Array Value) (w : World), Sem.run Tryz.prog (callFunc f args) w = .ok (.enter f args) w) ∧
    ∀ (x : Rq) (w : World), w.heap[b]? = some o → Calls Tryz.prog f #[rqv x, .pointer (some ⟨b, 0, none⟩)] w fun e w' => e = .returned (.bool (p x)) ∧ Kept NoB w w'
theorem ask1_any (b : Nat) (c : Int) : TellsR 75 b (.cells #[.int .i64 c] 3 (0, 0)) (fun x => x.c == c) := by
  refine ⟨enters_of Tryz.func75 (by kernel_rfl) rfl, fun x w h => ?_⟩
  obtain ⟨xt, xc, xn, xk⟩ := x
  have hc : w.cell? ⟨b, 0, none⟩ = some (.int .i64 c) := cell_of_row _ _ 0 _ _ _ h
  have hb := heap_alloc_new w (.cells #[.int .u64 xt, .int .i64 xc, .int .u64 xn, .int .u32 xk] 33)
  have hk := (Kept.refl NoB w).alloc (.cells #[.int .u64 xt, .int .i64 xc, .int .u64 xn, .int .u32 xk] 33)
  obtain ⟨V, hV⟩ : ∃ V, V = w.alloc (.cells #[.int .u64 xt, .int .i64 xc, .int .u64 xn, .int .u32 xk] 33) := ⟨_, rfl⟩
  have HV := Lib.hid hV
  rw [← hV] at hb hk
  have c1 : V.cell? ⟨w.heap.size, 1, none⟩ = some (.int .i64 xc) := cell_of_row _ _ 1 _ _ _ hb
  have c2 : V.cell? ⟨b, 0, none⟩ = some (.int .i64 c) := hk.cell (p := ⟨b, 0, none⟩) (fun h => h) hc
  have HK := Lib.hid hk
  clear hV hb hk h hc
  unfold rqv
  go_enter Tryz.func75, Tryz.ntmps75
  go_upto_region 1 with fail
  rw [← HV.out]
  go_wp2
  go_ret
  exact ⟨rfl, HK.out⟩
theorem told1_any (b : Nat) (c : Int) : TellsR 78 b (.cells #[.int .u64 c] 25 (0, 0)) (tokB c) := by
  refine ⟨enters_of Tryz.func78 (by kernel_rfl) rfl, fun x w h => ?_⟩
  obtain ⟨xt, xc, xn, xk⟩ := x
  have hc : w.cell? ⟨b, 0, none⟩ = some (.int .u64 c) := cell_of_row _ _ 0 _ _ _ h
  have hb := heap_alloc_new w (.cells #[.int .u64 xt, .int .i64 xc, .int .u64 xn, .int .u32 xk] 33)
  have hk := (Kept.refl NoB w).alloc (.cells #[.int .u64 xt, .int .i64 xc, .int .u64 xn, .int .u32 xk] 33)
  obtain ⟨V, hV⟩ : ∃ V, V = w.alloc (.cells #[.int .u64 xt, .int .i64 xc, .int .u64 xn, .int .u32 xk] 33) := ⟨_, rfl⟩
  have HV := Lib.hid hV
  rw [← hV] at hb hk
  have c1 : V.cell? ⟨w.heap.size, 0, none⟩ = some (.int .u64 xt) := cell_of_row _ _ 0 _ _ _ hb
  have c2 : V.cell? ⟨b, 0, none⟩ = some (.int .u64 c) := hk.cell (p := ⟨b, 0, none⟩) (fun h => h) hc
  have HK := Lib.hid hk
  clear hV hb hk h hc
  unfold rqv
  go_enter Tryz.func78, Tryz.ntmps78
  go_upto_region 1 with fail
  rw [← HV.out]
  go_wp2
  go_ret
  exact ⟨rfl, HK.out⟩
def IdxP (w : World) (p : Rq → Bool) (L : List Rq) (e : Ending) (w' : World) : Prop :=
  ∃ r : Int, e = .returned (.int .i64 r) ∧ Kept NoB w w' ∧ ((r = -1 ∧ L.any p = false) ∨ ∃ k : Nat, ∃ h : k < L.length, r = k ∧ (L.take k).any p = false ∧ p L[k] = true)
set_option maxRecDepth 100000 in
theorem IndexR_any (v : Value) (L : List Rq) (f : FuncId) (b : Nat) (ob : Obj) (p : Rq → Bool) (B : Nat) (w : World) (h : RqOw 33 B w v L) (hb : w.heap[b]? = some ob) (hp : TellsR f b ob p) (hl : L.length ≤ 1000) :
    Calls Tryz.prog 76 #[v, .func (.func f) #[] #[.pointer (some ⟨b, 0, none⟩)]] w (IdxP w p L) := by
  obtain ⟨a, c, rfl⟩ := h.form
  obtain ⟨m, hm⟩ : ∃ m, m = L.length := ⟨_, rfl⟩
  rw [← hm] at h ⊢
  have HM := Lib.hid hm
  have H := Lib.hid h
  have HB := Lib.hid hb
  have HP := Lib.hid hp.2
  have hent : ∀ (args : Array Value) (w : World), Sem.run Tryz.prog (callFunc f args) w = .ok (.enter f args) w := hp.1
  have hml : m ≤ 1000 := by rw [hm]; exact hl
  clear h hp hb hm
  go_enter Tryz.func76, Tryz.ntmps76
  go_wp2
  go_loopw [8] (fun i wr => ∃ k : Nat, i = .int .i64 k ∧ k ≤ m ∧ (L.take k).any p = false ∧ Kept NoB w wr) (fun i _ => m - (intOf i).toNat)
  case atStart => exact ⟨0, rfl, Nat.zero_le _, by simp, Kept.refl _ _⟩
  case round =>
    obtain ⟨k, rfl, hk, hno, hkk⟩ := hrel
    have HN := Lib.hid hno
    have HK := Lib.hid hkk
    clear hno hkk
    by_cases hlt : k < m
    · have hkL : k < L.length := by rw [← HM.out]; exact hlt
      obtain ⟨r, d, he, hd, hr, e0, e1, e2, e3⟩ := (H.out.no HK.out).cells k hkL
      injection he with he1 he2 he3
      clear he2
      subst he1 he3
      obtain ⟨y, hy⟩ : ∃ y, y = L[k] := ⟨_, rfl⟩
      have HY := Lib.hid hy
      rw [← hy] at e0 e1 e2 e3
      have HC := Lib.hid (HP.out y wr (HK.out.heap (fun h => h) HB.out))
      obtain ⟨q, hq⟩ : ∃ q, q = p y := ⟨_, rfl⟩
      rw [← hq] at HC
      have HQ := Lib.hid hq
      obtain ⟨yt, yc, yn, yk⟩ := y
      simp only [rqv] at e0 e1 e2 e3 HC
      have hk1 : (k : Int) < (m : Int) := by omega
      clear hy hq
      cases q with
      | true =>
        go_wp2_with fail
        refine HC.out.mono ?_
        rintro e w2 ⟨rfl, hk2⟩
        have HK2 := Lib.hid (HK.out.trans hk2 (fun _ _ h => h))
        clear hk2
        go_wp2
        go_ret
        exact ⟨_, rfl, HK2.out, .inr ⟨k, hkL, rfl, HN.out, by rw [← HY.out]; exact HQ.out.symm⟩⟩
      | false =>
        have HPY : Hid ((L.take (k + 1)).any p = false) := Lib.hid (by rw [any_succ hkL, HN.out, ← HY.out, ← HQ.out]; rfl)
        go_wp2_with fail
        refine HC.out.mono ?_
        rintro e w2 ⟨rfl, hk2⟩
        have HK2 := Lib.hid (HK.out.trans hk2 (fun _ _ h => h))
        clear hk2
        go_wp2
        exact ⟨⟨k + 1, by go_num, by omega, HPY.out, HK2.out⟩, by simp [intOf]; omega⟩
    · obtain rfl : k = m := by omega
      go_wp2
      go_ret
      exact ⟨_, rfl, HK.out, .inl ⟨rfl, by have := HN.out; rwa [HM.out, List.take_length] at this⟩⟩
end Go.Proofs.YtnnmkmipeoajjaaGreatDoor
