/-
  Package cmds and its answer: Text.
-/
import Derived.Test.YtdohnobfaignpaaDoorCmdB
import Derived.Deep.RegionHeld3
import Derived.StillTailTactics
namespace Go.Proofs.YtdohnobfaignpaaDoor
open Go.RowKit Go.Sort Go.Lib
set_option linter.unusedVariables false

/-- The text of a command that is no Noop. -/
def txtL (k ch ep nd : Nat) : List UInt8 := nmL k ++ [32] ++ Lib.decDigits ch ++ [32] ++ Lib.decDigits ep ++ [32] ++ Lib.decDigits nd
theorem nmL_len (k : Nat) : (nmL k).length ≤ 7 := by
  unfold nmL
  split <;> decide
theorem txtL_len (k ch ep nd : Nat) (h1 : ch < 18446744073709551616) (h2 : ep < 18446744073709551616) (h3 : nd < 18446744073709551616) : (txtL k ch ep nd).length ≤ 100 := by
  have := nmL_len k
  have := dec_len ch h1
  have := dec_len ep h2
  have := dec_len nd h3
  unfold txtL
  simp only [List.length_append, List.length_cons, List.length_nil]
  omega
/-- What a text is. -/
def StrEnd (l : List UInt8) (w : World) (e : Ending) (w' : World) : Prop := e = .returned (.string ⟨l.toArray⟩) ∧ Kept NoB w w'
set_option maxRecDepth 100000 in
theorem RText_zero (ch ep nd : Int) (w : World) : Calls Tryd.prog 18 #[.agg #[.int .i64 0, .int .i64 ch, .int .u64 ep, .int .i64 nd]] w (StrEnd (nmL 0) w) := by
  go_enter Tryd.func18, Tryd.ntmps18
  go_wp2
  go_ret
  exact ⟨rfl, (Kept.refl _ _).alloc _⟩
set_option maxRecDepth 100000 in
set_option maxHeartbeats 1000000 in
theorem CRText_any (k ch ep nd : Nat) (w : World) (hk1 : 1 ≤ k) (hk : k < 5) (h1 : ch < 9223372036854775808) (h2 : ep < 18446744073709551616) (h3 : nd < 9223372036854775808) :
    Calls Tryd.prog 18 #[.agg #[.int .i64 k, .int .i64 ch, .int .u64 ep, .int .i64 nd]] w (StrEnd (txtL k ch ep nd) w) := by
  have l0 := nmL_len k
  have l1 := dec_len ch (by omega)
  have l2 := dec_len ep h2
  have l3 := dec_len nd (by omega)
  have hN := Lib.hid (fun w => RName_yes k w hk)
  have HE : Hid (txtL k ch ep nd = nmL k ++ [32] ++ Lib.decDigits ch ++ [32] ++ Lib.decDigits ep ++ [32] ++ Lib.decDigits nd) := Lib.hid rfl
  obtain ⟨t, ht0⟩ : ∃ t, t = txtL k ch ep nd := ⟨_, rfl⟩
  rw [← ht0] at HE ⊢
  obtain ⟨N, hNe⟩ : ∃ x, x = nmL k := ⟨_, rfl⟩
  unfold nmS at hN
  rw [← hNe] at hN HE l0
  obtain ⟨s1, e1⟩ : ∃ x, x = N ++ [32] := ⟨_, rfl⟩
  obtain ⟨s2, e2⟩ : ∃ x, x = s1 ++ Lib.decDigits ch := ⟨_, rfl⟩
  obtain ⟨s3, e3⟩ : ∃ x, x = s2 ++ [32] := ⟨_, rfl⟩
  obtain ⟨s4, e4⟩ : ∃ x, x = s3 ++ Lib.decDigits ep := ⟨_, rfl⟩
  obtain ⟨s5, e5⟩ : ∃ x, x = s4 ++ [32] := ⟨_, rfl⟩
  have g1 : s1.length ≤ 8 := by rw [e1]; simp; omega
  have g2 : s2.length ≤ 28 := by rw [e2]; simp; omega
  have g3 : s3.length ≤ 29 := by rw [e3]; simp; omega
  have g4 : s4.length ≤ 49 := by rw [e4]; simp; omega
  have g5 : s5.length ≤ 50 := by rw [e5]; simp; omega
  have a1 := add_lists N [32] (by omega) (by simp)
  have a2 := add_lists s1 (Lib.decDigits ch) (by omega) (by omega)
  have a3 := add_lists s2 [32] (by omega) (by simp)
  have a4 := add_lists s3 (Lib.decDigits ep) (by omega) (by omega)
  have a5 := add_lists s4 [32] (by omega) (by simp)
  have a6 := add_lists s5 (Lib.decDigits nd) (by omega) (by omega)
  have ht : t = s5 ++ Lib.decDigits nd := by rw [HE.out, e5, e4, e3, e2, e1]
  rw [← e1] at a1
  rw [← e2] at a2
  rw [← e3] at a3
  rw [← e4] at a4
  rw [← e5] at a5
  rw [← ht] at a6
  clear HE e1 e2 e3 e4 e5 g1 g2 g3 g4 g5
  clear ht0 ht hNe l0 l1 l2 l3
  have hk0 : ((k : Int) == 0) = false := by simpa using (by omega : ¬ (k : Int) = 0)
  have w1 : IntKind.u64.wrap (ch : Int) = (ch : Int) := IntWalk.u64_in _ (by omega)
  have w2 : IntKind.u64.wrap (nd : Int) = (nd : Int) := IntWalk.u64_in _ (by omega)
  have hch : ch < 18446744073709551616 := by omega
  have hnd : nd < 18446744073709551616 := by omega
  clear hk h1 h3
  go_enter Tryd.func18, Tryd.ntmps18
  go_wp2_with fail
  obtain ⟨W, hW⟩ : ∃ W, W = w.alloc (.cells #[.int .i64 (k : Int), .int .i64 (ch : Int), .int .u64 (ep : Int), .int .i64 (nd : Int)] 24) := ⟨_, rfl⟩
  have hb : W.heap[w.heap.size]? = some (.cells #[.int .i64 (k : Int), .int .i64 (ch : Int), .int .u64 (ep : Int), .int .i64 (nd : Int)] 24 (0, 0)) := by rw [hW]; exact heap_alloc_new w _
  have c0 : W.cell? ⟨w.heap.size, 0, none⟩ = some (.int .i64 (k : Int)) := cell_of_row _ _ 0 _ _ _ hb
  have c1 : W.cell? ⟨w.heap.size, 1, none⟩ = some (.int .i64 (ch : Int)) := cell_of_row _ _ 1 _ _ _ hb
  have c2 : W.cell? ⟨w.heap.size, 2, none⟩ = some (.int .u64 (ep : Int)) := cell_of_row _ _ 2 _ _ _ hb
  have c3 : W.cell? ⟨w.heap.size, 3, none⟩ = some (.int .i64 (nd : Int)) := cell_of_row _ _ 3 _ _ _ hb
  have HKW : Hid (Kept NoB w W) := Lib.hid (by rw [hW]; exact (Kept.refl _ _).alloc _)
  rw [← hW]
  clear hW hb
  have HKc := Lib.hid (Kept.refl NoB W)
  go_region_held3 (fun w' => w'.cell? ⟨w.heap.size, 0, none⟩ = some (.int .i64 (k : Int)) ∧ w'.cell? ⟨w.heap.size, 1, none⟩ = some (.int .i64 (ch : Int)) ∧ w'.cell? ⟨w.heap.size, 2, none⟩ = some (.int .u64 (ep : Int)) ∧ w'.cell? ⟨w.heap.size, 3, none⟩ = some (.int .i64 (nd : Int)))
    (first
      | exact ⟨HKc.out.cell (p := ⟨w.heap.size, 0, none⟩) (fun h => h) c0, HKc.out.cell (p := ⟨w.heap.size, 1, none⟩) (fun h => h) c1, HKc.out.cell (p := ⟨w.heap.size, 2, none⟩) (fun h => h) c2, HKc.out.cell (p := ⟨w.heap.size, 3, none⟩) (fun h => h) c3⟩
      | exact ⟨cell_drew c0, cell_drew c1, cell_drew c2, cell_drew c3⟩
      | go_keep)
    (first
      | (go_at_call 12; refine (hN.out _).mono ?_; rintro e w6 ⟨rfl, rfl⟩)
      | (go_at_call 39; (first | (with_reducible refine (Digits_any ch hch _).mono ?_) | (with_reducible refine (Digits_any ep h2 _).mono ?_) | (with_reducible refine (Digits_any nd hnd _).mono ?_)); rintro e w6 ⟨rfl, hk6⟩; (first | replace HKc := Lib.hid (HKc.out.trans hk6 (fun _ _ h => h)) | replace HKc := Lib.hid (HKc.out.drew.trans hk6 (fun _ _ h => h))); clear hk6))
  all_goals go_wp2
  all_goals go_ret
  all_goals exact ⟨rfl, HKW.out.trans HKc.out (fun _ _ h => h)⟩

theorem join4 (a b c d : List UInt8) : Lib.join ([(⟨a.toArray⟩ : ByteArray), ⟨b.toArray⟩, ⟨c.toArray⟩, ⟨d.toArray⟩].map (·.data.toList)) [32] = a ++ [32] ++ b ++ [32] ++ c ++ [32] ++ d := by
  simp [Lib.join, List.intercalate, List.intersperse]
theorem Join4_any (a b c d : List UInt8) (g : Nat) (t : TypeId) (w : World) (h : w.heap[g]? = some (.cells #[.string ⟨a.toArray⟩, .string ⟨b.toArray⟩, .string ⟨c.toArray⟩, .string ⟨d.toArray⟩] t (0, 0)))
    (hl : a.length + b.length + c.length + d.length ≤ 1000) :
    Calls Tryd.prog 32 #[.slice (some ⟨g, 0, none⟩) 4 4, .string ⟨#[32]⟩] w (StrEnd (a ++ [32] ++ b ++ [32] ++ c ++ [32] ++ d) w) := by
  have hc := Tryd.strings_Join g 0 4 [⟨a.toArray⟩, ⟨b.toArray⟩, ⟨c.toArray⟩, ⟨d.toArray⟩] ⟨#[32]⟩ w (fun j x hj => by
    rw [cell_of_row _ _ _ _ _ _ h]
    match j, hj with
    | 0, hj => simp at hj ⊢; exact hj
    | 1, hj => simp at hj ⊢; exact hj
    | 2, hj => simp at hj ⊢; exact hj
    | 3, hj => simp at hj ⊢; exact hj
    | j + 4, hj => simp at hj) (heap_lt h) (by simp) (by simp) (by
      have e : (⟨#[32]⟩ : ByteArray).data.toList = [32] := rfl
      rw [e, join4]; simp only [List.length_append, List.length_cons, List.length_nil]; omega)
  have e : (⟨#[32]⟩ : ByteArray).data.toList = [32] := rfl
  rw [e, join4] at hc
  exact hc.mono fun e w' ⟨he, hb⟩ => ⟨he, kept_of_below hb⟩

/-- What Text tells. -/
def TextEnd (l : List UInt8) (x : Int) (w : World) (e : Ending) (w' : World) : Prop := e = .returned (.tuple #[.string ⟨l.toArray⟩, .int .i64 x]) ∧ Kept NoB w w'
set_option maxRecDepth 100000 in
theorem Text_bad (k ch ep nd x : Int) (w : World) (he : 0 ≤ ep) (hx : Chk k ch ep nd x) (h0 : x ≠ 0) : Calls Tryd.prog 9 #[.agg #[.int .i64 k, .int .i64 ch, .int .u64 ep, .int .i64 nd]] w (TextEnd [] x w) := by
  have HC : Hid (∀ w, Calls Tryd.prog 10 #[.agg #[.int .i64 k, .int .i64 ch, .int .u64 ep, .int .i64 nd]] w fun e w' => e = .returned (.int .i64 x) ∧ Kept NoB w w') :=
    Lib.hid (fun w => (Check_any k ch ep nd w he).mono fun e w' ⟨y, hy, h1, h2⟩ => ⟨by rw [h1, hy.one hx], h2⟩)
  have hb : ((x : Int) != 0) = true := by simpa using h0
  clear hx h0
  go_enter Tryd.func9, Tryd.ntmps9
  go_wp2_with fail
  refine (HC.out _).mono ?_
  rintro e w1 ⟨rfl, hk⟩
  have HK := Lib.hid (((Kept.refl NoB w).alloc _).trans hk (fun _ _ h => h))
  clear hk
  go_wp2
  go_ret2
  exact ⟨rfl, HK.out⟩
set_option maxRecDepth 100000 in
theorem Text_zero (w : World) (hv : Vars w) : Calls Tryd.prog 9 #[.agg #[.int .i64 0, .int .i64 0, .int .u64 0, .int .i64 0]] w (TextEnd (nmL 0) 0 w) := by
  have HC : Hid (∀ w, Calls Tryd.prog 10 #[.agg #[.int .i64 0, .int .i64 0, .int .u64 0, .int .i64 0]] w fun e w' => e = .returned (.int .i64 0) ∧ Kept NoB w w') :=
    Lib.hid (fun w => (Check_any 0 0 0 0 w (by omega)).mono fun e w' ⟨y, hy, h1, h2⟩ => ⟨by rw [h1, hy.one (Chk.ok.2 (.inl ⟨rfl, rfl, rfl, rfl⟩))], h2⟩)
  have HV := Lib.hid hv
  clear hv
  go_enter Tryd.func9, Tryd.ntmps9
  go_wp2_with fail
  refine (HC.out _).mono ?_
  rintro e w1 ⟨rfl, hk⟩
  have c0 : w1.cell? ⟨w.heap.size, 0, none⟩ = some (.int .i64 0) := hk.cell (p := ⟨w.heap.size, 0, none⟩) (fun h => h) (cell_of_row _ _ 0 _ _ _ (heap_alloc_new w _))
  have HK := Lib.hid (((Kept.refl NoB w).alloc _).trans hk (fun _ _ h => h))
  have HM := Lib.hid (Name_yes 0 w1 (by omega) (HV.out.kept HK.out))
  clear hk
  go_wp2_with fail
  refine HM.out.mono ?_
  rintro e w' ⟨rfl, rfl⟩
  go_wp2
  go_ret2
  exact ⟨rfl, HK.out⟩
set_option maxRecDepth 100000 in
set_option maxHeartbeats 1000000 in
theorem CText_any (k ch ep nd : Nat) (w : World) (hv : Vars w) (hk1 : 1 ≤ k) (hk : k ≤ 4) (h1 : ch ≤ 3) (h2 : 1 ≤ ep) (h3 : ep < 18446744073709551616) (h4 : 1 ≤ nd) (h5 : nd ≤ 24) :
    Calls Tryd.prog 9 #[.agg #[.int .i64 k, .int .i64 ch, .int .u64 ep, .int .i64 nd]] w (TextEnd (txtL k ch ep nd) 0 w) := by
  have HC : Hid (∀ w, Calls Tryd.prog 10 #[.agg #[.int .i64 k, .int .i64 ch, .int .u64 ep, .int .i64 nd]] w fun e w' => e = .returned (.int .i64 0) ∧ Kept NoB w w') :=
    Lib.hid (fun w => (Check_any k ch ep nd w (by omega)).mono fun e w' ⟨y, hy, h1, h2⟩ => ⟨by rw [h1, hy.one (Chk.ok.2 (.inr ⟨by omega, by omega, by omega, by omega, by omega, by omega, by omega⟩))], h2⟩)
  have HV := Lib.hid hv
  clear hv
  have l0 := nmL_len k
  have l1 := dec_len ch (by omega)
  have l2 := dec_len ep h3
  have l3 := dec_len nd (by omega)
  have hk0 : ((k : Int) == 0) = false := by simpa using (by omega : ¬ (k : Int) = 0)
  have ht : txtL k ch ep nd = nmL k ++ 32 :: (Lib.decDigits ch ++ 32 :: (Lib.decDigits ep ++ 32 :: Lib.decDigits nd)) := by simp [txtL]
  have HT := Lib.hid ht
  clear ht
  go_enter Tryd.func9, Tryd.ntmps9
  go_wp2_with fail
  refine (HC.out _).mono ?_
  rintro e w1 ⟨rfl, hkk⟩
  have hb := hkk.heap (fun h => h) (heap_alloc_new w (.cells #[.int .i64 (k : Int), .int .i64 (ch : Int), .int .u64 (ep : Int), .int .i64 (nd : Int)] 24))
  have c0 : w1.cell? ⟨w.heap.size, 0, none⟩ = some (.int .i64 (k : Int)) := cell_of_row _ _ 0 _ _ _ hb
  have c2 : w1.cell? ⟨w.heap.size, 2, none⟩ = some (.int .u64 (ep : Int)) := cell_of_row _ _ 2 _ _ _ hb
  have HK := Lib.hid (((Kept.refl NoB w).alloc _).trans hkk (fun _ _ h => h))
  have HM := Lib.hid (Name_yes k w1 (by omega) (HV.out.kept HK.out))
  have HB := Lib.hid hb
  clear hkk hb
  go_wp2_with fail
  refine HM.out.mono ?_
  rintro e w' ⟨rfl, rfl⟩
  go_wp2_with fail
  refine (FormatUint_any ep w1 h3 (HV.out.kept HK.out).tab).mono ?_
  rintro e w2 ⟨rfl, hkk⟩
  have hb := hkk.heap (fun h => h) HB.out
  have HK2 := Lib.hid (HK.out.trans hkk (fun _ _ h => h))
  clear hkk c0 c2
  have c1 : w2.cell? ⟨w.heap.size, 1, none⟩ = some (.int .i64 (ch : Int)) := cell_of_row _ _ 1 _ _ _ hb
  have c3 : w2.cell? ⟨w.heap.size, 3, none⟩ = some (.int .i64 (nd : Int)) := cell_of_row _ _ 3 _ _ _ hb
  have hch : ch < 100 := by omega
  have hnd : nd < 100 := by omega
  have HKc := Lib.hid (Kept.refl NoB w2)
  clear hb
  go_wp2_with fail
  go_region_held3 (fun w' => w'.cell? ⟨w.heap.size, 1, none⟩ = some (.int .i64 (ch : Int)) ∧ w'.cell? ⟨w.heap.size, 3, none⟩ = some (.int .i64 (nd : Int)))
    (first
      | exact ⟨HKc.out.cell (p := ⟨w.heap.size, 1, none⟩) (fun h => h) c1, HKc.out.cell (p := ⟨w.heap.size, 3, none⟩) (fun h => h) c3⟩
      | exact ⟨cell_drew c1, cell_drew c3⟩
      | exact ⟨cell_alloc (cell_drew c1) _, cell_alloc (cell_drew c3) _⟩
      | go_keep)
    (first
      | (go_at_call 33; (first | (with_reducible refine (Tryd.strconv_Itoa_small ch hch _).mono ?_) | (with_reducible refine (Tryd.strconv_Itoa_small nd hnd _).mono ?_)); rintro e w6 ⟨rfl, rfl⟩)
      | (go_at_call 32; refine (Join4_any (nmL k) (Lib.decDigits ch) (Lib.decDigits ep) (Lib.decDigits nd) w2.heap.size 9 _ (heap_alloc_new w2.drew _) (by omega)).mono ?_; rintro e w6 ⟨rfl, hk6⟩; replace HKc := Lib.hid ((HKc.out.drew.alloc _).trans hk6 (fun _ _ h => h)); clear hk6))
  all_goals go_wp2
  all_goals go_ret2
  all_goals exact ⟨by rw [HT.out]; rfl, HK2.out.trans HKc.out (fun _ _ h => h)⟩
end Go.Proofs.YtdohnobfaignpaaDoor
