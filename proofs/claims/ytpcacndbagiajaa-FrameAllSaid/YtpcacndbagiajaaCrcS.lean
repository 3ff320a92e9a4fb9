/-
  What bytes.Clone and lowestFirst do for a seal.
-/
import Derived.Test.YtpcacndbagiajaaCrcP
import Derived.Test.YtpcacndbagiajaaBytes
namespace Go.Proofs.Ytpcacndbagiajaa
open Go.RowKit

set_option maxRecDepth 100000 in
/-- bytes.Clone: a slice of the call's own. -/
theorem Clone_own (v : Value) (l : List Int) (F : Nat → Prop) (w : World) (h : BSl w F v l) (hl : l.length ≤ 1000000) :
    Calls Try.prog 53 #[v] w fun e w' => ∃ v', e = .returned v' ∧ Own w' (fun k => w.heap.size ≤ k) v' l ∧ Kept NoB w w' := by
  obtain ⟨i0, hi0, hz0, hz1, hz2⟩ := info_parts Try.info5
  have HB := Lib.hid h
  obtain ⟨a, cap, rfl, hc, hm, hn, hr⟩ := h
  have hq := fun (w : World) => Lib.run_eql_slice_nil (P := Try.prog) w 22 5 a l.length cap 0 0 Try.underlying22
  rcases a with _ | ad
  · have h0 := hn rfl
    subst h0
    have hl : l = [] := List.eq_nil_of_length_eq_zero (by omega)
    subst hl
    simp only [Option.isNone, List.length_nil] at hq
    go_enter Try.func53, Try.ntmps53
    go_wp2
    go_ret
    exact ⟨_, rfl, Own.nil _ _, Kept.refl _ _⟩
  · simp only [Option.isNone] at hq
    clear hr hn
    go_enter Try.func53, Try.ntmps53
    go_wp2_with (at_builtin; refine wpList_append_bsl _ rfl (.tmp 5) (.tmp 6) _ rfl 5 i0 _ Try.underlying22 hi0 hz0 hz1 hz2 rfl (.slice (some ⟨w.heap.size, 0, none⟩) 0 0) 0 [] rfl (World.ownsRow_made w #[] 0 (Nat.zero_le _) (by decide) rfl) F _ l rfl (HB.out.kept ((Kept.refl NoB _).alloc _) (fun _ _ h => h)) (by omega) ?_; intro a' c' w1 hown1 hg1 hat1)
    go_ret
    have hk1 : Kept NoB w w1 := ((Kept.refl _ _).alloc _).grown hg1 (fun k hk => .inr (by simp [Value.ownBlock] at hk; omega))
    simp only [Nat.zero_add, List.nil_append] at hown1 hat1
    refine ⟨.slice a' l.length c', rfl, ⟨HB.out.isB, hown1, fun k hk => ?_⟩, hk1⟩
    rcases hat1 with e | e <;> rw [e] at hk <;> simp [Value.ownBlock] at hk <;> omega

/-- A sum's four bytes, the lowest first. -/
def le4 (x : Nat) : List Int := [((x % 256 : Nat) : Int), ((x / 256 % 256 : Nat) : Int), ((x / 65536 % 256 : Nat) : Int), ((x / 16777216 % 256 : Nat) : Int)]

set_option maxRecDepth 100000 in
theorem lowest_any (x : Nat) (w : World) (hx : x < 4294967296) :
    Calls Try.prog 63 #[.int .u32 x] w fun e w' => e = .returned (.agg #[.int .u8 ((x % 256 : Nat) : Int), .int .u8 ((x / 256 % 256 : Nat) : Int), .int .u8 ((x / 65536 % 256 : Nat) : Int), .int .u8 ((x / 16777216 % 256 : Nat) : Int)]) ∧ Kept NoB w w' := by
  have e0 : IntKind.u8.wrap (x : Int) = ((x % 256 : Nat) : Int) := by simp [IntKind.wrap, IntKind.signed, IntKind.bits]
  go_enter Try.func63, Try.ntmps63
  go_wp2
  refine bodyPost_ret (v := .agg #[.int .u8 ((x : Int) % 256), .int .u8 ((x : Int) / 256 % 256), .int .u8 ((x : Int) / 65536 % 256), .int .u8 ((x : Int) / 16777216)]) (by simp [results, Try.results63, go_sem]) rfl ⟨?_, (Kept.refl _ _).alloc _⟩
  rw [show ((x : Int) / 16777216) = (x : Int) / 16777216 % 256 by omega]
  rfl

theorem le4_isB (x : Nat) : IsB (le4 x) := by
  intro y hy
  simp only [le4, List.mem_cons, List.not_mem_nil, or_false] at hy
  omega
/-- The block of an array of such bytes, sliced. -/
theorem le4_bsl (w : World) (x : Nat) (t : TypeId) : BSl (w.alloc (.cells #[.int .u8 ((x % 256 : Nat) : Int), .int .u8 ((x / 256 % 256 : Nat) : Int), .int .u8 ((x / 65536 % 256 : Nat) : Int), .int .u8 ((x / 16777216 % 256 : Nat) : Int)] t)) (fun k => k = w.heap.size) (.slice (some ⟨w.heap.size, 0, none⟩) 4 4) (le4 x) := by
  refine ⟨_, 4, rfl, Nat.le_refl _, by decide, (fun h => by cases h), le4_isB x, fun _ => ⟨w.heap.size, 0, rfl, rfl, by simp, fun j hj => ?_⟩⟩
  rw [cell_of_row _ _ (0 + j) _ _ _ (heap_alloc_new w _)]
  have hj4 : j < 4 := hj
  match j, hj4 with
  | 0, _ | 1, _ | 2, _ | 3, _ => rfl

set_option maxRecDepth 100000 in
/-- Seal. -/
theorem Seal_any (g : Nat) (m : Bool) (v : Value) (l : List Int) (F : Nat → Prop) (w : World) (h : TabAt w g m) (hb : BSl w F v l) (hF : ¬ F g) (hl : l.length ≤ 100000) :
    Calls Try.prog 29 #[.pointer (some ⟨g, 0, none⟩), v] w fun e w' => ∃ v', e = .returned v' ∧ Own w' (fun k => w.heap.size ≤ k) v' (l ++ le4 (more 0 l)) ∧ TabAt w' g true ∧ Kept (One g) w w' := by
  obtain ⟨i0, hi0, hz0, hz1, hz2⟩ := info_parts Try.info5
  have HB := Lib.hid hb
  have HT := Lib.hid h
  have hg := h.lt
  obtain ⟨a, cap, rfl, _⟩ := hb
  have hFG : ∀ k, F k → ¬ One g k := fun k hk h => by have e : k = g := h; rw [e] at hk; exact hF hk
  clear h
  go_enter Try.func29, Try.ntmps29
  go_wp2_with fail
  refine (COf_any g m _ 1 (fun _ => l) (fun k => F k ∨ k = w.heap.size) _ (HT.out.kept ((Kept.refl NoB _).alloc _) (fun h => h)) (PAt.one HB.out _) (fun h => by rcases h with h | h; exact hF h; omega)).mono ?_
  rintro e w2 ⟨rfl, ht2, hk2⟩
  rw [catL_one]
  have hk2' : Kept (One g) w w2 := ((Kept.refl _ _).alloc _).trans hk2 (fun _ _ h => h)
  have hlt : more 0 l < 4294967296 := more_lt _ _ (by decide) HB.out.isB
  have HT2 := Lib.hid ht2
  have HK2 := Lib.hid hk2'
  obtain ⟨q, hq⟩ : ∃ q, q = more 0 l := ⟨_, rfl⟩
  rw [← hq] at hlt ⊢
  have HQ := Lib.hid hq
  clear hq ht2 hk2 hk2'
  go_wp2_with fail
  refine (lowest_any q _ hlt).mono ?_
  rintro e w3 ⟨rfl, hk3⟩
  have HK3 := Lib.hid hk3
  clear hk3
  go_wp2_with fail
  have H4 := Lib.hid (le4_bsl w3 q 119)
  have HB4 := Lib.hid (((HB.out.kept HK2.out hFG).kept HK3.out (fun _ _ h => h)).kept (S := NoB) ((Kept.refl _ w3).alloc (.cells #[.int .u8 ((q % 256 : Nat) : Int), .int .u8 ((q / 256 % 256 : Nat) : Int), .int .u8 ((q / 65536 % 256 : Nat) : Int), .int .u8 ((q / 16777216 % 256 : Nat) : Int)] 119)) (fun _ _ h => h))
  have hl2 : l.length ≤ 1000000 := by omega
  go_region_law (first
    | (go_simp; go_at_call 53; refine (Clone_own _ l F _ (by exact HB4.out.kept (S := NoB) ((Kept.refl _ _).drew) (fun _ _ h => h)) hl2).mono ?_; rintro e w4 ⟨v4, rfl, hv4, hk4⟩; have HV4 := Lib.hid hv4; obtain ⟨va, vc, rfl⟩ := own_form hv4.2.1; have hown4 := hv4.2.1; have hh4 : w4.heap[w3.heap.size]? = some (.cells #[.int .u8 ((q % 256 : Nat) : Int), .int .u8 ((q / 256 % 256 : Nat) : Int), .int .u8 ((q / 65536 % 256 : Nat) : Int), .int .u8 ((q / 16777216 % 256 : Nat) : Int)] 119 (0, 0)) := hk4.heap (fun h => h) (heap_alloc_new w3 _))
    | (refine step_append_lies _ (by rfl) _ _ _ (by rfl) 0 5 i0 _ 1 1 Try.underlying22 hi0 hz0 hz1 hz2 rfl (by omega) (.slice va l.length vc) l.length (l.map (Value.int .u8)) (by rfl) hown4 ⟨w3.heap.size, 0, none⟩ 4 4 ((le4 q).map (Value.int .u8)) (by rfl) (by rfl) (World.news_of_block hh4) (by simp [le4, Value.oneCell']) (by omega) (by unfold maxLen; omega) (by omega) (Nat.zero_le _) w4.heap.size rfl ?_; intro gg cap1 w5 hown5 hgrow hat hlt5))
  all_goals go_wp2
  all_goals go_ret
  all_goals
    have hs2 := HK2.out.size
    have hs3 := HK3.out.size
    have k34 : Kept NoB w3 w4 := ((Kept.refl NoB w3).alloc _).trans (⟨hk4.os, hk4.tape, hk4.output, hk4.size, hk4.block⟩ : Kept NoB (w3.alloc _) w4) (fun _ _ h => h)
    have k45 : Kept (fun k => w.heap.size ≤ k) w4 w5 := (Kept.refl _ _).grown hgrow (fun k hk => .inl (by have h2 := hv4.2.2 k hk; simp at h2; omega))
    have hs4 := k34.size
    have e4 : (le4 q).length = 4 := rfl
    refine ⟨.slice (some ⟨gg, 0, none⟩) (l.length + 4) cap1, rfl, ⟨HB.out.isB.append (le4_isB _), ?_, fun k hk => ?_⟩, ?_, ?_⟩
    · rw [← HQ.out, List.length_append, List.map_append, e4]
      exact hown5
    · have hkg : gg = k := by simpa [Value.ownBlock] using hk
      subst hkg
      rcases hat with h2 | h2
      · have h3 := hv4.2.2 _ h2
        simp at h3
        omega
      · omega
    · exact ((HT2.out.kept HK3.out (fun h => h)).kept k34 (fun h => h)).kept k45 (by omega)
    · exact ((HK2.out.trans HK3.out (fun _ _ h => h.elim)).trans k34 (fun _ _ h => h.elim)).trans k45 (fun i hi h => by omega)
end Go.Proofs.Ytpcacndbagiajaa
