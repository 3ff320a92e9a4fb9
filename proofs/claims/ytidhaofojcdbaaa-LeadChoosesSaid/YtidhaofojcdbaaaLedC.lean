/-
  Package lead: the keys of a map, collected, and sorted (where there are none).
-/
import Derived.Test.YtidhaofojcdbaaaLedB
import Derived.Test.YtidhaofojcdbaaaLedShelf
namespace Go.Proofs.Ytidhaofojcdbaaa
open Go.RowKit Go.Maps Go.Sort Go.Shelf
set_option linter.unusedVariables false

theorem Kept.of_below {w w' : World} (h : Below w.heap.size w w') : Kept NoB w w' := ⟨h.os, h.tape, h.output, h.size, fun k hk _ => h.block k hk⟩
theorem intKeys_datV (f : Vt → Value) (L : List Vt) : intKeys (datV f L) = L.map (fun v => v.s) := by
  show List.map (fun p => Go.intOf p.1) (List.map (ent f) L) = _
  rw [List.map_map]
  rfl
theorem size_datV (f : Vt → Value) (L : List Vt) : Maps.size (datV f L) = L.length := by
  unfold datV
  simp [Maps.size]
/-- The keys of a map, collected: they come in some order. -/
def KeysE (L : List Vt) (w : World) (e : Ending) (w' : World) : Prop := ∃ (v : Value) (ss : List Int), e = .returned v ∧ ss.Perm (L.map (fun v => v.s)) ∧ RdI w' v ss ∧ (L = [] → v = .slice none 0 0) ∧ Kept NoB w w'
theorem rdI_of {w : World} {B : Nat} {v : Value} {ss : List Int} (h : w.ownsRow B 3 1 v ss.length (ss.map encZ)) : RdI w v ss := by
  rcases h.2 with ⟨rfl, h0⟩ | ⟨g, cap, cur, rfl, hb, hg, hc, hm, hz, ht⟩
  · exact ⟨none, 0, by rw [h0], fun _ => rfl, fun i hi => absurd hi (by omega)⟩
  · refine ⟨_, cap, rfl, (fun h => by cases h), fun i hi => ⟨g, 0, rfl, heap_lt hg, ?_⟩⟩
    rw [cell_of_row _ _ _ _ _ _ hg]
    have : (cur.toList.take (ss.length * 1))[i]? = (ss.map encZ)[i]? := by rw [ht]
    rw [List.getElem?_take, if_pos (by omega), List.getElem?_map, List.getElem?_eq_getElem hi] at this
    rw [Nat.zero_add, ← Array.getElem?_toList, this]
    simp [encZ, List.getElem?_eq_getElem hi]
theorem keysP_in (w : World) (bp : Nat) : Calls Try.prog 60 #[.map (some bp)] w fun e w' => e = .returned (.func (.func 97) #[] #[.pointer (some ⟨w.heap.size, 0, none⟩)]) ∧ w' = w.alloc (.cells #[.map (some bp)] 99) :=
  callsIn_wide.1 (AnyZI.keys_in Try.keysP Fence.wide 5 trivial rfl (some bp) w)
theorem keysQ_in (w : World) (bp : Nat) : Calls Try.prog 64 #[.map (some bp)] w fun e w' => e = .returned (.func (.func 101) #[] #[.pointer (some ⟨w.heap.size, 0, none⟩)]) ∧ w' = w.alloc (.cells #[.map (some bp)] 100) :=
  callsIn_wide.1 (AnyZI.keys_in Try.keysQ Fence.wide 5 trivial rfl (some bp) w)
theorem collP (w : World) (B bp : Nat) (P : List Vt) (hB : w.cell? ⟨B, 0, none⟩ = some (.map (some bp))) (hm : MapV Try.prog 3 nlv w bp P) (hl : P.length ≤ 1000) :
    Calls Try.prog 59 #[.func (.func 97) #[] #[.pointer (some ⟨B, 0, none⟩)]] w (KeysE P w) := by
  have hseq : SeqGives Fence.wide 3 Try.prog 97 #[.pointer (some ⟨B, 0, none⟩)] encZ (fun ss => ss.Perm (intKeys (datV nlv P))) (Maps.size (datV nlv P)) w :=
    AnyZI.keys_gives (ρ := Try.keysP_ren) { Try.keysP with } Fence.wide 3 trivial rfl (by omega) B bp P.length (datV nlv P) w (World.block_lt_of_cell? w _ hB) hB hm.2
  have h := AnyZI.collect_in Try.collI Fence.wide 5 trivial trivial rfl (by omega) 97 #[.pointer (some ⟨B, 0, none⟩)] trivial (enters_of Try.func97 (by kernel_rfl) rfl) _ _ (by rw [size_datV]; unfold maxLen; omega) (by rw [size_datV]; omega) w hseq
  refine (callsIn_wide.1 h).mono ?_
  rintro e w' ⟨v, ss, rfl, hp, hrow, hnil, hb⟩
  rw [intKeys_datV] at hp
  refine ⟨v, ss, rfl, hp, rdI_of hrow, fun h0 => ?_, Kept.of_below hb⟩
  subst h0
  exact hnil.2 (List.perm_nil.1 hp)
/-- slices.Sort's two contracts. -/
theorem sortsI (m : Nat) : AnyZI.SortsIn Try.prog Try.sortedI_ren Fence.wide m :=
  ⟨fun blk off cap ss W hH hblk hsz => callsIn_wide.2 (AnyM.slices_Sort_int Try.sortI blk off cap ss W hH hblk hsz),
   fun p cap W => callsIn_wide.2 (AnyM.slices_Sort_int_none Try.sortI p cap W)⟩
theorem sortQ (w : World) (B bq : Nat) (Q : List Vt) (hB : w.cell? ⟨B, 0, none⟩ = some (.map (some bq))) (hm : MapV Try.prog 3 ppv w bq Q) (hl : Q.length ≤ 1000) :
    Calls Try.prog 63 #[.func (.func 101) #[] #[.pointer (some ⟨B, 0, none⟩)]] w fun e w' => ∃ (v : Value) (ss : List Int), e = .returned v ∧ ss.Perm (Q.map (fun v => v.s)) ∧ w'.ownsRow w.heap.size 3 1 v ss.length ((ss.mergeSort (fun x y => decide (x ≤ y))).map encZ) ∧ (v = .slice none 0 0 ↔ ss = []) ∧ Kept NoB w w' := by
  have hseq : SeqGives Fence.wide 2 Try.prog 101 #[.pointer (some ⟨B, 0, none⟩)] encZ (fun ss => ss.Perm (intKeys (datV ppv Q))) (Maps.size (datV ppv Q)) w :=
    AnyZI.keys_gives (ρ := Try.keysQ_ren) { Try.keysQ with } Fence.wide 2 trivial rfl (by omega) B bq Q.length (datV ppv Q) w (World.block_lt_of_cell? w _ hB) hB hm.2
  have h := AnyZI.sorted_in Try.sortedI Fence.wide 5 trivial trivial trivial trivial rfl (by omega) (sortsI _) (enters_of Try.func100 (by kernel_rfl) rfl) 101 #[.pointer (some ⟨B, 0, none⟩)] trivial (enters_of Try.func101 (by kernel_rfl) rfl) _ _ (by rw [size_datV]; unfold maxLen; omega) (by rw [size_datV]; omega) w hseq
  refine (callsIn_wide.1 h).mono ?_
  rintro e w' ⟨v, ss, rfl, hp, hrow, hnil, hb⟩
  rw [intKeys_datV] at hp
  exact ⟨v, ss, rfl, hp, hrow, hnil, Kept.of_below hb⟩
end Go.Proofs.Ytidhaofojcdbaaa
