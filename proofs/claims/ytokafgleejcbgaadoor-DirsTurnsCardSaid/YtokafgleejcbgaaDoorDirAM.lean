/-
  The frame of the card's proof of DirsTurns: entries that came in, where they lie; an entry by value.
-/
import Derived.Test.YtokafgleejcbgaaDoorDirAL
import Derived.Test.YtokafgleejcbgaaDoorDirX
import Derived.Test.YtokafgleejcbgaaDoorDirV
namespace Go.Proofs.YtokafgleejcbgaaDoor
open Go.ChangeShapes Go.WideShapes Go.ChangeAt Go.RowKit Go.Deep
set_option linter.unusedVariables false

section
variable {H : Type} {enc : TypeId × Value → H} {W : World} {base b0 : Nat}
theorem esl_plain29 {fuel : Nat} {c : Value} {x : DataW H × List MemPlace} (hf : DataW.trod enc Tryd.prog W base (fun _ => true) true fuel 22 [c] = some x) : PlainA c := by
  rcases open_slice_pairs Tryd.underlying22 Tryd.underlying24 (by kernel_rfl) rfl rfl (by kernel_rfl) (by kernel_rfl) hf with ⟨hcs, _⟩ | ⟨x, len, cap, m, n, V0, V1, D0, D1, P0, P1, hcs, _, hl, hm, hmm, _, hcell⟩
  · simp only [List.cons.injEq, and_true] at hcs
    subst hcs
    exact ⟨none, 0, 0, rfl, .inl rfl⟩
  · simp only [List.cons.injEq, and_true] at hcs
    subst hcs
    simp only [if_true] at hmm
    subst hmm
    by_cases hc : m = len
    · exact ⟨_, _, _, rfl, .inl hc⟩
    · obtain ⟨b, o, spot⟩ := x
      have h0 := (hcell 0 (by omega)).1
      have hspot : spot = none := by simpa [Addr.add] using World.cell?_spot h0
      subst hspot
      exact ⟨_, _, _, rfl, .inr ⟨b, o, rfl⟩⟩
theorem esl_open29b {d : DataW H} {p : List MemPlace} {a : Option Addr} {len cap : Nat}
    (h : DataW.Trod enc Tryd.prog W base (fun _ => true) true 22 (.slice a len cap) d p) : ∃ l : List En, ESl W (fun k => k < W.heap.size) (.slice a len cap) l ∧ (∀ x ∈ l, x.1.length ≤ maxLen) ∧ PlainA (.slice a len cap) := by
  obtain ⟨l, h1, h2⟩ := esl_open29 h
  obtain ⟨fuel, hf⟩ := h
  exact ⟨l, h1, h2, esl_plain29 (by simpa [Value.cells] using hf)⟩
theorem list2v29 {cs : List Value} (h : cs.length = 2) : ∃ a b, cs = [a, b] := by
  match cs, h with
  | [a, b], _ => exact ⟨a, b, rfl⟩
/-- An entry by value. -/
def EnV (v : Value) (p : En) : Prop := v = .agg #[.string ⟨p.1.toArray⟩, .int .i64 p.2] ∧ p.1.length ≤ maxLen
theorem ent_open29 {r : Reach} {v : Value} {d : DataW H} {p : List MemPlace} (hv : Value.okWide Tryd.prog W r b0 24 v)
    (h : DataW.Trod enc Tryd.prog W base (fun _ => true) true 24 v d p) : ∃ e : En, EnV v e := by
  obtain ⟨cs, rfl, hsz⟩ := okWide_struct Tryd.underlying24 hv
  have hC : Tryd.prog.cellsOf 24 = 2 := by kernel_rfl
  obtain ⟨l⟩ := cs
  obtain ⟨c0, c1, rfl⟩ := list2v29 (cs := l) (hsz.trans hC)
  obtain ⟨fuel, hf⟩ := h
  obtain ⟨xs, n', _, _, _, hxl, hg⟩ := DataW.trod_struct Tryd.underlying24 (by simpa [Value.cells] using hf)
  have hxl2 : xs.length = 2 := hxl
  match xs, hxl2 with
  | [y0, y1], _ =>
    have g0 : DataW.trod enc Tryd.prog W base (fun _ => true) true n' 9 [c0] = some y0 := hg 0 _ rfl
    have g1 : DataW.trod enc Tryd.prog W base (fun _ => true) true n' 3 [c1] = some y1 := hg 1 _ rfl
    obtain ⟨s0, e0, _, hs0⟩ := DataW.trod_string Tryd.underlying9 g0
    obtain ⟨k1, e1, _, w1⟩ := DataW.trod_int Tryd.underlying3 g1
    simp only [List.cons.injEq, and_true] at e0 e1
    subst e0 e1
    exact ⟨(s0.data.toList, k1), by simp, by rw [len29]; exact hs0⟩
end
theorem DirsTurns_v (v x : Value) (E : List En) (e : En) (s : ByteArray) (w : World) (h : ESl w (fun k => k < w.heap.size) v E) (hpa : PlainA v) (hlb : ∀ x ∈ E, x.1.length ≤ maxLen) (hx : EnV x e) (hs : s.size ≤ maxLen) (hv : Lng w) :
    Calls Tryd.prog 3 #[v, x, .string s] w fun e w' => e = .returned (.bool true) ∧ Kept NoB w w' := by
  obtain ⟨rfl, hn⟩ := hx
  unfold maxLen at hlb hn hs
  have := DirsTurns_any v E e.1 e.2 s.data.toList w h hpa (fun x hx => by have := hlb x hx; omega) (by omega) (by rw [len29]; omega) hv
  simpa using this
end Go.Proofs.YtokafgleejcbgaaDoor
