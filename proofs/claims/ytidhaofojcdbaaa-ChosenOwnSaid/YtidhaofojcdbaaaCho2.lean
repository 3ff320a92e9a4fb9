/-
  Package chosen: Gaps. Package chosen: the page's example; no log. The chapter's log: Next, Top, Gaps. The chapter's log: what came of the first slots' commands. The chapter's log: plain facts of what is known from slot 0 on; a slice of configurations from one on; Confs. The chapter's log: Learn. Written by wip/mkchok.py. ChosenOrder, plainly: what came rises; one Learn; rows of configurations that grow by slices of them. ChosenOrder, plainly: commands learned in any order, and in the order of their slots; the chapter's Learn with no configurations.
-/
import Derived.Test.YtidhaofojcdbaaaCho1
import Derived.Test.YtidhaofojcdbaaaCnf5
import Derived.Test.YtidhaofojcdbaaaCnf3
import Derived.Test.YtidhaofojcdbaaaAcc2
namespace Go.Proofs.Ytidhaofojcdbaaa
open Go.RowKit
set_option linter.unusedVariables false

/-- Of n numbers from a on those for which nothing is known. -/
def gapsN (L : List Vt) (a : Int) : Nat → List Int
  | 0 => []
  | n + 1 => gapsN L a n ++ (if (atV L (a + n)).isSome then [] else [a + n])
theorem gapsN_len (L : List Vt) (a : Int) (n : Nat) : (gapsN L a n).length ≤ n := by
  induction n with
  | zero => exact Nat.le_refl _
  | succ n ih =>
    unfold gapsN
    rw [List.length_append]
    split <;> simp <;> omega
theorem ent_gaps : ∀ (args : Array Value) (w : World), Sem.run Try.prog (callFunc 83 args) w = .ok (.enter 83 args) w := fun args w => by kernel_rfl
/-- The gaps' variable holds a row of the call's own. -/
structure GapAt (B : Nat) (w : World) (gv : Nat) (sv : Value) (gs : List Int) : Prop where
  cell : w.heap[gv]? = some (.cells #[sv] 82 (0, 0))
  own : IOwn B w sv gs
def GapE (B : Nat) (g bm bx gv : Nat) (F : Nat → Prop) (L : List Vt) (nx dn : Int) (a : Option Addr) (c : Nat) (l : List Cf) (gs : List Int) (w : World) (e : Ending) (w' : World) : Prop :=
  ∃ sv', e = .returned (.tuple #[]) ∧ GapAt B w' gv sv' gs ∧ w'.heap[bx]? = some (.cells #[.pointer (some ⟨g, 0, none⟩)] 74 (0, 0)) ∧ LogAt w' F g bm L nx dn a c l ∧ Kept (fun k => B ≤ k) w w'
set_option maxRecDepth 100000 in
set_option maxHeartbeats 1000000 in
theorem GapsFn_any (B : Nat) (w : World) (g bm bx gv : Nat) (F : Nat → Prop) (L : List Vt) (nx dn : Int) (a : Option Addr) (c : Nat) (l : List Cf) (s : Int) (sv : Value) (gs : List Int) (h : LogAt w F g bm L nx dn a c l) (hwf : (Lit.int .i64 s).wf = true)
    (hbx : w.heap[bx]? = some (.cells #[.pointer (some ⟨g, 0, none⟩)] 74 (0, 0))) (hgv : GapAt B w gv sv gs) (hB : B ≤ gv) (hF : ∀ k, F k → k < B) (hgB : g < B ∧ bm < B) (hl : gs.length ≤ 1000) (gs2 : List Int) (hgs : gs2 = gs ++ if (atV L s).isSome then [] else [s]) :
    Calls Try.prog 83 #[.int .i64 s, .pointer (some ⟨bx, 0, none⟩), .pointer (some ⟨gv, 0, none⟩)] w (GapE B g bm bx gv F L nx dn a c l gs2 w) := by
  have HAT := Lib.hid (LAt_any w F g bm s L nx dn a c l h hwf)
  have HL := Lib.hid h
  have HG := Lib.hid hgv
  have HBX := Lib.hid hbx
  have HFF := Lib.hid hF
  have hbx0 := cell_of_row _ _ 0 _ _ _ hbx
  obtain ⟨z, hz⟩ : ∃ z, z = (atV L s).isSome := ⟨_, rfl⟩
  obtain ⟨y, hy⟩ : ∃ y, y = (atV L s).getD vt0 := ⟨_, rfl⟩
  rw [← hz, ← hy] at HAT
  rw [← hz] at hgs
  have HGS := Lib.hid hgs
  obtain ⟨y0, y1, y2, y3, y4, y5⟩ := y
  rw [show vcv ⟨y0, y1, y2, y3, y4, y5⟩ = .agg #[.int .i64 y2, .int .i64 y3, .int .u64 y4, .int .i64 y5] from rfl] at HAT
  obtain ⟨sa, sc, rfl⟩ := hgv.own.form
  clear h hwf hbx hgv hF hz hy hgs
  cases z with
  | true =>
    go_enter Try.func83, Try.ntmps83
    go_wp2_with fail
    refine HAT.out.mono ?_
    rintro e w1 ⟨rfl, hk1⟩
    have hk2 := hk1.alloc (.cells #[.int .i64 y2, .int .i64 y3, .int .u64 y4, .int .i64 y5] 39)
    have HFIN : Hid (GapE B g bm bx gv F L nx dn a c l gs2 w (.returned (.tuple #[])) (w1.alloc (.cells #[.int .i64 y2, .int .i64 y3, .int .u64 y4, .int .i64 y5] 39))) :=
      Lib.hid ⟨_, rfl, ⟨hk2.heap (fun h => h) HG.out.cell, by rw [HGS.out, if_pos trivial, List.append_nil]; exact row_keptI HG.out.own hk2 (fun _ _ h => h)⟩, hk2.heap (fun h => h) HBX.out, HL.out.no hk2, hk2.mono (fun _ _ h => h.elim)⟩
    clear hk1 hk2 hbx0
    go_wp2
    go_end0
    exact HFIN.out
  | false =>
    go_enter Try.func83, Try.ntmps83
    go_wp2_with fail
    refine HAT.out.mono ?_
    rintro e w1 ⟨rfl, hk1⟩
    have hk2 := hk1.alloc (.cells #[.int .i64 y2, .int .i64 y3, .int .u64 y4, .int .i64 y5] 39)
    have HK3 := Lib.hid (hk2.alloc (.cells #[.int .i64 s] 3))
    have hz2 : (w1.alloc (.cells #[.int .i64 y2, .int .i64 y3, .int .u64 y4, .int .i64 y5] 39)).heap.size = w1.heap.size + 1 := by simp
    have hrn := heap_alloc_new (w1.alloc (.cells #[.int .i64 y2, .int .i64 y3, .int .u64 y4, .int .i64 y5] 39)) (.cells #[.int .i64 s] 3)
    rw [hz2] at hrn
    have HRN := Lib.hid hrn
    have HO := Lib.hid (row_keptI HG.out.own HK3.out (fun _ _ h => h))
    have HSZ : Hid (B ≤ ((w1.alloc (.cells #[.int .i64 y2, .int .i64 y3, .int .u64 y4, .int .i64 y5] 39)).alloc (.cells #[.int .i64 s] 3)).heap.size) := Lib.hid (by have := HK3.out.size; have := heap_lt HG.out.cell; omega)
    have g0 := cell_of_row _ _ 0 _ _ _ (hk2.heap (fun h => h) HG.out.cell)
    have HGC := Lib.hid (HK3.out.heap (fun h => h) HG.out.cell)
    have hgw : gv < w1.heap.size := by have := hk1.size; have := heap_lt HG.out.cell; omega
    have f0 : (w1.alloc (.cells #[.int .i64 y2, .int .i64 y3, .int .u64 y4, .int .i64 y5] 39)).frozen? ⟨gv, 0, none⟩ = false := blkA_frozen (hk2.heap (fun h => h) HG.out.cell) 0
    clear hk1 hk2 hbx0 hz2 hrn
    go_wp2_with (at_builtin; refine wpList_append_onei _ rfl (.tmp 14) (.tmp 16) rfl B (.slice sa gs.length sc) gs rfl HO.out (w1.heap.size + 1) s rfl HRN.out (by omega) HSZ.out ?_; intro a' c' w3 hown' hgr'; have HOWN3 := Lib.hid hown'; have HGR3 := Lib.hid hgr'; have HGC3 := Lib.hid (((Kept.refl (fun k => (Value.slice sa gs.length sc).ownBlock = some k) _).grown hgr' (fun k hk => .inl hk)).heap (fun e => HO.out.ne HGC.out (by decide) gv e rfl) HGC.out); have f3 := blkA_frozen HGC3.out 0; have g3 := cell_of_row _ _ 0 _ _ _ HGC3.out; clear hown' hgr')
    have hset := (((Kept.refl (fun k => (Value.slice sa gs.length sc).ownBlock = some k ∨ k = gv) _).grown HGR3.out (fun k hk => .inl (.inl hk))).setCell (p := ⟨gv, 0, none⟩) (.inl (.inr rfl)) (.slice a' (gs.length + 1) c'))
    have hall := (HK3.out.mono (T := fun k => (Value.slice sa gs.length sc).ownBlock = some k ∨ k = gv) (fun _ _ h => h.elim)).trans hset (fun _ _ h => h)
    have hown := row_keptI HOWN3.out ((Kept.refl (fun k => k = gv) w3).setCell (p := ⟨gv, 0, none⟩) (.inl rfl) (.slice a' (gs.length + 1) c')) (fun k hk e => HOWN3.out.ne HGC3.out (by decide) k hk e)
    have hB1 : ∀ k, ((Value.slice sa gs.length sc).ownBlock = some k ∨ k = gv) → B ≤ k := fun k hk => by
      rcases hk with hk | hk
      · exact (World.ownsRow.lt HG.out.own k hk).1
      · omega
    have hgs2 : gs2 = gs ++ [s] := by rw [HGS.out]; simp
    have hfin : GapE B g bm bx gv F L nx dn a c l gs2 w (.returned (.tuple #[])) (w3.setCell ⟨gv, 0, none⟩ (.slice a' (gs.length + 1) c')) := by
      refine ⟨_, rfl, ⟨blkA_set HGC3.out 0 _, by rw [hgs2]; exact hown⟩, hall.heap (fun e => ?_) HBX.out, HL.out.kept hall (fun e => by have := hB1 _ e; omega) (fun e => by have := hB1 _ e; omega) (fun k _ h e => by have := hB1 _ e; have := HFF.out k h; omega), hall.mono (fun k _ h => hB1 k h)⟩
      rcases e with e | e
      · exact HG.out.own.ne HBX.out (by decide) _ e rfl
      · have h1 := HBX.out
        rw [e, HG.out.cell] at h1
        injection h1 with h1
        injection h1 with _ h1
        exact absurd h1 (by decide)
    have HFIN := Lib.hid hfin
    clear hset hall hown hB1 hgs2 hfin g3 f3 g0 f0
    go_wp2
    go_end0
    exact HFIN.out
def GapsRel (w : World) (g bm bx gv : Nat) (F : Nat → Prop) (L : List Vt) (nx dn : Int) (a : Option Addr) (c : Nat) (l : List Cf) (t : Int) (iv : Value) (wr : World) : Prop :=
  ∃ (k : Nat) (sv : Value), iv = .int .i64 (nx + k) ∧ nx + k ≤ max t nx ∧ GapAt w.heap.size wr gv sv (gapsN L nx k) ∧ wr.heap[bx]? = some (.cells #[.pointer (some ⟨g, 0, none⟩)] 74 (0, 0)) ∧ LogAt wr F g bm L nx dn a c l ∧ Kept (fun k => w.heap.size ≤ k) w wr
/-- What Gaps tells. -/
def GapsE (L : List Vt) (nx : Int) (w : World) (e : Ending) (w' : World) : Prop :=
  ∃ (t : Int) (va : Option Addr) (vc : Nat), TopIs L t ∧ e = .returned (.slice va (gapsN L nx (t - nx).toNat).length vc) ∧ IOwn w.heap.size w' (.slice va (gapsN L nx (t - nx).toNat).length vc) (gapsN L nx (t - nx).toNat) ∧ Kept NoB w w'
theorem Kept.new {w w' : World} (h : Kept (fun k => w.heap.size ≤ k) w w') : Kept NoB w w' := ⟨h.os, h.tape, h.output, h.size, fun i hi _ => h.block i hi (fun e => by have e : w.heap.size ≤ i := e; omega)⟩
set_option maxRecDepth 100000 in
set_option maxHeartbeats 1000000 in
theorem LGaps_any (w : World) (F : Nat → Prop) (g bm : Nat) (L : List Vt) (nx dn : Int) (a : Option Addr) (c : Nat) (l : List Cf) (h : LogAt w F g bm L nx dn a c l) :
    Calls Try.prog 43 #[.pointer (some ⟨g, 0, none⟩)] w (GapsE L nx w) := by
  have hgl := h.lt
  have hn0 := h.n0
  have hn1 := h.n1
  have hent := ent_gaps
  have HL0 := Lib.hid h.cut
  have hr1 := heap_alloc_new w (.cells #[.pointer (some ⟨g, 0, none⟩)] 74)
  have hz1 : (w.alloc (.cells #[.pointer (some ⟨g, 0, none⟩)] 74)).heap.size = w.heap.size + 1 := by simp
  have hr2 := heap_alloc_new (w.alloc (.cells #[.pointer (some ⟨g, 0, none⟩)] 74)) (.cells #[.slice none 0 0] 82)
  rw [hz1] at hr2
  have HRB := Lib.hid (blkA_alloc hr1 (.cells #[.slice none 0 0] 82))
  have HRG := Lib.hid hr2
  have HK := Lib.hid (((Kept.refl NoB w).alloc (.cells #[.pointer (some ⟨g, 0, none⟩)] 74)).alloc (.cells #[.slice none 0 0] 82))
  clear h hr1 hz1 hr2
  go_enter Try.func43, Try.ntmps43
  go_wp2_with fail
  obtain ⟨W, hW⟩ : ∃ W, W = (w.alloc (.cells #[.pointer (some ⟨g, 0, none⟩)] 74)).alloc (.cells #[.slice none 0 0] 82) := ⟨_, rfl⟩
  rw [← hW] at HRB HRG HK ⊢
  clear hW
  have HL := Lib.hid (HL0.out.no HK.out)
  refine (LTop_any W _ g bm L nx dn a c l HL.out).mono ?_
  rintro e w1 ⟨t, rfl, ht, hk1⟩
  have HT := Lib.hid ht
  have HL1 := Lib.hid (HL.out.no hk1)
  have HRB1 := Lib.hid (hk1.heap (fun h => h) HRB.out)
  have HRG1 := Lib.hid (hk1.heap (fun h => h) HRG.out)
  have HK1 := Lib.hid (HK.out.trans hk1 (fun _ _ h => h))
  have b0 := cell_of_row _ _ 0 _ _ _ HRB1.out
  have ht5 : t ≤ 512 := by
    rcases ht.2 with h | ⟨v, hv, h⟩
    · omega
    · have := (HL.out.ok v hv).1.2.1; omega
  clear ht hk1
  go_wp2_with fail
  refine (LNext_any w1 _ g bm L nx dn a c l HL1.out).mono ?_
  rintro e w' ⟨rfl, rfl⟩
  go_wp2_with fail
  go_loopw [6] (GapsRel w g bm w.heap.size (w.heap.size + 1) (fun k => F k ∧ k < w.heap.size) L nx dn a c l t) (fun i _ => (512 - RowKit.intOf i).toNat)
  case atStart =>
    exact ⟨0, .slice none 0 0, by simp, by simp; omega, ⟨HRG1.out, IOwn.nil _ _⟩, HRB1.out, HL1.out, HK1.out.mono (fun _ _ h => h.elim)⟩
  case round =>
    obtain ⟨k, sv, rfl, hkt, hga, hbx, hlog, hkk⟩ := hrel
    have HGA := Lib.hid hga
    have HBX := Lib.hid hbx
    have HLG := Lib.hid hlog
    have HKK := Lib.hid hkk
    obtain ⟨N, hN⟩ : ∃ N : Int, N = nx + (k : Int) := ⟨_, rfl⟩
    have HN := Lib.hid hN
    have hN0 : 0 ≤ N := by omega
    rw [← hN] at hkt ⊢
    clear hga hbx hlog hkk b0
    by_cases hlt : N < t
    · have hwf : (Lit.int .i64 N).wf = true := WalkArith.wf_i64 (by omega)
      have hgn := gapsN_len L nx k
      have HFN := Lib.hid (GapsFn_any w.heap.size wr g bm w.heap.size (w.heap.size + 1) _ L nx dn a c l N sv (gapsN L nx k) HLG.out hwf HBX.out HGA.out (by omega) (fun i hi => hi.2) ⟨hgl.1, hgl.2.1⟩ (by omega) (gapsN L nx (k + 1)) (by rw [HN.out]; rfl))
      clear hN hwf hgn
      go_wp2_with fail
      refine HFN.out.mono ?_
      rintro e w5 ⟨sv', rfl, hga5, hbx5, hlog5, hk5⟩
      have HFIN : Hid (GapsRel w g bm w.heap.size (w.heap.size + 1) (fun k => F k ∧ k < w.heap.size) L nx dn a c l t (.int .i64 (N + 1)) w5) := Lib.hid ⟨k + 1, sv', by rw [HN.out]; congr 1; omega, by have := HN.out; omega, hga5, hbx5, hlog5, HKK.out.trans hk5 (fun _ _ h => h)⟩
      clear hga5 hbx5 hlog5 hk5
      go_wp2
      exact ⟨HFIN.out, by simp [RowKit.intOf]; omega⟩
    · have hge : t ≤ N := by omega
      have g0 := cell_of_row _ _ 0 _ _ _ HGA.out.cell
      have hkv : k = (t - nx).toNat := by omega
      obtain ⟨sa, sc, hsv⟩ := HGA.out.own.form
      have HFIN : Hid (GapsE L nx w (.returned sv) wr) := Lib.hid ⟨t, sa, sc, HT.out, by rw [hsv, hkv], by rw [← hkv, ← hsv]; exact HGA.out.own, HKK.out.new⟩
      clear hN hkv hsv
      go_wp2
      go_ret
      exact HFIN.out
end Go.Proofs.Ytidhaofojcdbaaa
namespace Go.Proofs.Ytidhaofojcdbaaa
open Go.RowKit
set_option linter.unusedVariables false

/-- What is known from a slot on is one list. -/
theorem up_one {L : List Vt} {nx : Int} {vs us : List Vt} (h1 : ∀ i (hi : i < vs.length), atV L (nx + i) = some vs[i]) (h2 : atV L (nx + vs.length) = none) (g1 : ∀ i (hi : i < us.length), atV L (nx + i) = some us[i]) (g2 : atV L (nx + us.length) = none) : vs = us := by
  have hl : vs.length = us.length := by
    rcases Nat.lt_trichotomy vs.length us.length with h | h | h
    · rw [g1 _ h] at h2; cases h2
    · exact h
    · rw [h1 _ h] at g2; cases g2
  refine List.ext_getElem hl (fun i hi1 hi2 => ?_)
  have a := h1 i hi1
  rw [g1 i hi2] at a
  injection a with a
  exact a.symm
theorem LGaps_nil (w : World) : Calls Try.prog 43 #[.pointer none] w fun e w' => e = .returned (.slice none 0 0) ∧ Kept NoB w w' := by
  have hent := ent_gaps
  have hk := ((Kept.refl NoB w).alloc (.cells #[.pointer none] 74)).alloc (.cells #[.slice none 0 0] 82)
  have HK := Lib.hid hk
  clear hk
  go_enter Try.func43, Try.ntmps43
  go_wp2_with fail
  refine (LTop_nil _).mono ?_
  rintro e w' ⟨rfl, rfl⟩
  go_wp2_with fail
  refine (LNext_nil _).mono ?_
  rintro e w' ⟨rfl, rfl⟩
  go_wp2_with fail
  refine wp_loop_rounds 1 ?_
  rw [rounds_succ]
  go_wp2
  go_ret
  exact ⟨rfl, HK.out⟩
theorem first12 (w : World) : Calls Try.prog 73 #[] w fun e w' => ∃ a c, e = .returned (.slice a 1 c) ∧ CfsAt w' (fun k => w.heap.size ≤ k) (.slice a 1 c) [⟨0, 1, [1, 2], false, 0⟩] ∧ Kept NoB w w' := by
  have HB := Lib.hid (RBegin_any 1 2 w)
  unfold BegE at HB
  have hc : begC 1 2 = [⟨0, 1, [1, 2], false, 0⟩] := by decide
  have hx : begX 1 2 = 0 := by decide
  rw [hc, hx] at HB
  clear hc hx
  go_enter Try.func73, Try.ntmps73
  go_wp2_with fail
  refine HB.out.mono ?_
  rintro e w1 ⟨u, rfl, hc, hk⟩
  obtain ⟨a, c, rfl, _⟩ := id hc
  have HC := Lib.hid hc
  have HK := Lib.hid hk
  clear hc hk
  go_wp2
  go_ret
  exact ⟨a, c, rfl, HC.out, HK.out⟩
def exC : List Cf := [⟨0, 1, [1, 2], false, 0⟩]
def exA : Vt := ⟨1, 0, 2, 0, 2, 5⟩
def exB : Vt := ⟨0, 0, 1, 0, 1, 1⟩
theorem ex_run : (runC exC [exB, exA]).1.length = 2 := by decide +kernel
theorem ex_all : AllC exC := by decide +kernel
theorem ex_put : putV [] exA = [exA] := rfl
theorem ex_top {t : Int} (h : TopIs [exA] t) : t = 2 := by
  rcases h.2 with ⟨_, h2⟩ | ⟨v, hv, h2⟩
  · cases h2
  · simp only [List.mem_singleton] at hv
    subst hv
    exact h2
theorem ex_gaps : gapsN [exA] 0 2 = [0] := by decide
theorem ex_up : ∀ i (hi : i < [exB, exA].length), atV [exB, exA] (0 + i) = some [exB, exA][i] := by
  intro i hi
  match i, hi with
  | 0, _ => rfl
  | 1, _ => rfl
theorem ex_x1 : lrnX [] 1 0 2 0 2 5 = 0 := by decide
theorem ex_x2 : lrnX [exA] 0 0 1 0 1 1 = 0 := by decide
set_option maxRecDepth 100000 in
set_option maxHeartbeats 2000000 in
theorem awake12 (w : World) : Calls Try.prog 31 #[] w (BoolE true w) := by
  go_enter Try.func31, Try.ntmps31
  go_wp2_with fail
  refine (first12 w).mono ?_
  rintro e w1 ⟨fa, fc, rfl, hcf, hk1⟩
  have HCF := Lib.hid hcf
  have HK1 := Lib.hid hk1
  clear hcf hk1
  go_wp2_with fail
  refine (LNew_any w1 _ exC _ HCF.out).mono ?_
  rintro e w2 hnew
  rcases hnew with ⟨_, g, bm, a, c, rfl, hlog, hg, hb, hk2⟩ | ⟨hbad, _⟩
  rotate_left
  · exact absurd ex_all hbad
  have HLOG := Lib.hid hlog
  have HK2 := Lib.hid (HK1.out.trans hk2 (fun _ _ h => h))
  have HGB : Hid (w.heap.size ≤ g ∧ w.heap.size ≤ bm) := Lib.hid (by have := HK1.out.size; omega)
  clear hlog hg hb hk2
  go_wp2_with fail
  refine (LLearn_any w2 _ g bm [] 0 0 a c exC 1 0 2 0 2 5 HLOG.out (Chk.ok.2 (by unfold Vld; omega)) (by omega) (by omega)).mono ?_
  rintro e w3 hle
  rcases hle with ⟨hbad, _⟩ | ⟨_, vs, oa, oc, a', c', G, rfl, hcf, hat, hno, hlog3, hk3⟩
  · exact absurd ex_x1 hbad
  have hvs : vs = [] := up_one hat hno (fun i hi => by simp at hi) (by decide)
  subst hvs
  simp only [runC, List.length_nil, Int.natCast_zero, Int.add_zero] at hcf hlog3
  have HLOG3 := Lib.hid hlog3
  have HK3 := Lib.hid (HK2.out.trans hk3 (fun i hi h => by have := HGB.out; rcases h with h | h <;> omega))
  clear hcf hat hno hlog3 hk3
  simp only [runC, List.length_nil]
  go_wp2_with fail
  refine (LGaps_any w3 _ g bm [exA] 0 0 a' c' exC HLOG3.out).mono ?_
  rintro e w4 ⟨t, va, vc, ht, rfl, hown, hk4⟩
  obtain rfl := ex_top ht
  rw [show ((2 : Int) - 0).toNat = 2 from rfl, ex_gaps] at hown ⊢
  have HOWN4 := Lib.hid hown
  have HLOG4 := Lib.hid (HLOG3.out.no hk4)
  have HK4 := Lib.hid (HK3.out.trans hk4 (fun _ _ h => h))
  clear hown hk4 ht
  go_wp2_with fail
  refine (LLearn_any w4 _ g bm [exA] 0 0 a' c' exC 0 0 1 0 1 1 HLOG4.out (Chk.ok.2 (by unfold Vld; omega)) (by omega) (by omega)).mono ?_
  rintro e w5 hle
  rcases hle with ⟨hbad, _⟩ | ⟨_, vs, oa, oc, a2, c2, G2, rfl, hcf, hat, hno, hlog5, hk5⟩
  · exact absurd ex_x2 hbad
  have hvs : vs = [exB, exA] := up_one hat hno ex_up (by decide)
  subst hvs
  rw [ex_run] at hcf hlog5 ⊢
  have HLOG5 := Lib.hid hlog5
  have HK5 := Lib.hid (HK4.out.trans hk5 (fun i hi h => by have := HGB.out; rcases h with h | h <;> omega))
  have hl3 := HLOG3.out.lt
  have HOWN5 := Lib.hid ((row_keptI HOWN4.out hk5 (fun k hk h => by have := (World.ownsRow.lt HOWN4.out k hk).1; rcases h with h | h <;> omega)).nsl (F := fun _ => True) (fun _ _ => trivial))
  have HONE := Lib.hid (nsl_one (heap_alloc_new w5 (.cells #[.int .i64 0] 3)))
  have HOWN6 := Lib.hid (HOWN5.out.kept ((Kept.refl NoB w5).alloc (.cells #[.int .i64 0] 3)) (fun _ _ _ h => h))
  have HK6 := Lib.hid (HK5.out.alloc (.cells #[.int .i64 0] 3))
  have HLOG6 := Lib.hid (HLOG5.out.no ((Kept.refl NoB w5).alloc (.cells #[.int .i64 0] 3)))
  have HNX : Hid (((0 : Int) + ([exB, exA].length : Nat)) = 2) := Lib.hid rfl
  rw [HNX.out] at HLOG6
  clear hcf hat hno hlog5 hk5 hl3
  go_wp2_with fail
  refine (SameN_any _ _ [0] [0] _ _ _ HOWN6.out HONE.out).mono ?_
  rintro e w7 ⟨rfl, hk7⟩
  rw [decide_eq_true rfl]
  have HK7 := Lib.hid (HK6.out.trans hk7 (fun _ _ h => h))
  have HLOG7 := Lib.hid (HLOG6.out.no hk7)
  clear hk7
  go_wp2_with fail
  refine (LNext_any w7 _ g bm _ 2 _ _ _ _ HLOG7.out).mono ?_
  rintro e w' ⟨rfl, rfl⟩
  go_wp2
  go_ret
  exact ⟨rfl, HK7.out⟩
theorem sameC_z : sameC cf0 cf0 = true := by unfold sameC; simp
theorem cc12z {w : World} {b : Nat} (h : w.heap[b]? = some (.cells #[.int .i64 0, .int .i64 0, .int .u64 0, .int .i64 0] 39 (0, 0))) :
    w.cell? ⟨b, 0, none⟩ = some (.int .i64 0) ∧ w.cell? ⟨b, 1, none⟩ = some (.int .i64 0) ∧ w.cell? ⟨b, 2, none⟩ = some (.int .u64 0) ∧ w.cell? ⟨b, 3, none⟩ = some (.int .i64 0) := cells4c h
set_option maxRecDepth 100000 in
set_option maxHeartbeats 2000000 in
theorem ChosenNil_any (s k ch ep nd : Int) (w : World) : Calls Try.prog 9 #[.int .i64 s, .agg #[.int .i64 k, .int .i64 ch, .int .u64 ep, .int .i64 nd]] w (BoolE true w) := by
  have hrow := heap_alloc_new w (.cells #[.int .i64 k, .int .i64 ch, .int .u64 ep, .int .i64 nd] 39)
  have hk0 := (Kept.refl NoB w).alloc (.cells #[.int .i64 k, .int .i64 ch, .int .u64 ep, .int .i64 nd] 39)
  obtain ⟨W, hW⟩ : ∃ W, W = w.alloc (.cells #[.int .i64 k, .int .i64 ch, .int .u64 ep, .int .i64 nd] 39) := ⟨_, rfl⟩
  have HWW := Lib.hid hW
  rw [← hW] at hrow hk0
  have HR := Lib.hid hrow
  have HK := Lib.hid hk0
  clear hrow hk0 hW
  go_enter Try.func9, Try.ntmps9
  go_wp2_with fail
  rw [← HWW.out]
  refine (LLearn_nil W s k ch ep nd).mono ?_
  rintro e w1 ⟨rfl, hk1⟩
  have HK1 := Lib.hid (HK.out.trans hk1 (fun _ _ h => h))
  have HR1 := Lib.hid (hk1.heap (fun h => h) HR.out)
  clear hk1
  go_wp2_with fail
  refine (LAt_nil w1 s).mono ?_
  rintro e w2 ⟨rfl, hk2⟩
  rw [show vcv vt0 = .agg #[.int .i64 0, .int .i64 0, .int .u64 0, .int .i64 0] from rfl]
  have HK2 := Lib.hid ((HK1.out.trans hk2 (fun _ _ h => h)).alloc (.cells #[.int .i64 0, .int .i64 0, .int .u64 0, .int .i64 0] 39))
  have HR2 := Lib.hid (blkA_alloc (hk2.heap (fun h => h) HR1.out) (.cells #[.int .i64 0, .int .i64 0, .int .u64 0, .int .i64 0] 39))
  have HD2 := Lib.hid (heap_alloc_new w2 (.cells #[.int .i64 0, .int .i64 0, .int .u64 0, .int .i64 0] 39))
  clear hk2
  go_upto_region 4 with fail
  obtain ⟨W2, hW2⟩ : ∃ W, W = w2.alloc (.cells #[.int .i64 0, .int .i64 0, .int .u64 0, .int .i64 0] 39) := ⟨_, rfl⟩
  rw [← hW2] at HK2 HR2 HD2 ⊢
  have hlt2 : w2.heap.size < W2.heap.size := by rw [hW2]; simp
  clear hW2
  go_wp2_with fail
  refine (LConf_no W2 (.pointer none) s (.inl rfl)).mono ?_
  rintro e w3 ⟨rfl, hk3⟩
  unfold cfz
  have HK3 := Lib.hid ((HK2.out.trans hk3 (fun _ _ h => h)).alloc (.cells #[.int .i64 0, .int .u64 0, .slice none 0 0, .bool false, .int .i64 0] 84))
  have HR3 := Lib.hid (blkA_alloc (hk3.heap (fun h => h) HR2.out) (.cells #[.int .i64 0, .int .u64 0, .slice none 0 0, .bool false, .int .i64 0] 84))
  have HD3 := Lib.hid (blkA_alloc (hk3.heap (fun h => h) HD2.out) (.cells #[.int .i64 0, .int .u64 0, .slice none 0 0, .bool false, .int .i64 0] 84))
  have HC3 := Lib.hid (heap_alloc_new w3 (.cells #[.int .i64 0, .int .u64 0, .slice none 0 0, .bool false, .int .i64 0] 84))
  clear hk3 hlt2
  go_upto_region 5 with fail
  obtain ⟨W3, hW3⟩ : ∃ W, W = w3.alloc (.cells #[.int .i64 0, .int .u64 0, .slice none 0 0, .bool false, .int .i64 0] 84) := ⟨_, rfl⟩
  rw [← hW3] at HK3 HR3 HD3 HC3 ⊢
  clear hW3
  obtain ⟨c0, c1, c2, c3⟩ := cells4c HD3.out
  go_wp2_with (first
    | (go_at_call 37; refine (LNext_nil _).mono ?_; rintro e w' ⟨rfl, rfl⟩)
    | (go_at_call 42; refine (LTop_nil _).mono ?_; rintro e w' ⟨rfl, rfl⟩))
  refine (LGaps_nil W3).mono ?_
  rintro e w4 ⟨rfl, hk4⟩
  have HK4 := Lib.hid (HK3.out.trans hk4 (fun _ _ h => h))
  have HR4 := Lib.hid (hk4.heap (fun h => h) HR3.out)
  have HC4 := Lib.hid (hk4.heap (fun h => h) HC3.out)
  clear hk4 c0 c1 c2 c3
  obtain ⟨c0, c1, c2, c3, c4⟩ := cells5 HC4.out
  go_wp2_with (go_at_call 36; refine (LConfs_nil _).mono ?_; rintro e w' ⟨rfl, rfl⟩)
  refine (RSame_any _ _ cf0 cf0 (fun _ => True) (fun _ => True) w4 ⟨.slice none 0 0, rfl, NSl.nil _ _, by decide, by unfold topE; decide, by decide⟩ ⟨.slice none 0 0, rfl, NSl.nil _ _, by decide, by unfold topE; decide, by decide⟩).mono ?_
  rintro e w5 ⟨rfl, hk5⟩
  rw [sameC_z]
  have HK5 := Lib.hid (HK4.out.trans hk5 (fun _ _ h => h))
  have HR5 := Lib.hid (hk5.heap (fun h => h) HR4.out)
  clear hk5 c0 c1 c2 c3 c4
  obtain ⟨d0, d1, d2, d3⟩ := cells4c HR5.out
  go_wp2_with fail
  refine (LCan_nil w5 k ch ep nd).mono ?_
  rintro e w6 ⟨rfl, hk6⟩
  have HK6 := Lib.hid (HK5.out.trans hk6 (fun _ _ h => h))
  clear hk6 d0 d1 d2 d3
  go_wp2_with (go_at_call 46; refine (LDone_nil _).mono ?_; rintro e w' ⟨rfl, rfl⟩)
  refine (awake12 w6).mono ?_
  rintro e w7 ⟨rfl, hk7⟩
  have HK7 := Lib.hid (HK6.out.trans hk7 (fun _ _ h => h))
  clear hk7
  go_wp2
  go_ret
  exact ⟨rfl, HK7.out⟩
end Go.Proofs.Ytidhaofojcdbaaa
namespace Go.Proofs.Ytidhaofojcdbaaa
open Go.RowKit
set_option linter.unusedVariables false

/-- So many slots from 0 on are known. -/
def LeadIs (L : List Vt) (n : Nat) : Prop := n ≤ L.length ∧ (∀ i (hi : i < L.length), i < n → L[i].s = (i : Int)) ∧ (∀ hi : n < L.length, L[n].s ≠ (n : Int))
/-- The chapter's log as a value. -/
structure RLogAt (w : World) (F : Nat → Prop) (ka : Option Addr) (kc : Nat) (fa : Option Addr) (fc : Nat) (L : List Vt) (l : List Cf) : Prop where
  known : VRd w F (.slice ka L.length kc) L
  first : CfsAt w F (.slice fa l.length fc) l
theorem RLogAt.kept {S F : Nat → Prop} {w w' : World} {ka fa : Option Addr} {kc fc : Nat} {L : List Vt} {l : List Cf} (h : RLogAt w F ka kc fa fc L l) (hk : Kept S w w') (hs : ∀ k, F k → ¬ S k) : RLogAt w' F ka kc fa fc L l :=
  ⟨h.known.kept hk hs, h.first.kept hk (fun k _ hF => hs k hF)⟩
theorem RLogAt.no {F : Nat → Prop} {w w' : World} {ka fa : Option Addr} {kc fc : Nat} {L : List Vt} {l : List Cf} (h : RLogAt w F ka kc fa fc L l) (hk : Kept NoB w w') : RLogAt w' F ka kc fa fc L l := h.kept hk (fun _ _ h => h)
abbrev rlv (ka : Option Addr) (kc : Nat) (fa : Option Addr) (fc : Nat) (L : List Vt) (l : List Cf) : Value := .agg #[.slice ka L.length kc, .slice fa l.length fc]
theorem cells2l {w : World} {b : Nat} {x y : Value} {t : TypeId} (h : w.heap[b]? = some (.cells #[x, y] t (0, 0))) : w.cell? ⟨b, 0, none⟩ = some x ∧ w.cell? ⟨b, 1, none⟩ = some y ∧ w.frozen? ⟨b, 0, none⟩ = false ∧ w.frozen? ⟨b, 1, none⟩ = false :=
  ⟨cell_of_row _ _ 0 _ _ _ h, cell_of_row _ _ 1 _ _ _ h, blkA_frozen h 0, blkA_frozen h 1⟩
def RnRel (W : World) (L : List Vt) (nv : Value) (wr : World) : Prop := ∃ n : Nat, nv = .int .i64 n ∧ n ≤ L.length ∧ (∀ i (hi : i < L.length), i < n → L[i].s = (i : Int)) ∧ wr = W
set_option maxRecDepth 100000 in
theorem RNext_any (w : World) (F : Nat → Prop) (ka fa : Option Addr) (kc fc : Nat) (L : List Vt) (l : List Cf) (h : RLogAt w F ka kc fa fc L l) (hl : L.length ≤ 100000) : Calls Try.prog 79 #[.agg #[.slice ka L.length kc, .slice fa l.length fc]] w fun e w' => ∃ n : Nat, e = .returned (.int .i64 n) ∧ LeadIs L n ∧ Kept NoB w w' := by
  have hk := (Kept.refl NoB w).alloc (.cells #[.slice ka L.length kc, .slice fa l.length fc] 78)
  have hr := heap_alloc_new w (.cells #[.slice ka L.length kc, .slice fa l.length fc] 78)
  obtain ⟨W, hW⟩ : ∃ W, W = w.alloc (.cells #[.slice ka L.length kc, .slice fa l.length fc] 78) := ⟨_, rfl⟩
  have HWW := Lib.hid hW
  rw [← hW] at hk hr
  have HK := Lib.hid hk
  have HR := Lib.hid hr
  have HV := Lib.hid (h.known.no hk)
  clear h hk hr hW
  go_enter Try.func79, Try.ntmps79
  go_wp2_with fail
  rw [← HWW.out]
  go_loopw [3] (RnRel W L) (fun i _ => L.length - (RowKit.intOf i).toNat)
  case atStart => exact ⟨0, rfl, Nat.zero_le _, (fun i _ h => absurd h (by omega)), rfl⟩
  case round =>
    obtain ⟨n, rfl, hn, hlow, rfl⟩ := hrel
    have HLOW := Lib.hid hlow
    obtain ⟨c0, c1, _, _⟩ := cells2l HR.out
    have hn0 : (0 : Int) ≤ (n : Int) := by omega
    clear hlow
    by_cases hlt : n < L.length
    · have hn1 : (n : Int) < (L.length : Int) := by omega
      obtain ⟨b, o, rfl, _, hb, e0, _⟩ := HV.out.at_ n hlt
      obtain ⟨y, hy⟩ : ∃ y, y = L[n].s := ⟨_, rfl⟩
      have HY := Lib.hid hy
      rw [← hy] at e0
      clear hy
      by_cases he : y = (n : Int)
      · subst he
        go_wp2
        exact ⟨⟨n + 1, by go_num, by omega, fun i hi hin => by
          by_cases e : i < n
          · exact HLOW.out i hi e
          · obtain rfl : i = n := by omega
            exact HY.out.symm, rfl⟩, by simp [RowKit.intOf]; omega⟩
      · have hbq : (y == (n : Int)) = false := by simpa using he
        have HE := Lib.hid he
        have HFIN : Hid (LeadIs L n) := Lib.hid ⟨hn, HLOW.out, fun hi e => HE.out (HY.out.trans e)⟩
        clear he
        go_wp2
        go_ret
        exact ⟨n, rfl, HFIN.out, HK.out⟩
    · obtain rfl : n = L.length := by omega
      have HFIN : Hid (LeadIs L L.length) := Lib.hid ⟨Nat.le_refl _, HLOW.out, fun hi => absurd hi (by omega)⟩
      go_wp2
      go_ret
      exact ⟨L.length, rfl, HFIN.out, HK.out⟩
theorem srt_last {L : List Vt} (h : Srt L) (m : Nat) (hm : m < L.length) (hl : m + 1 = L.length) : TopIs L (L[m].s + 1) := by
  refine ⟨fun v hv => ?_, .inr ⟨_, List.getElem_mem hm, rfl⟩⟩
  obtain ⟨i, hi, rfl⟩ := List.getElem_of_mem hv
  by_cases e : i = m
  · subst e; omega
  · have := List.pairwise_iff_getElem.1 h i m hi hm (by omega)
    omega
theorem TopIs.one {L : List Vt} {s t : Int} (h : TopIs L s) (g : TopIs L t) : s = t := by
  rcases h.2 with ⟨h1, h2⟩ | ⟨v, hv, h1⟩
  · rcases g.2 with ⟨g1, _⟩ | ⟨u, hu, _⟩
    · omega
    · rw [h2] at hu; cases hu
  · rcases g.2 with ⟨_, g2⟩ | ⟨u, hu, g1⟩
    · rw [g2] at hv; cases hv
    · have := h.1 u hu
      have := g.1 v hv
      omega
def RTopE (L : List Vt) (w : World) (e : Ending) (w' : World) : Prop := ∃ t : Int, e = .returned (.int .i64 t) ∧ TopIs L t ∧ Kept NoB w w'
def RGapsE (L : List Vt) (t : Int) (w : World) (e : Ending) (w' : World) : Prop := ∃ va vc, e = .returned (.slice va (gapsN L 0 t.toNat).length vc) ∧ IOwn w.heap.size w' (.slice va (gapsN L 0 t.toNat).length vc) (gapsN L 0 t.toNat) ∧ Kept NoB w w'
def RgRel (w : World) (L : List Vt) (t : Int) (ov iv : Value) (wr : World) : Prop := ∃ k : Nat, iv = .int .i64 k ∧ (k : Int) ≤ t ∧ IOwn w.heap.size wr ov (gapsN L 0 k) ∧ Kept NoB w wr
end Go.Proofs.Ytidhaofojcdbaaa
namespace Go.Proofs.Ytidhaofojcdbaaa
open Go.RowKit
set_option linter.unusedVariables false

def CameE (F : Nat → Prop) (l : List Cf) (M : List Vt) (w : World) (e : Ending) (w' : World) : Prop :=
  ∃ ca cc na nc, e = .returned (.tuple #[.slice ca (runC l M).1.length cc, .slice na (runC l M).2.length nc]) ∧ CfsAt w' (fun k => F k ∨ w.heap.size ≤ k) (.slice ca (runC l M).1.length cc) (runC l M).1 ∧ CfsAt w' (fun k => F k ∨ w.heap.size ≤ k) (.slice na (runC l M).2.length nc) (runC l M).2 ∧ Kept NoB w w'
structure CmAt (W : World) (F G : Nat → Prop) (l : List Cf) (M : List Vt) (ps : List (Cf × Value)) (o6 : Value) (na : Option Addr) (nc : Nat) (wr : World) : Prop where
  own : KOwn W.heap.size wr o6 ps
  out : ps.map Prod.fst = (runC l M).1
  nod : ∀ p ∈ ps, NSl wr (fun k => (F k ∨ W.heap.size ≤ k) ∧ o6.ownBlock ≠ some k) p.2 p.1.ns ∧ 0 ≤ p.1.ep ∧ p.1.ep ≤ topE ∧ p.1.ns.length ≤ 1000
  now : CfsAt wr G (.slice na (runC l M).2.length nc) (runC l M).2
  sub : ∀ k, G k → F k ∨ W.heap.size ≤ k
  apart : ∀ k, o6.ownBlock = some k → ¬ G k
  kept : Kept NoB W wr
def CmRel (W : World) (F : Nat → Prop) (l : List Cf) (L : List Vt) (n : Nat) (o6 o7 iv : Value) (wr : World) : Prop :=
  ∃ (k : Nat) (ps : List (Cf × Value)) (na : Option Addr) (nc : Nat) (G : Nat → Prop), iv = .int .i64 k ∧ k ≤ n ∧ o7 = .slice na (runC l (L.take k)).2.length nc ∧ CmAt W F G l (L.take k) ps o6 na nc wr
theorem take_vt {L : List Vt} {k : Nat} (h : k < L.length) : L.take (k + 1) = L.take k ++ [L[k]] := List.take_succ_eq_append_getElem h
set_option maxRecDepth 100000 in
set_option maxHeartbeats 4000000 in
theorem RCame_any (w : World) (F : Nat → Prop) (ka fa : Option Addr) (kc fc : Nat) (L : List Vt) (l : List Cf) (n : Nat) (h : RLogAt w F ka kc fa fc L l) (hl : L.length ≤ 10000) (hn : n ≤ L.length) (hf : l.length ≤ 1000) (hF : ∀ k, F k → k < w.heap.size) (hok : ∀ v ∈ L, Chk v.k v.ch v.ep v.nd 0 ∧ 0 ≤ v.ep) :
    Calls Try.prog 78 #[.agg #[.slice ka L.length kc, .slice fa l.length fc], .int .i64 n] w (CameE F l (L.take n) w) := by
  have hk := (Kept.refl NoB w).alloc (.cells #[.slice ka L.length kc, .slice fa l.length fc] 78)
  have hr := heap_alloc_new w (.cells #[.slice ka L.length kc, .slice fa l.length fc] 78)
  obtain ⟨W, hW⟩ : ∃ W, W = w.alloc (.cells #[.slice ka L.length kc, .slice fa l.length fc] 78) := ⟨_, rfl⟩
  have HWW := Lib.hid hW
  have hsz : w.heap.size < W.heap.size := by rw [hW]; simp
  rw [← hW] at hk hr
  have HK := Lib.hid hk
  have HR := Lib.hid hr
  have HRL := Lib.hid (h.no hk)
  have HOK := Lib.hid hok
  have HF := Lib.hid hF
  clear h hk hr hW hok hF
  go_enter Try.func78, Try.ntmps78
  go_upto_region 2 with fail
  rw [← HWW.out]
  obtain ⟨c0, c1, _, _⟩ := cells2l HR.out
  go_wp2_with fail
  go_loopw [6, 7, 8] (CmRel W F l L n) (fun _ _ i _ => n - (RowKit.intOf i).toNat)
  case atStart => exact ⟨0, [], fa, fc, F, rfl, Nat.zero_le _, by simp [runC], ⟨KOwn.nil _ _, by simp [runC], (fun p hp => by cases hp), by simpa [runC] using HRL.out.first, (fun k hk => .inl hk), (fun k hk => by cases hk), Kept.refl _ _⟩⟩
  case round =>
    obtain ⟨k, ps, na, nc, G, rfl, hkn, rfl, hcm⟩ := hrel
    have hk0 : (0 : Int) ≤ (k : Int) := by omega
    have HCM := Lib.hid hcm
    clear hcm c0 c1
    obtain ⟨oa, oc, rfl⟩ := HCM.out.own.form
    by_cases hlt : k < n
    · have hk1 : (k : Int) < (n : Int) := by omega
      have hkl : k < L.length := by omega
      have hkl1 : (k : Int) < (L.length : Int) := by omega
      obtain ⟨b, o, rfl, _, _, e0, e1, e2, e3, e4, e5⟩ := (HRL.out.known.no HCM.out.kept).at_ k hkl
      obtain ⟨hvx, hep0⟩ := HOK.out _ (List.getElem_mem hkl)
      have hst := take_vt hkl
      obtain ⟨v, hv⟩ : ∃ v, v = L[k] := ⟨_, rfl⟩
      rw [← hv] at e0 e1 e2 e3 e4 e5 hvx hep0 hst
      clear hv e0 e1
      obtain ⟨lv, hlv⟩ : ∃ x, x = (runC l (L.take k)).2 := ⟨_, rfl⟩
      have HS := Lib.hid (runC_snoc l (L.take k) v)
      rw [← hlv] at HS
      have hllen : lv.length ≤ 1000 := by rw [hlv, runC_len]; exact hf
      have hnow := HCM.out.now.mono (G := fun i => G i ∧ i < wr.heap.size) (fun i hi hg => ⟨hg, hi⟩)
      rw [← hlv] at hnow ⊢
      have hpl : ps.length = (runC l (L.take k)).1.length := by rw [← HCM.out.out, List.length_map]
      have hpl2 := runC_few l (L.take k)
      have hpl3 : (L.take k).length ≤ k := List.length_take_le _ _
      have hps : ps.length ≤ 10000 := by omega
      have HST := Lib.hid hst
      have HNOW := Lib.hid hnow
      have HRW := Lib.hid (HCM.out.kept.heap (fun h => h) HR.out)
      have HBASE := Lib.hid (fun i hi => World.ownsRow.lt HCM.out.own i hi)
      have hszr : W.heap.size ≤ wr.heap.size := HCM.out.kept.size
      clear hst hnow hpl hpl2 hpl3 hlv
      obtain ⟨v0, vb, vk, vch, vep, vnd⟩ := v
      simp only at e2 e3 e4 e5 hvx hep0
      obtain ⟨c0, c1, _, _⟩ := cells2l HRW.out
      go_upto_region 7 with fail
      have hrc := heap_alloc_new wr (.cells #[.int .i64 vk, .int .i64 vch, .int .u64 vep, .int .i64 vnd] 39)
      have hkc := (Kept.refl NoB wr).alloc (.cells #[.int .i64 vk, .int .i64 vch, .int .u64 vep, .int .i64 vnd] 39)
      obtain ⟨W1, hW1⟩ : ∃ W, W = wr.alloc (.cells #[.int .i64 vk, .int .i64 vch, .int .u64 vep, .int .i64 vnd] 39) := ⟨_, rfl⟩
      have hsz1 : wr.heap.size ≤ W1.heap.size := by rw [hW1]; simp
      rw [← hW1] at hrc hkc ⊢
      have HRC := Lib.hid hrc
      have HKC := Lib.hid hkc
      clear hW1 hrc hkc c0 c1 e2 e3 e4 e5
      obtain ⟨M, hM⟩ : ∃ M, M = nowC lv ⟨v0, vb, vk, vch, vep, vnd⟩ := ⟨_, rfl⟩
      have hml : M.length = lv.length := by rw [hM, nowC_len]
      have HDO : Hid (Calls Try.prog 39 #[.slice na lv.length nc, .agg #[.int .i64 vk, .int .i64 vch, .int .u64 vep, .int .i64 vnd]] W1 fun e w'' => ∃ xa xc, e = .returned (.tuple #[.slice xa M.length xc, .bool (decide (canC lv 0 vk vch vep vnd = 0))]) ∧ CfsAt w'' (fun i => (G i ∧ i < wr.heap.size) ∨ W1.heap.size ≤ i) (.slice xa M.length xc) M ∧ Kept NoB W1 w'') := Lib.hid (by
        refine (RDo_any _ lv 0 vk vch vep vnd _ W1 (HNOW.out.kept HKC.out (fun _ _ _ h => h)) hllen hvx hep0).mono fun e w'' ⟨u, h1, h2, h3⟩ => ?_
        obtain ⟨xa, xc, rfl, _⟩ := id h2
        have e : doC lv 0 vk vch vep vnd = M := hM.symm
        rw [e] at h1 h2
        exact ⟨xa, xc, h1, h2, h3⟩)
      obtain ⟨d0, d1, d2, d3⟩ := cells4c HRC.out
      go_wp2_with fail
      refine HDO.out.mono ?_
      rintro e w2 ⟨xa, xc, rfl, hx2, hk2⟩
      have HX2 := Lib.hid hx2
      have HK2 := Lib.hid (HKC.out.trans hk2 (fun _ _ h => h))
      have HRC2 := Lib.hid (hk2.heap (fun h => h) HRC.out)
      have hsz2 := hk2.size
      clear hx2 hk2 d0 d1 d2 d3 HDO
      obtain ⟨d0, d1, d2, d3⟩ := cells4c HRC2.out
      have HMV : Hid ((runC l (L.take (k + 1))).2 = M) := Lib.hid (by rw [HST.out, HS.out, hM])
      have HMM := Lib.hid hM
      have HML := Lib.hid hml
      clear hM hml
      cases hok : okC lv ⟨v0, vb, vk, vch, vep, vnd⟩ with
      | false =>
        have HCAME : Hid ((runC l (L.take (k + 1))).1 = (runC l (L.take k)).1) := Lib.hid (by rw [HST.out, HS.out]; unfold cameC; rw [hok, if_neg (by simp)]; simp)
        have HCA : Hid (CmRel W F l L n (.slice oa ps.length oc) (.slice xa M.length xc) (.int .i64 ((k : Int) + 1)) w2) := Lib.hid ⟨k + 1, ps, xa, xc, _, by go_num, by omega, by rw [HMV.out],
          ⟨HCM.out.own.kept HK2.out (fun _ _ h => h), by rw [HCAME.out]; exact HCM.out.out, fun p hp => ⟨(HCM.out.nod p hp).1.kept HK2.out (fun _ _ _ h => h), (HCM.out.nod p hp).2⟩, by rw [HMV.out]; exact HX2.out, fun i hi => by
            rcases hi with hi | hi
            · exact HCM.out.sub i hi.1
            · exact .inr (by omega), fun i hi h => by
            rcases h with h | h
            · exact HCM.out.apart i hi h.1
            · have := (HBASE.out i hi).2; omega, HCM.out.kept.trans HK2.out (fun _ _ h => h)⟩⟩
        unfold okC at hok
        simp only at hok
        have hmeas : n - (k + 1) < n - k := by omega
        by_cases hc : canC lv 0 vk vch vep vnd = 0
        · have hk00 : vk = 0 := by
            rw [decide_eq_true hc] at hok
            simpa using hok
          have hcd : decide (canC lv 0 vk vch vep vnd = 0) = true := decide_eq_true hc
          obtain ⟨ok, hokk⟩ : ∃ ok, ok = decide (canC lv 0 vk vch vep vnd = 0) := ⟨_, rfl⟩
          rw [← hokk] at hcd ⊢
          clear hok hc hokk hvx
          subst hk00 hcd
          go_wp2
          exact ⟨HCA.out, by simp [RowKit.intOf]; omega⟩
        · have hcd : decide (canC lv 0 vk vch vep vnd = 0) = false := decide_eq_false hc
          obtain ⟨ok, hokk⟩ : ∃ ok, ok = decide (canC lv 0 vk vch vep vnd = 0) := ⟨_, rfl⟩
          rw [← hokk] at hcd ⊢
          clear hok hc hokk hvx
          subst hcd
          go_wp2
          exact ⟨HCA.out, by simp [RowKit.intOf]; omega⟩
      | true =>
        have HCAME : Hid ((runC l (L.take (k + 1))).1 = (runC l (L.take k)).1 ++ [nthC M vch.toNat]) := Lib.hid (by rw [HST.out, HS.out]; unfold cameC; rw [hok, if_pos rfl, ← HMM.out])
        unfold okC at hok
        simp only [Bool.and_eq_true, decide_eq_true_eq] at hok
        obtain ⟨hc, hk00⟩ := hok
        obtain ⟨_, _, hcs⟩ := can_ok hc
        have hV := Chk.ok.1 hvx
        unfold Vld at hV
        have hch0 : 0 ≤ vch := by omega
        have hchl : vch < lv.length := by
          rcases hcs with h | h
          · exact absurd h hk00
          · exact h.2.1
        have hcd : decide (canC lv 0 vk vch vep vnd = 0) = true := decide_eq_true hc
        obtain ⟨ok, hokk⟩ : ∃ ok, ok = decide (canC lv 0 vk vch vep vnd = 0) := ⟨_, rfl⟩
        rw [← hokk] at hcd ⊢
        have hkb : (vk != 0) = true := by simpa using hk00
        obtain ⟨j, rfl⟩ := Int.eq_ofNat_of_zero_le hch0
        have ej : ((j : Int)).toNat = j := by omega
        rw [ej] at HCAME
        have hjm : j < M.length := by rw [HML.out]; omega
        have hj0 : (0 : Int) ≤ (j : Int) := by omega
        have hj1 : (j : Int) < (M.length : Int) := by omega
        clear hc hk00 hcs hV hch0 hchl hokk hvx ej
        subst hcd
        obtain ⟨bx, ox, rfl, hbx, hbx2, u, x0, x1, x2, x3, x4, hns, hbd⟩ := HX2.out.at_ hjm
        obtain ⟨ua, uc, rfl, _⟩ := id hns
        obtain ⟨D, hD⟩ : ∃ D, D = nthC M j := ⟨_, rfl⟩
        rw [← hD] at x0 x1 x2 x3 x4 hns hbd HCAME
        have HNS := Lib.hid hns
        have HBD := Lib.hid hbd
        clear hD hns hbd hbx hbx2
        obtain ⟨dch, dep, dns, dfr, djn⟩ := D
        simp only at x0 x1 x2 x3 x4 HNS HBD
        have HRN := Lib.hid (heap_alloc_new w2 (.cells #[.int .i64 dch, .int .u64 dep, .slice ua dns.length uc, .bool dfr, .int .i64 djn] 84))
        have hka := (Kept.refl NoB w2).alloc (.cells #[.int .i64 dch, .int .u64 dep, .slice ua dns.length uc, .bool dfr, .int .i64 djn] 84)
        have HKA := Lib.hid hka
        have HO2 := Lib.hid (HCM.out.own.kept HK2.out (fun _ _ h => h))
        have HO3 := Lib.hid (HO2.out.kept hka (fun _ _ h => h))
        have HB3 : Hid (W.heap.size ≤ (w2.alloc (.cells #[.int .i64 dch, .int .u64 dep, .slice ua dns.length uc, .bool dfr, .int .i64 djn] 84)).heap.size) := Lib.hid (by have := hka.size; omega)
        clear hka
        have hmeas : n - (k + 1) < n - k := by omega
        go_wp2_with (at_builtin; refine wpList_append_kc _ rfl (.tmp 37) (.tmp 43) rfl W.heap.size (.slice oa ps.length oc) ps rfl HO3.out w2.heap.size ⟨dch, dep, dns, dfr, djn⟩ (.slice ua dns.length uc) rfl HRN.out rfl (by omega) HB3.out ?_; intro a6 c6 w6 hown6 hgr6 hat6; have HOWN6 := Lib.hid hown6; have HGR6 := Lib.hid hgr6; have HAT6 := Lib.hid hat6; clear hown6 hgr6 hat6)
        have hkg : Kept (fun i => (Value.slice oa ps.length oc).ownBlock = some i) w2 w6 := (HKA.out.mono (T := fun i => (Value.slice oa ps.length oc).ownBlock = some i) (fun _ _ h => h.elim)).grown HGR6.out (fun i hi => .inl hi)
        have hb6 : w2.heap.size < (w2.alloc (.cells #[.int .i64 dch, .int .u64 dep, .slice ua dns.length uc, .bool dfr, .int .i64 djn] 84)).heap.size := by simp
        have hnew : ∀ i, i < w2.heap.size → (Value.slice oa ps.length oc).ownBlock ≠ some i → (Value.slice a6 (ps.length + 1) c6).ownBlock ≠ some i := fun i hi hne e => by
          rcases HAT6.out with h | h
          · exact hne (h ▸ e)
          · rw [h] at e
            injection e with e
            omega
        have hapt : ∀ i, (Value.slice oa ps.length oc).ownBlock = some i → ¬ ((G i ∧ i < wr.heap.size) ∨ W1.heap.size ≤ i) := fun i hi h => by
          rcases h with h | h
          · exact HCM.out.apart i hi h.1
          · have := (HBASE.out i hi).2; omega
        have HFIN : Hid (CmRel W F l L n (.slice a6 (ps.length + 1) c6) (.slice (some ⟨bx, ox, none⟩) M.length xc) (.int .i64 ((k : Int) + 1)) w6) := Lib.hid (by
          refine ⟨k + 1, ps ++ [((⟨dch, dep, dns, dfr, djn⟩ : Cf), Value.slice ua dns.length uc)], some ⟨bx, ox, none⟩, xc, fun i => ((G i ∧ i < wr.heap.size) ∨ W1.heap.size ≤ i) ∧ i < w2.heap.size, by go_num, by omega, by rw [HMV.out], ⟨?_, ?_, ?_, ?_, ?_, ?_, ?_⟩⟩
          · exact HOWN6.out
          · rw [HCAME.out, List.map_append, HCM.out.out]; rfl
          · intro p hp
            rcases List.mem_append.1 hp with hp | hp
            · obtain ⟨h1, h2⟩ := HCM.out.nod p hp
              have h3 := h1.mono (G := fun i => ((F i ∨ W.heap.size ≤ i) ∧ (Value.slice oa ps.length oc).ownBlock ≠ some i) ∧ i < wr.heap.size) (fun i hi h => ⟨h, hi⟩)
              have h4 := (h3.kept HK2.out (fun _ _ _ h => h)).kept hkg (fun i _ h e => h.1.2 e)
              exact ⟨h4.mono (fun i _ h => ⟨h.1.1, hnew i (by omega) h.1.2⟩), h2⟩
            · simp only [List.mem_singleton] at hp
              subst hp
              have h3 := HNS.out.mono (G := fun i => ((G i ∧ i < wr.heap.size) ∨ W1.heap.size ≤ i) ∧ i < w2.heap.size) (fun i hi h => ⟨h, hi⟩)
              have h4 := h3.kept hkg (fun i _ h e => hapt i e h.1)
              refine ⟨h4.mono (fun i _ h => ⟨?_, hnew i h.2 (fun e => hapt i e h.1)⟩), HBD.out⟩
              rcases h.1 with h | h
              · exact HCM.out.sub i h.1
              · exact .inr (by omega)
          · rw [HMV.out]
            exact (HX2.out.mono (G := fun i => ((G i ∧ i < wr.heap.size) ∨ W1.heap.size ≤ i) ∧ i < w2.heap.size) (fun i hi h => ⟨h, hi⟩)).kept hkg (fun i _ h e => hapt i e h.1)
          · intro i hi
            rcases hi.1 with h | h
            · exact HCM.out.sub i h.1
            · exact .inr (by omega)
          · intro i hi h
            exact hnew i h.2 (fun e => hapt i e h.1) hi
          · have h1 := HCM.out.kept.trans HK2.out (fun _ _ h => h)
            exact h1.trans hkg (fun i hi e => by have := (HBASE.out i e).1; omega))
        clear hkg hb6 hnew hapt
        exact ⟨HFIN.out, by simp [RowKit.intOf]; omega⟩
    · obtain rfl : k = n := by omega
      have hge : decide ((k : Int) < (k : Int)) = false := by simp
      have hpl : ps.length = (runC l (L.take k)).1.length := by rw [← HCM.out.out, List.length_map]
      have hcf := HCM.out.own.cfs (F := fun i => F i ∨ W.heap.size ≤ i) (fun i hi => .inr (World.ownsRow.lt HCM.out.own i hi).1) (fun p hp => ⟨(HCM.out.nod p hp).1.mono (fun _ _ h => h.1), (HCM.out.nod p hp).2⟩)
      rw [HCM.out.out] at hcf
      have HFIN : Hid (CameE F l (L.take k) w (.returned (.tuple #[.slice oa ps.length oc, .slice na (runC l (L.take k)).2.length nc])) wr) := Lib.hid (by
        rw [hpl]
        rw [hpl] at hcf
        exact ⟨oa, oc, na, nc, rfl, hcf.mono (fun i _ h => h.elim .inl (fun h => .inr (by omega))), HCM.out.now.mono (fun i _ h => (HCM.out.sub i h).elim .inl (fun h => .inr (by omega))), HK.out.trans HCM.out.kept (fun _ _ h => h)⟩)
      clear hpl hcf
      go_wp2
      go_ret2
      exact HFIN.out
end Go.Proofs.Ytidhaofojcdbaaa
namespace Go.Proofs.Ytidhaofojcdbaaa
open Go.RowKit
set_option linter.unusedVariables false

theorem LeadIs.one {L : List Vt} {n m : Nat} (h : LeadIs L n) (g : LeadIs L m) : n = m := by
  rcases Nat.lt_trichotomy n m with hlt | he | hlt
  · have hl : n < L.length := by have := g.1; omega
    exact absurd (g.2.1 n hl hlt) (h.2.2 hl)
  · exact he
  · have hl : m < L.length := by have := h.1; omega
    exact absurd (h.2.1 m hl hlt) (g.2.2 hl)
theorem putV_take {L : List Vt} {v : Vt} {n : Nat} (hn : n ≤ L.length) (h : ∀ i (hi : i < L.length), i < n → L[i].s < v.s) : (putV L v).take n = L.take n := by
  induction L generalizing n with
  | nil =>
    obtain rfl : n = 0 := by simpa using hn
    simp
  | cons x r ih =>
    cases n with
    | zero => simp
    | succ n =>
      have h0 : x.s < v.s := h 0 (by simp) (by omega)
      unfold putV
      rw [if_pos h0, List.take_succ_cons, List.take_succ_cons]
      congr 1
      exact ih (by simpa using hn) (fun i hi hin => h (i + 1) (by simpa using hi) (by omega))
theorem putV_same {L : List Vt} {v : Vt} (hs : Srt L) (h : atV L v.s = some v) : putV L v = L := by
  induction L with
  | nil => simp [atV] at h
  | cons x r ih =>
    obtain ⟨h1, h2⟩ := List.pairwise_cons.1 hs
    rw [atV_cons] at h
    unfold putV
    by_cases e : x.s = v.s
    · rw [if_pos e] at h
      injection h with h
      rw [if_neg (by omega), if_pos e, h]
    · rw [if_neg e] at h
      have hv := (atV_slot h).2
      have := h1 v hv
      rw [if_pos this, ih h2 h]
theorem lead_put {L : List Vt} {v : Vt} {n m : Nat} (hs : Srt L) (h0 : 0 ≤ v.s) (hn : LeadIs L n) (hm : LeadIs (putV L v) m) (hv : atV L v.s = none ∨ atV L v.s = some v) : n ≤ m ∧ (putV L v).take n = L.take n := by
  rcases hv with hv | hv
  · have hno : ∀ i (hi : i < L.length), L[i].s ≠ v.s := fun i hi e => by
      have := atV_mem hs (List.getElem_mem hi)
      rw [e, hv] at this
      cases this
    have hge : (n : Int) ≤ v.s := by
      rcases (show v.s < (n : Int) ∨ (n : Int) ≤ v.s by omega) with hlt | hge
      · have hl : v.s.toNat < L.length := by have := hn.1; omega
        have := hn.2.1 _ hl (by omega)
        exact absurd (by omega) (hno _ hl)
      · exact hge
    have ht := putV_take (v := v) hn.1 (fun i hi hin => by have := hn.2.1 i hi hin; omega)
    refine ⟨?_, ht⟩
    rcases Nat.lt_or_ge m n with hlt | hge2
    · have hpl := (putV_len (L := L) v).2
      have hml : m < (putV L v).length := by have := hn.1; omega
      have hmL : m < L.length := by have := hn.1; omega
      have e1 : ((putV L v).take n)[m]? = (L.take n)[m]? := by rw [ht]
      rw [List.getElem?_take, List.getElem?_take, if_pos hlt, if_pos hlt, List.getElem?_eq_getElem hml, List.getElem?_eq_getElem hmL] at e1
      injection e1 with e1
      have := hn.2.1 m hmL hlt
      rw [← e1] at this
      exact absurd this (hm.2.2 hml)
    · exact hge2
  · rw [putV_same hs hv] at hm ⊢
    rw [hn.one hm]
    exact ⟨Nat.le_refl _, rfl⟩
theorem lead_ex (L : List Vt) : ∃ n, LeadIs L n := by
  have : ∀ k : Nat, k ≤ L.length → (∃ n, LeadIs L n) ∨ (∀ i (hi : i < L.length), i < k → L[i].s = (i : Int)) := by
    intro k
    induction k with
    | zero => exact fun _ => .inr (fun i hi h => absurd h (by omega))
    | succ k ih =>
      intro hk
      rcases ih (by omega) with h | h
      · exact .inl h
      · by_cases e : L[k].s = (k : Int)
        · refine .inr (fun i hi hik => ?_)
          by_cases e2 : i = k
          · subst e2; exact e
          · exact h i hi (by omega)
        · exact .inl ⟨k, by omega, h, fun _ => e⟩
  rcases this L.length (Nat.le_refl _) with h | h
  · exact h
  · exact ⟨L.length, Nat.le_refl _, h, fun hi => absurd hi (by omega)⟩
/-- What came of n slots, and of those that then are known. -/
theorem came_put {L : List Vt} {v : Vt} {n m : Nat} (l : List Cf) (hs : Srt L) (h0 : 0 ≤ v.s) (hn : LeadIs L n) (hm : LeadIs (putV L v) m) (hv : atV L v.s = none ∨ atV L v.s = some v) :
    n ≤ m ∧ runC l ((putV L v).take m) = ((runC l (L.take n)).1 ++ (runC (runC l (L.take n)).2 (((putV L v).take m).drop n)).1, (runC (runC l (L.take n)).2 (((putV L v).take m).drop n)).2) := by
  obtain ⟨h1, h2⟩ := lead_put hs h0 hn hm hv
  refine ⟨h1, ?_⟩
  have e : (putV L v).take m = L.take n ++ ((putV L v).take m).drop n := by
    rw [← h2]
    have : (putV L v).take n = ((putV L v).take m).take n := by rw [List.take_take, Nat.min_eq_left h1]
    rw [this, List.take_append_drop]
  rw [← runC_app, ← e]
theorem lead_at {L : List Vt} {n : Nat} (hs : Srt L) (h : LeadIs L n) (i : Nat) (hi : i < n) : ∃ hl : i < L.length, atV L (i : Int) = some L[i] := by
  have hl : i < L.length := by have := h.1; omega
  refine ⟨hl, ?_⟩
  have := atV_mem hs (List.getElem_mem hl)
  rwa [h.2.1 i hl hi] at this
theorem lead_none {L : List Vt} {n : Nat} (hs : Srt L) (h : LeadIs L n) (hb : ∀ v ∈ L, 0 ≤ v.s ∧ v.s < 512) : atV L (n : Int) = none := by
  refine atV_none fun v hv e => ?_
  obtain ⟨i, hi, rfl⟩ := List.getElem_of_mem hv
  rcases Nat.lt_trichotomy i n with hlt | rfl | hgt
  · have := h.2.1 i hi hlt; omega
  · exact h.2.2 hi e
  · have hnl : n < L.length := by omega
    have h1 := List.pairwise_iff_getElem.1 hs n i hnl hi hgt
    rcases Nat.eq_zero_or_pos n with h0 | h0
    · subst h0
      have := hb _ (List.getElem_mem hnl)
      omega
    · have h2 := List.pairwise_iff_getElem.1 hs (n - 1) n (by omega) hnl (by omega)
      have h3 := h.2.1 (n - 1) (by omega) (by omega)
      omega
/-- What Learn applies is what lies between the known ones' two ends. -/
theorem vs_is {L : List Vt} {n m : Nat} {vs : List Vt} (hs : Srt L) (hb : ∀ v ∈ L, 0 ≤ v.s ∧ v.s < 512) (hm : LeadIs L m) (hnm : n ≤ m)
    (h1 : ∀ i (hi : i < vs.length), atV L ((n : Int) + i) = some vs[i]) (h2 : atV L ((n : Int) + vs.length) = none) : vs.length = m - n ∧ vs = (L.take m).drop n := by
  have hlen : vs.length = m - n := by
    rcases Nat.lt_trichotomy vs.length (m - n) with hlt | he | hgt
    · obtain ⟨_, e⟩ := lead_at hs hm (n + vs.length) (by omega)
      rw [Int.natCast_add, h2] at e
      cases e
    · exact he
    · have e := h1 (m - n) hgt
      rw [show (n : Int) + ((m - n : Nat) : Int) = (m : Int) by omega, lead_none hs hm hb] at e
      cases e
  refine ⟨hlen, List.ext_getElem (by rw [List.length_drop, List.length_take_of_le hm.1, hlen]) fun i hi1 hi2 => ?_⟩
  obtain ⟨hl, e⟩ := lead_at hs hm (n + i) (by omega)
  have e1 := h1 i hi1
  rw [← Int.natCast_add, e] at e1
  injection e1 with e1
  rw [List.getElem_drop, List.getElem_take, e1]
theorem nthC_drop {l : List Cf} {i j : Nat} : nthC (l.drop i) j = nthC l (i + j) := by
  unfold nthC
  rw [List.getD_eq_getElem?_getD, List.getD_eq_getElem?_getD, List.getElem?_drop]
/-- A slice from its i-th configuration on. -/
theorem CfsAt.drop {F : Nat → Prop} {w : World} {a : Option Addr} {c : Nat} {l : List Cf} (h : CfsAt w F (.slice a l.length c) l) (i : Nat) (hi : i ≤ l.length) :
    CfsAt w F (.slice (if c = i then a else a.map (·.add (i * 5))) (l.length - i) (c - i)) (l.drop i) := by
  obtain ⟨a', c', e, h2, h3, h4, h5⟩ := h
  injection e with e1 e2 e3
  subst e1 e3
  have hl : (l.drop i).length = l.length - i := List.length_drop
  refine ⟨_, c - i, by rw [hl], by rw [hl]; omega, by omega, fun hn => ?_, fun hp => ?_⟩
  · split at hn
    · have := h4 hn; omega
    · cases a with
      | none => have := h4 rfl; omega
      | some ad => cases hn
  · rw [hl] at hp
    obtain ⟨b, o, rfl, hF, hb, hc⟩ := h5 (by omega)
    rw [if_neg (by omega)]
    refine ⟨b, o + i * 5, by simp [addr_add11], hF, hb, fun j hj => ?_⟩
    rw [hl] at hj
    have := hc (i + j) (by omega)
    rw [nthC_drop, show o + i * 5 + j * 5 = o + (i + j) * 5 by omega]
    exact this
def RConfsE (F : Nat → Prop) (l : List Cf) (M : List Vt) (w : World) (e : Ending) (w' : World) : Prop :=
  ∃ na nc, e = .returned (.slice na (runC l M).2.length nc) ∧ CfsAt w' (fun k => F k ∨ w.heap.size ≤ k) (.slice na (runC l M).2.length nc) (runC l M).2 ∧ Kept NoB w w'
end Go.Proofs.Ytidhaofojcdbaaa
namespace Go.Proofs.Ytidhaofojcdbaaa
open Go.RowKit
set_option linter.unusedVariables false

/-- The chapter's Learn: an error, and the log as it was; or the log with the command, and what came. -/
def RLearnE (F : Nat → Prop) (ka : Option Addr) (kc : Nat) (fa : Option Addr) (fc : Nat) (L : List Vt) (l : List Cf) (n : Nat) (s e0 k ch ep nd : Int) (w : World) (e : Ending) (w' : World) : Prop :=
  (lrnX L s e0 k ch ep nd ≠ 0 ∧ e = .returned (.tuple #[.agg #[.slice ka L.length kc, .slice fa l.length fc], .slice none 0 0, .int .i64 (lrnX L s e0 k ch ep nd)]) ∧ Kept NoB w w') ∨
  (lrnX L s e0 k ch ep nd = 0 ∧ ∃ (L' : List Vt) (D : List Cf) (ka' : Option Addr) (kc' : Nat) (oa : Option Addr) (oc m : Nat), L' = putV L ⟨s, 0, k, ch, ep, nd⟩ ∧ D = (runC (runC l (L.take n)).2 ((L'.take m).drop n)).1 ∧
    e = .returned (.tuple #[.agg #[.slice ka' L'.length kc', .slice fa l.length fc], .slice oa D.length oc, .int .i64 0]) ∧ VRd w' (fun i => w.heap.size ≤ i) (.slice ka' L'.length kc') L' ∧ CfsAt w' (fun i => F i ∨ w.heap.size ≤ i) (.slice oa D.length oc) D ∧
    LeadIs L' m ∧ n ≤ m ∧ (runC l (L'.take m)).2 = (runC (runC l (L.take n)).2 ((L'.take m).drop n)).2 ∧ Kept NoB w w')
theorem rl_err {F : Nat → Prop} {ka fa : Option Addr} {kc fc : Nat} {L : List Vt} {l : List Cf} {n : Nat} {s e0 k ch ep nd x : Int} {w w' : World} (hx : lrnX L s e0 k ch ep nd = x) (h0 : x ≠ 0) (hk : Kept NoB w w') : RLearnE F ka kc fa fc L l n s e0 k ch ep nd w (.returned (.tuple #[.agg #[.slice ka L.length kc, .slice fa l.length fc], .slice none 0 0, .int .i64 x])) w' := by
  subst hx
  exact .inl ⟨h0, rfl, hk⟩
theorem rl_ok {F : Nat → Prop} {ka fa ka' : Option Addr} {kc fc kc' : Nat} {L L' : List Vt} {l D : List Cf} {n m : Nat} {s k ch ep nd : Int} {w w' : World} {v : Value} (hx : lrnX L s 0 k ch ep nd = 0) (h1 : L' = putV L ⟨s, 0, k, ch, ep, nd⟩) (h2 : D = (runC (runC l (L.take n)).2 ((L'.take m).drop n)).1)
    (h3 : ∃ oa oc, v = .slice oa D.length oc) (h4 : VRd w' (fun i => w.heap.size ≤ i) (.slice ka' L'.length kc') L') (h5 : CfsAt w' (fun i => F i ∨ w.heap.size ≤ i) v D) (h6 : LeadIs L' m) (h7 : n ≤ m) (h8 : (runC l (L'.take m)).2 = (runC (runC l (L.take n)).2 ((L'.take m).drop n)).2) (h9 : Kept NoB w w') :
    RLearnE F ka kc fa fc L l n s 0 k ch ep nd w (.returned (.tuple #[.agg #[.slice ka' L'.length kc', .slice fa l.length fc], v, .int .i64 0])) w' := by
  obtain ⟨oa, oc, rfl⟩ := h3
  exact .inr ⟨hx, L', D, ka', kc', oa, oc, m, h1, h2, rfl, h4, h5, h6, h7, h8, h9⟩
theorem VRd.ok0 {L : List Vt} (h : ∀ v ∈ L, Chk v.k v.ch v.ep v.nd 0 ∧ 0 ≤ v.ep) {s k ch ep nd : Int} (hc : Chk k ch ep nd 0) (hp : 0 ≤ ep) : ∀ v ∈ putV L ⟨s, 0, k, ch, ep, nd⟩, Chk v.k v.ch v.ep v.nd 0 ∧ 0 ≤ v.ep := fun v hv => by
  rcases putV_mem hv with rfl | hv
  · exact ⟨hc, hp⟩
  · exact h v hv
set_option maxRecDepth 100000 in
set_option maxHeartbeats 4000000 in
theorem RLearn_any (w : World) (F : Nat → Prop) (ka fa : Option Addr) (kc fc : Nat) (L : List Vt) (l : List Cf) (n : Nat) (s e0 k ch ep nd : Int) (h : RLogAt w F ka kc fa fc L l) (hl : L.length ≤ 5000) (hf : l.length ≤ 1000) (hF : ∀ k, F k → k < w.heap.size) (hok : ∀ v ∈ L, Chk v.k v.ch v.ep v.nd 0 ∧ 0 ≤ v.ep) (hb0 : ∀ v ∈ L, v.b = 0) (hsrt : Srt L) (hn : LeadIs L n) (hx : Chk k ch ep nd e0) (hep : 0 ≤ ep) :
    Calls Try.prog 33 #[.agg #[.slice ka L.length kc, .slice fa l.length fc], .int .i64 s, .agg #[.int .i64 k, .int .i64 ch, .int .u64 ep, .int .i64 nd]] w (RLearnE F ka kc fa fc L l n s e0 k ch ep nd w) := by
  have HC : Hid (∀ w, Calls Try.prog 77 #[.agg #[.int .i64 k, .int .i64 ch, .int .u64 ep, .int .i64 nd]] w fun e w' => e = .returned (.int .i64 e0) ∧ Kept NoB w w') :=
    Lib.hid (fun w => (RCheck_any k ch ep nd w hep).mono (by rintro e w' ⟨y, hy, rfl, hk⟩; exact ⟨by rw [hy.one hx], hk⟩))
  have HLOG := Lib.hid h
  have HOK := Lib.hid hok
  have HFL := Lib.hid hF
  have HN := Lib.hid hn
  have HSRT := Lib.hid hsrt
  have HCX := Lib.hid hx
  have HB0 := Lib.hid hb0
  have hr1 := heap_alloc_new w (.cells #[.slice ka L.length kc, .slice fa l.length fc] 78)
  obtain ⟨w1, hw1⟩ : ∃ w1, w1 = w.alloc (.cells #[.slice ka L.length kc, .slice fa l.length fc] 78) := ⟨_, rfl⟩
  have hz1 : w1.heap.size = w.heap.size + 1 := by rw [hw1]; simp
  have hk1 : Kept NoB w w1 := by rw [hw1]; exact (Kept.refl _ _).alloc _
  rw [← hw1] at hr1
  have hr2 := heap_alloc_new w1 (.cells #[.int .i64 k, .int .i64 ch, .int .u64 ep, .int .i64 nd] 39)
  have hs2 := blkA_alloc hr1 (.cells #[.int .i64 k, .int .i64 ch, .int .u64 ep, .int .i64 nd] 39)
  obtain ⟨w2, hw2⟩ : ∃ w2, w2 = w1.alloc (.cells #[.int .i64 k, .int .i64 ch, .int .u64 ep, .int .i64 nd] 39) := ⟨_, rfl⟩
  have hz2 : w2.heap.size = w.heap.size + 2 := by rw [hw2]; simp [hz1]
  have hk2 : Kept NoB w w2 := by rw [hw2]; exact hk1.alloc _
  rw [← hw2] at hr2 hs2
  rw [hz1] at hr2
  have HR3 := Lib.hid (heap_alloc_new w2 (.cells #[.slice none 0 0, .slice none 0 0] 78))
  have HS3 := Lib.hid (blkA_alloc hs2 (.cells #[.slice none 0 0, .slice none 0 0] 78))
  have HT3 := Lib.hid (blkA_alloc hr2 (.cells #[.slice none 0 0, .slice none 0 0] 78))
  obtain ⟨w3, hw3⟩ : ∃ w3, w3 = w2.alloc (.cells #[.slice none 0 0, .slice none 0 0] 78) := ⟨_, rfl⟩
  have hz3 : w3.heap.size = w.heap.size + 3 := by rw [hw3]; simp [hz2]
  have hk3 : Kept NoB w w3 := by rw [hw3]; exact hk2.alloc _
  rw [← hw3] at HR3 HS3 HT3
  rw [hz2] at HR3
  have HZ := Lib.hid hz3
  have HK := Lib.hid hk3
  have HW1 := Lib.hid hw1
  have HW2 := Lib.hid hw2
  have HW3 := Lib.hid hw3
  have HZ1 := Lib.hid hz1
  clear h hr1 hw1 hz1 hk1 hr2 hs2 hw2 hz2 hk2 hw3 hz3 hk3 hok hF hn hsrt hb0 hx
  have HATV : Hid (∀ w', Kept NoB w w' → Calls Try.prog 71 #[.slice ka L.length kc, .int .i64 s] w' fun e w'' => e = .returned (.tuple #[vvv ((atV L s).getD vt0), .bool (atV L s).isSome]) ∧ Kept NoB w' w'') := Lib.hid (fun w' hk => RAtV_any w' (.slice ka L.length kc) s L F (HLOG.out.no hk).known)
  have HNX : Hid (∀ w', Kept NoB w w' → Calls Try.prog 79 #[.agg #[.slice ka L.length kc, .slice fa l.length fc]] w' fun e w'' => e = .returned (.int .i64 n) ∧ Kept NoB w' w'') := Lib.hid (fun w' hk' => (RNext_any w' F ka fa kc fc L l (HLOG.out.no hk') (by omega)).mono (by
    rintro e w'' ⟨m, rfl, hm, hk2⟩
    rw [HN.out.one hm]
    exact ⟨rfl, hk2⟩))
  have HCM : Hid (∀ w', Kept NoB w w' → Calls Try.prog 78 #[.agg #[.slice ka L.length kc, .slice fa l.length fc], .int .i64 n] w' (CameE F l (L.take n) w')) := Lib.hid (fun w' hk' => RCame_any w' F ka fa kc fc L l n (HLOG.out.no hk') (by omega) HN.out.1 hf (fun k hk => by have := HFL.out k hk; have := hk'.size; omega) HOK.out)
  by_cases hr : s < 0 ∨ 512 ≤ s
  · have HX : Hid (lrnX L s e0 k ch ep nd = 1) := Lib.hid (by unfold lrnX; rw [if_pos hr])
    by_cases hs0 : s < 0
    · clear hr
      go_enter Try.func33, Try.ntmps33
      go_upto_region 1 with fail
      rw [← HW1.out, ← HW2.out, ← HW3.out]
      obtain ⟨c0, c1, g0, g1⟩ := cells2l HS3.out
      obtain ⟨d0, d1, e0', e1'⟩ := cells2l HR3.out
      obtain ⟨t0, t1, t2, t3⟩ := cells4c HT3.out
      go_wp2
      have HF := blkA_set (blkA_set HR3.out 0 (.slice ka L.length kc)) 1 (.slice fa l.length fc)
      have HKE := (HK.out.setCell (p := ⟨w.heap.size + 2, 0, none⟩) (.inr (Nat.le_add_right _ _)) (.slice ka L.length kc)).setCell (p := ⟨w.heap.size + 2, 1, none⟩) (.inr (Nat.le_add_right _ _)) (.slice fa l.length fc)
      clear c0 c1 g0 g1 d0 d1 e0' e1' t0 t1 t2 t3
      obtain ⟨r0, r1, _, _⟩ := cells2l (x := .slice ka L.length kc) (y := .slice fa l.length fc) HF
      clear HF
      generalize hW : World.setCell _ _ _ = W at r0 r1 HKE ⊢
      exact bodyPost_ret (v := .tuple #[.agg #[.slice ka L.length kc, .slice fa l.length fc], .slice none 0 0, .int .i64 1]) (by simp [results, Try.results33, go_sem, r0, r1]) rfl (rl_err HX.out (by decide) HKE)
    · have hs1 : 0 ≤ s := by omega
      have hs2 : 512 ≤ s := by omega
      clear hr hs0
      go_enter Try.func33, Try.ntmps33
      go_upto_region 1 with fail
      rw [← HW1.out, ← HW2.out, ← HW3.out]
      obtain ⟨c0, c1, g0, g1⟩ := cells2l HS3.out
      obtain ⟨d0, d1, e0', e1'⟩ := cells2l HR3.out
      obtain ⟨t0, t1, t2, t3⟩ := cells4c HT3.out
      go_wp2
      have HF := blkA_set (blkA_set HR3.out 0 (.slice ka L.length kc)) 1 (.slice fa l.length fc)
      have HKE := (HK.out.setCell (p := ⟨w.heap.size + 2, 0, none⟩) (.inr (Nat.le_add_right _ _)) (.slice ka L.length kc)).setCell (p := ⟨w.heap.size + 2, 1, none⟩) (.inr (Nat.le_add_right _ _)) (.slice fa l.length fc)
      clear c0 c1 g0 g1 d0 d1 e0' e1' t0 t1 t2 t3
      obtain ⟨r0, r1, _, _⟩ := cells2l (x := .slice ka L.length kc) (y := .slice fa l.length fc) HF
      clear HF
      generalize hW : World.setCell _ _ _ = W at r0 r1 HKE ⊢
      exact bodyPost_ret (v := .tuple #[.agg #[.slice ka L.length kc, .slice fa l.length fc], .slice none 0 0, .int .i64 1]) (by simp [results, Try.results33, go_sem, r0, r1]) rfl (rl_err HX.out (by decide) HKE)
  · have hs1 : 0 ≤ s := by omega
    have hs2 : s < 512 := by omega
    have hd : decide (512 ≤ s) = false := decide_eq_false (by omega)
    by_cases he : e0 = 0
    · subst he
      have HXL : Hid (lrnX L s 0 k ch ep nd = match atV L s with
        | none => 0
        | some v => if v.k = k ∧ v.ch = ch ∧ v.ep = ep ∧ v.nd = nd then 0 else 8) := Lib.hid (by unfold lrnX; rw [if_neg hr, if_neg (by simp)]; cases atV L s <;> rfl)
      clear hr
      cases hat : atV L s with
      | none =>
        have HX : Hid (lrnX L s 0 k ch ep nd = 0) := Lib.hid (by rw [HXL.out, hat])
        have HAV : Hid (atV L s = none ∨ atV L s = some ⟨s, 0, k, ch, ep, nd⟩) := Lib.hid (.inl hat)
        have HAT : Hid (∀ w', Kept NoB w w' → Calls Try.prog 71 #[.slice ka L.length kc, .int .i64 s] w' fun e w'' => e = .returned (.tuple #[.agg #[.int .i64 0, .int .u64 0, .int .i64 0, .int .i64 0, .int .u64 0, .int .i64 0], .bool false]) ∧ Kept NoB w' w'') := Lib.hid (by have := HATV.out; rw [hat] at this; exact this)
        clear hat HATV HXL
        go_enter Try.func33, Try.ntmps33
        go_upto_region 1 with fail
        rw [← HW1.out, ← HW2.out, ← HW3.out]
        obtain ⟨c0, c1, g0, g1⟩ := cells2l HS3.out
        obtain ⟨d0, d1, e0', e1'⟩ := cells2l HR3.out
        obtain ⟨t0, t1, t2, t3⟩ := cells4c HT3.out
        go_wp2_with fail
        refine (HC.out _).mono ?_
        rintro e w4 ⟨rfl, hk⟩
        have HR4 := Lib.hid (hk.heap (fun h => h) HR3.out)
        have HS4 := Lib.hid (hk.heap (fun h => h) HS3.out)
        have HT4 := Lib.hid (hk.heap (fun h => h) HT3.out)
        have HK4 := Lib.hid (HK.out.trans hk (fun _ _ h => h))
        have HZ4 : Hid (w.heap.size + 3 ≤ w4.heap.size) := Lib.hid (by have := hk.size; have := HZ.out; omega)
        clear hk c0 c1 g0 g1 d0 d1 e0' e1' t0 t1 t2 t3
        obtain ⟨c0, c1, g0, g1⟩ := cells2l HS4.out
        obtain ⟨d0, d1, e0', e1'⟩ := cells2l HR4.out
        obtain ⟨t0, t1, t2, t3⟩ := cells4c HT4.out
        go_wp2_with fail
        refine (HAT.out _ HK4.out).mono ?_
        rintro e w5 ⟨rfl, hk⟩
        have hk5 := hk.alloc (.cells #[.int .i64 0, .int .u64 0, .int .i64 0, .int .i64 0, .int .u64 0, .int .i64 0] 48)
        have HR5 := Lib.hid (blkA_alloc (hk.heap (fun h => h) HR4.out) (.cells #[.int .i64 0, .int .u64 0, .int .i64 0, .int .i64 0, .int .u64 0, .int .i64 0] 48))
        have HS5 := Lib.hid (blkA_alloc (hk.heap (fun h => h) HS4.out) (.cells #[.int .i64 0, .int .u64 0, .int .i64 0, .int .i64 0, .int .u64 0, .int .i64 0] 48))
        have HT5 := Lib.hid (blkA_alloc (hk.heap (fun h => h) HT4.out) (.cells #[.int .i64 0, .int .u64 0, .int .i64 0, .int .i64 0, .int .u64 0, .int .i64 0] 48))
        have HV5 := Lib.hid (heap_alloc_new w5 (.cells #[.int .i64 0, .int .u64 0, .int .i64 0, .int .i64 0, .int .u64 0, .int .i64 0] 48))
        have HK5 := Lib.hid (HK4.out.trans hk5 (fun _ _ h => h))
        have HZ5 : Hid (w.heap.size + 3 ≤ (w5.alloc (.cells #[.int .i64 0, .int .u64 0, .int .i64 0, .int .i64 0, .int .u64 0, .int .i64 0] 48)).heap.size) := Lib.hid (by have := hk5.size; have := HZ4.out; omega)
        clear hk hk5 c0 c1 g0 g1 d0 d1 e0' e1' t0 t1 t2 t3
        obtain ⟨c0, c1, g0, g1⟩ := cells2l HS5.out
        obtain ⟨d0, d1, e0', e1'⟩ := cells2l HR5.out
        obtain ⟨t0, t1, t2, t3⟩ := cells4c HT5.out
        go_upto_region 9 with fail
        obtain ⟨WA, hWA⟩ : ∃ W, W = w5.alloc (.cells #[.int .i64 0, .int .u64 0, .int .i64 0, .int .i64 0, .int .u64 0, .int .i64 0] 48) := ⟨_, rfl⟩
        rw [← hWA] at HR5 HS5 HT5 HK5 HZ5 ⊢
        clear hWA c0 c1 g0 g1 d0 d1 e0' e1' t0 t1 t2 t3
        have HNXA : Hid (∀ w', Kept NoB WA w' → _) := Lib.hid (fun w' hk => HNX.out w' (HK5.out.trans hk (fun _ _ h => h)))
        have HCMA : Hid (∀ w', Kept NoB WA w' → _) := Lib.hid (fun w' hk => HCM.out w' (HK5.out.trans hk (fun _ _ h => h)))
        obtain ⟨M, hM⟩ : ∃ M, M = (runC l (L.take n)).1 := ⟨_, rfl⟩
        have HM := Lib.hid hM
        obtain ⟨c0, c1, g0, g1⟩ := cells2l HS5.out
        clear hM
        have HKc := Lib.hid (Kept.refl NoB WA).drew
        go_region_held3 (fun w' => w'.cell? ⟨w.heap.size, 0, none⟩ = some (.slice ka L.length kc) ∧ w'.cell? ⟨w.heap.size, 1, none⟩ = some (.slice fa l.length fc))
          (first
            | (with_reducible exact ⟨cell_drew c0, cell_drew c1⟩)
            | (with_reducible exact ⟨k0, k1⟩)
            | go_keep)
          (first
            | (go_at_call 79; (with_reducible refine (HNXA.out _ HKc.out).mono ?_); rintro e w1 ⟨rfl, hk1⟩; replace HKc := Lib.hid (HKc.out.trans hk1 (fun _ _ h => h)); clear hk1; have k0 := HKc.out.cell (p := ⟨w.heap.size, 0, none⟩) (fun h => h) c0; have k1 := HKc.out.cell (p := ⟨w.heap.size, 1, none⟩) (fun h => h) c1)
            | (go_at_call 78; (with_reducible refine (HCMA.out _ HKc.out).mono ?_); rintro e wB ⟨ca1, cc1, na1, nc1, rfl, hca, hna, hk2⟩; have HCA1 := Lib.hid hca; have HZC := Lib.hid HKc.out.size; replace HKc := Lib.hid (HKc.out.trans hk2 (fun _ _ h => h)); clear hk2 hca hna; have k0 := HKc.out.cell (p := ⟨w.heap.size, 0, none⟩) (fun h => h) c0; have k1 := HKc.out.cell (p := ⟨w.heap.size, 1, none⟩) (fun h => h) c1))
        all_goals
          clear c0 c1 k0 k1
          rw [← HM.out] at HCA1 ⊢
          have HKB := Lib.hid (HK5.out.trans HKc.out (fun _ _ h => h))
          have HRB := Lib.hid (HKc.out.heap (fun h => h) HR5.out)
          have HSB := Lib.hid (HKc.out.heap (fun h => h) HS5.out)
          have HTB := Lib.hid (HKc.out.heap (fun h => h) HT5.out)
          have HZB : Hid (w.heap.size + 3 ≤ wB.heap.size) := Lib.hid (by have := HKc.out.size; have := HZ5.out; omega)
          clear HKc
          obtain ⟨c0, c1, g0, g1⟩ := cells2l HSB.out
          obtain ⟨d0, d1, e0', e1'⟩ := cells2l HRB.out
          obtain ⟨t0, t1, t2, t3⟩ := cells4c HTB.out
          go_wp2_with fail
          refine (RPut_any wB _ L s 0 k ch ep nd F (HLOG.out.no HKB.out).known (by omega)).mono ?_
          rintro e wC ⟨u, rfl, hu, hk⟩
          obtain ⟨ua, uc, rfl⟩ := hu.form
          have HU := Lib.hid hu
          have HKC := Lib.hid (HKB.out.trans hk (fun _ _ h => h))
          have HRC := Lib.hid (hk.heap (fun h => h) HRB.out)
          have HSC := Lib.hid (hk.heap (fun h => h) HSB.out)
          have HZC2 : Hid (wB.heap.size ≤ wC.heap.size) := Lib.hid hk.size
          obtain ⟨LP, hLP⟩ : ∃ LP, LP = putV L ⟨s, 0, k, ch, ep, nd⟩ := ⟨_, rfl⟩
          rw [← hLP] at HU ⊢
          have HLP := Lib.hid hLP
          have hLPl : LP.length ≤ L.length + 1 := by rw [hLP]; exact (putV_len _).1
          clear hu hk hLP c0 c1 g0 g1 d0 d1 e0' e1' t0 t1 t2 t3
          obtain ⟨c0, c1, g0, g1⟩ := cells2l HSC.out
          obtain ⟨d0, d1, e0', e1'⟩ := cells2l HRC.out
          go_upto_region 11 with fail
          have HSD := Lib.hid (blkA_set HSC.out 0 (.slice ua LP.length uc))
          have HRD := Lib.hid (blkA_set_other HRC.out 0 (.slice ua LP.length uc) (show w.heap.size ≠ w.heap.size + 2 by omega))
          have HKD := Lib.hid (HKC.out.setCell (p := ⟨w.heap.size, 0, none⟩) (.inr (Nat.le_refl _)) (.slice ua LP.length uc))
          have HZD : Hid (wB.heap.size ≤ wC.heap.size) := Lib.hid HZC2.out
          have HKS := Lib.hid ((Kept.refl (fun i => i < w.heap.size + 3 ∧ w.heap.size ≤ i) wC).setCell (p := ⟨w.heap.size, 0, none⟩) (.inl ⟨by show w.heap.size < _; omega, Nat.le_refl _⟩) (.slice ua LP.length uc))
          obtain ⟨WD, hWD⟩ : ∃ W, W = wC.setCell ⟨w.heap.size, 0, none⟩ (.slice ua LP.length uc) := ⟨_, rfl⟩
          rw [← hWD] at HSD HRD HKD HKS ⊢
          have HZD2 : Hid (wB.heap.size ≤ WD.heap.size) := Lib.hid (Nat.le_trans HZD.out HKS.out.size)
          clear hWD c0 c1 g0 g1 d0 d1 e0' e1'
          have HUD : Hid (VRd WD (fun i => wB.heap.size ≤ i) (.slice ua LP.length uc) LP) := Lib.hid ((HU.out.kept HKS.out (fun i hi h => by have := HU.out.base i hi; have := HZB.out; omega)).rd (fun i hi => (HU.out.base i hi).1))
          have HLD : Hid (RLogAt WD (fun i => (F i ∨ wB.heap.size ≤ i) ∧ i < WD.heap.size) ua uc fa fc LP l) := Lib.hid ⟨HUD.out.mono (fun i hi h => ⟨.inr h, hi⟩), (HLOG.out.no HKD.out).first.mono (fun i hi h => ⟨.inl h, hi⟩)⟩
          have HOKP : Hid (∀ v ∈ LP, Chk v.k v.ch v.ep v.nd 0 ∧ 0 ≤ v.ep) := Lib.hid (HLP.out ▸ VRd.ok0 HOK.out HCX.out hep)
          clear HKS
          obtain ⟨m, hm⟩ := lead_ex LP
          have HMP := Lib.hid hm
          clear hm
          have HNXD : Hid (∀ w', Kept NoB WD w' → Calls Try.prog 79 #[.agg #[.slice ua LP.length uc, .slice fa l.length fc]] w' fun e w'' => e = .returned (.int .i64 m) ∧ Kept NoB w' w'') := Lib.hid (fun w' hk' => (RNext_any w' _ ua fa uc fc LP l (HLD.out.no hk') (by omega)).mono (by
            rintro e w'' ⟨m2, rfl, hm2, hk2⟩
            rw [HMP.out.one hm2]
            exact ⟨rfl, hk2⟩))
          have HCMD : Hid (∀ w', Kept NoB WD w' → Calls Try.prog 78 #[.agg #[.slice ua LP.length uc, .slice fa l.length fc], .int .i64 m] w' (CameE _ l (LP.take m) w')) := Lib.hid (fun w' hk' => RCame_any w' _ ua fa uc fc LP l m (HLD.out.no hk') (by omega) HMP.out.1 hf (fun k hk => by have := hk.2; have := hk'.size; omega) HOKP.out)
          have hcp := came_put (v := ⟨s, 0, k, ch, ep, nd⟩) l HSRT.out hs1 HN.out (HLP.out ▸ HMP.out) HAV.out
          rw [← HLP.out, ← HM.out] at hcp
          obtain ⟨hnm, hrun⟩ := hcp
          obtain ⟨D, hD⟩ : ∃ D, D = (runC (runC l (L.take n)).2 ((LP.take m).drop n)).1 := ⟨_, rfl⟩
          obtain ⟨E, hE⟩ : ∃ E, E = (runC (runC l (L.take n)).2 ((LP.take m).drop n)).2 := ⟨_, rfl⟩
          rw [← hD, ← hE] at hrun
          have hr1 : (runC l (LP.take m)).1 = M ++ D := by rw [hrun]
          have hr2 : (runC l (LP.take m)).2 = E := by rw [hrun]
          have HR1 := Lib.hid hr1
          have HR2 := Lib.hid hr2
          have HD := Lib.hid hD
          have HE := Lib.hid hE
          have HNM := Lib.hid hnm
          clear hnm hrun hD hE hr1 hr2
          obtain ⟨c0, c1, g0, g1⟩ := cells2l HSD.out
          have HKc := Lib.hid (Kept.refl NoB WD).drew
          go_region_held3 (fun w' => w'.cell? ⟨w.heap.size, 0, none⟩ = some (.slice ua LP.length uc) ∧ w'.cell? ⟨w.heap.size, 1, none⟩ = some (.slice fa l.length fc))
            (first
              | (with_reducible exact ⟨cell_drew c0, cell_drew c1⟩)
              | (with_reducible exact ⟨k0, k1⟩)
              | go_keep)
            (first
              | (go_at_call 79; (with_reducible refine (HNXD.out _ HKc.out).mono ?_); rintro e w1 ⟨rfl, hk1⟩; replace HKc := Lib.hid (HKc.out.trans hk1 (fun _ _ h => h)); clear hk1; have k0 := HKc.out.cell (p := ⟨w.heap.size, 0, none⟩) (fun h => h) c0; have k1 := HKc.out.cell (p := ⟨w.heap.size, 1, none⟩) (fun h => h) c1)
              | (go_at_call 78; (with_reducible refine (HCMD.out _ HKc.out).mono ?_); rintro e wE ⟨ca2, cc2, na2, nc2, rfl, hca, hna, hk2⟩; have HCA2 := Lib.hid hca; have HZC := Lib.hid HKc.out.size; replace HKc := Lib.hid (HKc.out.trans hk2 (fun _ _ h => h)); clear hk2 hca hna; have k0 := HKc.out.cell (p := ⟨w.heap.size, 0, none⟩) (fun h => h) c0; have k1 := HKc.out.cell (p := ⟨w.heap.size, 1, none⟩) (fun h => h) c1))
          all_goals
            clear c0 c1 k0 k1
            rw [HR1.out] at HCA2 ⊢
            have HKE := Lib.hid (HKD.out.trans HKc.out (fun _ _ h => h))
            have HRE := Lib.hid (HKc.out.heap (fun h => h) HRD.out)
            have HSE := Lib.hid (HKc.out.heap (fun h => h) HSD.out)
            have HUE := Lib.hid (HUD.out.no HKc.out)
            have hZE : WD.heap.size ≤ wE.heap.size := HKc.out.size
            clear HKc
            obtain ⟨c0, c1, g0, g1⟩ := cells2l HSE.out
            obtain ⟨d0, d1, e0', e1'⟩ := cells2l HRE.out
            have hca := (HCA2.out.drop M.length (by simp)).mono (G := fun i => F i ∨ wB.heap.size ≤ i) (fun i hi h => by
              rcases h with h | h
              · exact h.1
              · have := HZC.out; have := HZD2.out; exact .inr (by omega))
            rw [List.drop_left, show (M ++ D).length - M.length = D.length by simp] at hca
            obtain ⟨_, hc1, hc2⟩ := HCA2.out.len
            have hc3 : ca2 = none → cc2 = 0 := by
              obtain ⟨_, _, e, _, _, h4, _⟩ := HCA2.out
              injection e with e1 _ e3
              rw [e1, e3]; exact h4
            have hdl : (M ++ D).length - M.length = D.length := by simp
            have hnle : M.length ≤ (M ++ D).length := by simp
            obtain ⟨N2, hN2⟩ : ∃ x, x = (M ++ D).length := ⟨_, rfl⟩
            obtain ⟨N1, hN1⟩ : ∃ x, x = M.length := ⟨_, rfl⟩
            rw [← hN2] at hc1 hdl hnle ⊢
            rw [← hN1] at hca hdl hnle ⊢
            have HCAF := Lib.hid hca
            have HDL := Lib.hid hdl
            unfold maxLen at hc2
            clear hca hN1 hN2 hdl
            by_cases hci : cc2 = N1
            · have HCI := Lib.hid hci
              subst hci
              have hd0 : D.length = 0 := by have := HDL.out; omega
              have HCAF2 : Hid (CfsAt wE (fun i => F i ∨ wB.heap.size ≤ i) (.slice ca2 0 0) D) := Lib.hid (by
                have := HCAF.out
                rw [if_pos rfl, hd0, Nat.sub_self] at this
                exact this)
              have HD0 := Lib.hid hd0
              clear hd0 HCAF
              go_upto_region 12 with fail
              go_region
              go_wp2
              have HF := (Kept.refl NoB _).drew.heap (fun h => h) (blkA_set (blkA_set HRE.out 0 (.slice ua LP.length uc)) 1 (.slice fa l.length fc))
              have HKF := ((HKE.out.setCell (p := ⟨w.heap.size + 2, 0, none⟩) (.inr (Nat.le_add_right _ _)) (.slice ua LP.length uc)).setCell (p := ⟨w.heap.size + 2, 1, none⟩) (.inr (Nat.le_add_right _ _)) (.slice fa l.length fc)).drew
              have HKG := ((((Kept.refl (fun i => i = w.heap.size + 2) wE).setCell (p := ⟨w.heap.size + 2, 0, none⟩) (.inl rfl) (.slice ua LP.length uc)).setCell (p := ⟨w.heap.size + 2, 1, none⟩) (.inl rfl) (.slice fa l.length fc)).drew)
              have HUF := (HUE.out.kept HKG (fun i h e => by have := HZB.out; have h : wB.heap.size ≤ i := h; have e : i = w.heap.size + 2 := e; omega)).mono (G := fun i => w.heap.size ≤ i) (fun i _ h => by have := HZB.out; have h : wB.heap.size ≤ i := h; omega)
              have HCF := (HCAF2.out.kept HKG (fun i _ h e => by
                have e : i = w.heap.size + 2 := e
                rcases h with h | h
                · have := HFL.out i h; omega
                · have := HZB.out; omega)).mono (G := fun i => F i ∨ w.heap.size ≤ i) (fun i _ h => h.elim .inl (fun h => .inr (by have := HZB.out; omega)))
              clear c0 c1 g0 g1 d0 d1 e0' e1'
              obtain ⟨r0, r1, _, _⟩ := cells2l (x := .slice ua LP.length uc) (y := .slice fa l.length fc) HF
              clear HF HKG
              generalize hW : World.drew _ = W2 at r0 r1 HKF HUF HCF ⊢
              exact bodyPost_ret (v := .tuple #[.agg #[.slice ua LP.length uc, .slice fa l.length fc], .slice ca2 0 0, .int .i64 0]) (by simp [results, Try.results33, go_sem, r0, r1]) rfl (rl_ok HX.out HLP.out HD.out ⟨ca2, 0, by rw [HD0.out]⟩ HUF HCF HMP.out HNM.out (HR2.out.trans HE.out) HKF)
            · obtain ⟨ad, rfl⟩ : ∃ ad, ca2 = some ad := by
                cases ca2 with
                | none => exact absurd (hc3 rfl) (by omega)
                | some ad => exact ⟨ad, rfl⟩
              clear hc3
              have HCAF2 : Hid (CfsAt wE (fun i => F i ∨ wB.heap.size ≤ i) (.slice (some (ad.add (N1 * 5))) (N2 - N1) (cc2 - N1)) D) := Lib.hid (by
                have := HCAF.out
                rw [if_neg hci, Option.map_some, ← HDL.out] at this
                exact this)
              clear HCAF
              go_upto_region 12 with fail
              go_region
              go_wp2
              have HF := (Kept.refl NoB _).drew.heap (fun h => h) (blkA_set (blkA_set HRE.out 0 (.slice ua LP.length uc)) 1 (.slice fa l.length fc))
              have HKF := ((HKE.out.setCell (p := ⟨w.heap.size + 2, 0, none⟩) (.inr (Nat.le_add_right _ _)) (.slice ua LP.length uc)).setCell (p := ⟨w.heap.size + 2, 1, none⟩) (.inr (Nat.le_add_right _ _)) (.slice fa l.length fc)).drew
              have HKG := ((((Kept.refl (fun i => i = w.heap.size + 2) wE).setCell (p := ⟨w.heap.size + 2, 0, none⟩) (.inl rfl) (.slice ua LP.length uc)).setCell (p := ⟨w.heap.size + 2, 1, none⟩) (.inl rfl) (.slice fa l.length fc)).drew)
              have HUF := (HUE.out.kept HKG (fun i h e => by have := HZB.out; have h : wB.heap.size ≤ i := h; have e : i = w.heap.size + 2 := e; omega)).mono (G := fun i => w.heap.size ≤ i) (fun i _ h => by have := HZB.out; have h : wB.heap.size ≤ i := h; omega)
              have HCF := (HCAF2.out.kept HKG (fun i _ h e => by
                have e : i = w.heap.size + 2 := e
                rcases h with h | h
                · have := HFL.out i h; omega
                · have := HZB.out; omega)).mono (G := fun i => F i ∨ w.heap.size ≤ i) (fun i _ h => h.elim .inl (fun h => .inr (by have := HZB.out; omega)))
              clear c0 c1 g0 g1 d0 d1 e0' e1'
              obtain ⟨r0, r1, _, _⟩ := cells2l (x := .slice ua LP.length uc) (y := .slice fa l.length fc) HF
              clear HF HKG
              generalize hW : World.drew _ = W2 at r0 r1 HKF HUF HCF ⊢
              exact bodyPost_ret (v := .tuple #[.agg #[.slice ua LP.length uc, .slice fa l.length fc], .slice (some (ad.add (N1 * 5))) (N2 - N1) (cc2 - N1), .int .i64 0]) (by simp [results, Try.results33, go_sem, r0, r1]) rfl (rl_ok HX.out HLP.out HD.out ⟨_, _, by rw [← HDL.out]⟩ HUF HCF HMP.out HNM.out (HR2.out.trans HE.out) HKF)
      | some v =>
        have hvb := HB0.out v (atV_slot hat).2
        have hvs := (atV_slot hat).1
        obtain ⟨v0, v1, v2, v3, v4, v5⟩ := v
        simp only at hvb hvs
        subst hvb hvs
        have HAT : Hid (∀ w', Kept NoB w w' → Calls Try.prog 71 #[.slice ka L.length kc, .int .i64 v0] w' fun e w'' => e = .returned (.tuple #[.agg #[.int .i64 v0, .int .u64 0, .int .i64 v2, .int .i64 v3, .int .u64 v4, .int .i64 v5], .bool true]) ∧ Kept NoB w' w'') := Lib.hid (by have := HATV.out; rw [hat] at this; exact this)
        have HXL := HXL.out
        rw [hat] at HXL
        have HAV0 := Lib.hid hat
        clear hat HATV
        by_cases hsame : v2 = k ∧ v3 = ch ∧ v4 = ep ∧ v5 = nd
        · have HX : Hid (lrnX L v0 0 k ch ep nd = 0) := Lib.hid (by rw [HXL]; exact if_pos hsame)
          obtain ⟨rfl, rfl, rfl, rfl⟩ := hsame
          have HAV : Hid (atV L v0 = none ∨ atV L v0 = some ⟨v0, 0, v2, v3, v4, v5⟩) := Lib.hid (.inr HAV0.out)
          clear HXL HAV0
          go_enter Try.func33, Try.ntmps33
          go_upto_region 1 with fail
          rw [← HW1.out, ← HW2.out, ← HW3.out]
          obtain ⟨c0, c1, g0, g1⟩ := cells2l HS3.out
          obtain ⟨d0, d1, e0', e1'⟩ := cells2l HR3.out
          obtain ⟨t0, t1, t2, t3⟩ := cells4c HT3.out
          go_wp2_with fail
          refine (HC.out _).mono ?_
          rintro e w4 ⟨rfl, hk⟩
          have HR4 := Lib.hid (hk.heap (fun h => h) HR3.out)
          have HS4 := Lib.hid (hk.heap (fun h => h) HS3.out)
          have HT4 := Lib.hid (hk.heap (fun h => h) HT3.out)
          have HK4 := Lib.hid (HK.out.trans hk (fun _ _ h => h))
          have HZ4 : Hid (w.heap.size + 3 ≤ w4.heap.size) := Lib.hid (by have := hk.size; have := HZ.out; omega)
          clear hk c0 c1 g0 g1 d0 d1 e0' e1' t0 t1 t2 t3
          obtain ⟨c0, c1, g0, g1⟩ := cells2l HS4.out
          obtain ⟨d0, d1, e0', e1'⟩ := cells2l HR4.out
          obtain ⟨t0, t1, t2, t3⟩ := cells4c HT4.out
          go_wp2_with fail
          refine (HAT.out _ HK4.out).mono ?_
          rintro e w5 ⟨rfl, hk⟩
          have hk5 := hk.alloc (.cells #[.int .i64 v0, .int .u64 0, .int .i64 v2, .int .i64 v3, .int .u64 v4, .int .i64 v5] 48)
          have HR5 := Lib.hid (blkA_alloc (hk.heap (fun h => h) HR4.out) (.cells #[.int .i64 v0, .int .u64 0, .int .i64 v2, .int .i64 v3, .int .u64 v4, .int .i64 v5] 48))
          have HS5 := Lib.hid (blkA_alloc (hk.heap (fun h => h) HS4.out) (.cells #[.int .i64 v0, .int .u64 0, .int .i64 v2, .int .i64 v3, .int .u64 v4, .int .i64 v5] 48))
          have HT5 := Lib.hid (blkA_alloc (hk.heap (fun h => h) HT4.out) (.cells #[.int .i64 v0, .int .u64 0, .int .i64 v2, .int .i64 v3, .int .u64 v4, .int .i64 v5] 48))
          have HV5 := Lib.hid (heap_alloc_new w5 (.cells #[.int .i64 v0, .int .u64 0, .int .i64 v2, .int .i64 v3, .int .u64 v4, .int .i64 v5] 48))
          have HK5 := Lib.hid (HK4.out.trans hk5 (fun _ _ h => h))
          have HZ5 : Hid (w.heap.size + 3 ≤ (w5.alloc (.cells #[.int .i64 v0, .int .u64 0, .int .i64 v2, .int .i64 v3, .int .u64 v4, .int .i64 v5] 48)).heap.size) := Lib.hid (by have := hk5.size; have := HZ4.out; omega)
          clear hk hk5 c0 c1 g0 g1 d0 d1 e0' e1' t0 t1 t2 t3
          obtain ⟨c0, c1, g0, g1⟩ := cells2l HS5.out
          obtain ⟨d0, d1, e0', e1'⟩ := cells2l HR5.out
          obtain ⟨t0, t1, t2, t3⟩ := cells4c HT5.out
          obtain ⟨m0, m1, m2, m3, m4, m5⟩ := cells6 (v := ⟨v0, 0, v2, v3, v4, v5⟩) HV5.out
          go_upto_region 9 with fail
          obtain ⟨WA, hWA⟩ : ∃ W, W = w5.alloc (.cells #[.int .i64 v0, .int .u64 0, .int .i64 v2, .int .i64 v3, .int .u64 v4, .int .i64 v5] 48) := ⟨_, rfl⟩
          rw [← hWA] at HR5 HS5 HT5 HK5 HZ5 ⊢
          clear hWA HV5 m0 m1 m2 m3 m4 m5 c0 c1 g0 g1 d0 d1 e0' e1' t0 t1 t2 t3
          have HNXA : Hid (∀ w', Kept NoB WA w' → _) := Lib.hid (fun w' hk => HNX.out w' (HK5.out.trans hk (fun _ _ h => h)))
          have HCMA : Hid (∀ w', Kept NoB WA w' → _) := Lib.hid (fun w' hk => HCM.out w' (HK5.out.trans hk (fun _ _ h => h)))
          obtain ⟨M, hM⟩ : ∃ M, M = (runC l (L.take n)).1 := ⟨_, rfl⟩
          have HM := Lib.hid hM
          obtain ⟨c0, c1, g0, g1⟩ := cells2l HS5.out
          clear hM
          have HKc := Lib.hid (Kept.refl NoB WA).drew
          go_region_held3 (fun w' => w'.cell? ⟨w.heap.size, 0, none⟩ = some (.slice ka L.length kc) ∧ w'.cell? ⟨w.heap.size, 1, none⟩ = some (.slice fa l.length fc))
            (first
              | (with_reducible exact ⟨cell_drew c0, cell_drew c1⟩)
              | (with_reducible exact ⟨k0, k1⟩)
              | go_keep)
            (first
              | (go_at_call 79; (with_reducible refine (HNXA.out _ HKc.out).mono ?_); rintro e w1 ⟨rfl, hk1⟩; replace HKc := Lib.hid (HKc.out.trans hk1 (fun _ _ h => h)); clear hk1; have k0 := HKc.out.cell (p := ⟨w.heap.size, 0, none⟩) (fun h => h) c0; have k1 := HKc.out.cell (p := ⟨w.heap.size, 1, none⟩) (fun h => h) c1)
              | (go_at_call 78; (with_reducible refine (HCMA.out _ HKc.out).mono ?_); rintro e wB ⟨ca1, cc1, na1, nc1, rfl, hca, hna, hk2⟩; have HCA1 := Lib.hid hca; have HZC := Lib.hid HKc.out.size; replace HKc := Lib.hid (HKc.out.trans hk2 (fun _ _ h => h)); clear hk2 hca hna; have k0 := HKc.out.cell (p := ⟨w.heap.size, 0, none⟩) (fun h => h) c0; have k1 := HKc.out.cell (p := ⟨w.heap.size, 1, none⟩) (fun h => h) c1))
          all_goals
            clear c0 c1 k0 k1
            rw [← HM.out] at HCA1 ⊢
            have HKB := Lib.hid (HK5.out.trans HKc.out (fun _ _ h => h))
            have HRB := Lib.hid (HKc.out.heap (fun h => h) HR5.out)
            have HSB := Lib.hid (HKc.out.heap (fun h => h) HS5.out)
            have HTB := Lib.hid (HKc.out.heap (fun h => h) HT5.out)
            have HZB : Hid (w.heap.size + 3 ≤ wB.heap.size) := Lib.hid (by have := HKc.out.size; have := HZ5.out; omega)
            clear HKc
            obtain ⟨c0, c1, g0, g1⟩ := cells2l HSB.out
            obtain ⟨d0, d1, e0', e1'⟩ := cells2l HRB.out
            obtain ⟨t0, t1, t2, t3⟩ := cells4c HTB.out
            go_wp2_with fail
            refine (RPut_any wB _ L v0 0 v2 v3 v4 v5 F (HLOG.out.no HKB.out).known (by omega)).mono ?_
            rintro e wC ⟨u, rfl, hu, hk⟩
            obtain ⟨ua, uc, rfl⟩ := hu.form
            have HU := Lib.hid hu
            have HKC := Lib.hid (HKB.out.trans hk (fun _ _ h => h))
            have HRC := Lib.hid (hk.heap (fun h => h) HRB.out)
            have HSC := Lib.hid (hk.heap (fun h => h) HSB.out)
            have HZC2 : Hid (wB.heap.size ≤ wC.heap.size) := Lib.hid hk.size
            obtain ⟨LP, hLP⟩ : ∃ LP, LP = putV L ⟨v0, 0, v2, v3, v4, v5⟩ := ⟨_, rfl⟩
            rw [← hLP] at HU ⊢
            have HLP := Lib.hid hLP
            have hLPl : LP.length ≤ L.length + 1 := by rw [hLP]; exact (putV_len _).1
            clear hu hk hLP c0 c1 g0 g1 d0 d1 e0' e1' t0 t1 t2 t3
            obtain ⟨c0, c1, g0, g1⟩ := cells2l HSC.out
            obtain ⟨d0, d1, e0', e1'⟩ := cells2l HRC.out
            go_upto_region 11 with fail
            have HSD := Lib.hid (blkA_set HSC.out 0 (.slice ua LP.length uc))
            have HRD := Lib.hid (blkA_set_other HRC.out 0 (.slice ua LP.length uc) (show w.heap.size ≠ w.heap.size + 2 by omega))
            have HKD := Lib.hid (HKC.out.setCell (p := ⟨w.heap.size, 0, none⟩) (.inr (Nat.le_refl _)) (.slice ua LP.length uc))
            have HZD : Hid (wB.heap.size ≤ wC.heap.size) := Lib.hid HZC2.out
            have HKS := Lib.hid ((Kept.refl (fun i => i < w.heap.size + 3 ∧ w.heap.size ≤ i) wC).setCell (p := ⟨w.heap.size, 0, none⟩) (.inl ⟨by show w.heap.size < _; omega, Nat.le_refl _⟩) (.slice ua LP.length uc))
            obtain ⟨WD, hWD⟩ : ∃ W, W = wC.setCell ⟨w.heap.size, 0, none⟩ (.slice ua LP.length uc) := ⟨_, rfl⟩
            rw [← hWD] at HSD HRD HKD HKS ⊢
            have HZD2 : Hid (wB.heap.size ≤ WD.heap.size) := Lib.hid (Nat.le_trans HZD.out HKS.out.size)
            clear hWD c0 c1 g0 g1 d0 d1 e0' e1'
            have HUD : Hid (VRd WD (fun i => wB.heap.size ≤ i) (.slice ua LP.length uc) LP) := Lib.hid ((HU.out.kept HKS.out (fun i hi h => by have := HU.out.base i hi; have := HZB.out; omega)).rd (fun i hi => (HU.out.base i hi).1))
            have HLD : Hid (RLogAt WD (fun i => (F i ∨ wB.heap.size ≤ i) ∧ i < WD.heap.size) ua uc fa fc LP l) := Lib.hid ⟨HUD.out.mono (fun i hi h => ⟨.inr h, hi⟩), (HLOG.out.no HKD.out).first.mono (fun i hi h => ⟨.inl h, hi⟩)⟩
            have HOKP : Hid (∀ v ∈ LP, Chk v.k v.ch v.ep v.nd 0 ∧ 0 ≤ v.ep) := Lib.hid (HLP.out ▸ VRd.ok0 HOK.out HCX.out hep)
            clear HKS
            obtain ⟨m, hm⟩ := lead_ex LP
            have HMP := Lib.hid hm
            clear hm
            have HNXD : Hid (∀ w', Kept NoB WD w' → Calls Try.prog 79 #[.agg #[.slice ua LP.length uc, .slice fa l.length fc]] w' fun e w'' => e = .returned (.int .i64 m) ∧ Kept NoB w' w'') := Lib.hid (fun w' hk' => (RNext_any w' _ ua fa uc fc LP l (HLD.out.no hk') (by omega)).mono (by
              rintro e w'' ⟨m2, rfl, hm2, hk2⟩
              rw [HMP.out.one hm2]
              exact ⟨rfl, hk2⟩))
            have HCMD : Hid (∀ w', Kept NoB WD w' → Calls Try.prog 78 #[.agg #[.slice ua LP.length uc, .slice fa l.length fc], .int .i64 m] w' (CameE _ l (LP.take m) w')) := Lib.hid (fun w' hk' => RCame_any w' _ ua fa uc fc LP l m (HLD.out.no hk') (by omega) HMP.out.1 hf (fun k hk => by have := hk.2; have := hk'.size; omega) HOKP.out)
            have hcp := came_put (v := ⟨v0, 0, v2, v3, v4, v5⟩) l HSRT.out hs1 HN.out (HLP.out ▸ HMP.out) HAV.out
            rw [← HLP.out, ← HM.out] at hcp
            obtain ⟨hnm, hrun⟩ := hcp
            obtain ⟨D, hD⟩ : ∃ D, D = (runC (runC l (L.take n)).2 ((LP.take m).drop n)).1 := ⟨_, rfl⟩
            obtain ⟨E, hE⟩ : ∃ E, E = (runC (runC l (L.take n)).2 ((LP.take m).drop n)).2 := ⟨_, rfl⟩
            rw [← hD, ← hE] at hrun
            have hr1 : (runC l (LP.take m)).1 = M ++ D := by rw [hrun]
            have hr2 : (runC l (LP.take m)).2 = E := by rw [hrun]
            have HR1 := Lib.hid hr1
            have HR2 := Lib.hid hr2
            have HD := Lib.hid hD
            have HE := Lib.hid hE
            have HNM := Lib.hid hnm
            clear hnm hrun hD hE hr1 hr2
            obtain ⟨c0, c1, g0, g1⟩ := cells2l HSD.out
            have HKc := Lib.hid (Kept.refl NoB WD).drew
            go_region_held3 (fun w' => w'.cell? ⟨w.heap.size, 0, none⟩ = some (.slice ua LP.length uc) ∧ w'.cell? ⟨w.heap.size, 1, none⟩ = some (.slice fa l.length fc))
              (first
                | (with_reducible exact ⟨cell_drew c0, cell_drew c1⟩)
                | (with_reducible exact ⟨k0, k1⟩)
                | go_keep)
              (first
                | (go_at_call 79; (with_reducible refine (HNXD.out _ HKc.out).mono ?_); rintro e w1 ⟨rfl, hk1⟩; replace HKc := Lib.hid (HKc.out.trans hk1 (fun _ _ h => h)); clear hk1; have k0 := HKc.out.cell (p := ⟨w.heap.size, 0, none⟩) (fun h => h) c0; have k1 := HKc.out.cell (p := ⟨w.heap.size, 1, none⟩) (fun h => h) c1)
                | (go_at_call 78; (with_reducible refine (HCMD.out _ HKc.out).mono ?_); rintro e wE ⟨ca2, cc2, na2, nc2, rfl, hca, hna, hk2⟩; have HCA2 := Lib.hid hca; have HZC := Lib.hid HKc.out.size; replace HKc := Lib.hid (HKc.out.trans hk2 (fun _ _ h => h)); clear hk2 hca hna; have k0 := HKc.out.cell (p := ⟨w.heap.size, 0, none⟩) (fun h => h) c0; have k1 := HKc.out.cell (p := ⟨w.heap.size, 1, none⟩) (fun h => h) c1))
            all_goals
              clear c0 c1 k0 k1
              rw [HR1.out] at HCA2 ⊢
              have HKE := Lib.hid (HKD.out.trans HKc.out (fun _ _ h => h))
              have HRE := Lib.hid (HKc.out.heap (fun h => h) HRD.out)
              have HSE := Lib.hid (HKc.out.heap (fun h => h) HSD.out)
              have HUE := Lib.hid (HUD.out.no HKc.out)
              have hZE : WD.heap.size ≤ wE.heap.size := HKc.out.size
              clear HKc
              obtain ⟨c0, c1, g0, g1⟩ := cells2l HSE.out
              obtain ⟨d0, d1, e0', e1'⟩ := cells2l HRE.out
              have hca := (HCA2.out.drop M.length (by simp)).mono (G := fun i => F i ∨ wB.heap.size ≤ i) (fun i hi h => by
                rcases h with h | h
                · exact h.1
                · have := HZC.out; have := HZD2.out; exact .inr (by omega))
              rw [List.drop_left, show (M ++ D).length - M.length = D.length by simp] at hca
              obtain ⟨_, hc1, hc2⟩ := HCA2.out.len
              have hc3 : ca2 = none → cc2 = 0 := by
                obtain ⟨_, _, e, _, _, h4, _⟩ := HCA2.out
                injection e with e1 _ e3
                rw [e1, e3]; exact h4
              have hdl : (M ++ D).length - M.length = D.length := by simp
              have hnle : M.length ≤ (M ++ D).length := by simp
              obtain ⟨N2, hN2⟩ : ∃ x, x = (M ++ D).length := ⟨_, rfl⟩
              obtain ⟨N1, hN1⟩ : ∃ x, x = M.length := ⟨_, rfl⟩
              rw [← hN2] at hc1 hdl hnle ⊢
              rw [← hN1] at hca hdl hnle ⊢
              have HCAF := Lib.hid hca
              have HDL := Lib.hid hdl
              unfold maxLen at hc2
              clear hca hN1 hN2 hdl
              by_cases hci : cc2 = N1
              · have HCI := Lib.hid hci
                subst hci
                have hd0 : D.length = 0 := by have := HDL.out; omega
                have HCAF2 : Hid (CfsAt wE (fun i => F i ∨ wB.heap.size ≤ i) (.slice ca2 0 0) D) := Lib.hid (by
                  have := HCAF.out
                  rw [if_pos rfl, hd0, Nat.sub_self] at this
                  exact this)
                have HD0 := Lib.hid hd0
                clear hd0 HCAF
                go_upto_region 12 with fail
                go_region
                go_wp2
                have HF := (Kept.refl NoB _).drew.heap (fun h => h) (blkA_set (blkA_set HRE.out 0 (.slice ua LP.length uc)) 1 (.slice fa l.length fc))
                have HKF := ((HKE.out.setCell (p := ⟨w.heap.size + 2, 0, none⟩) (.inr (Nat.le_add_right _ _)) (.slice ua LP.length uc)).setCell (p := ⟨w.heap.size + 2, 1, none⟩) (.inr (Nat.le_add_right _ _)) (.slice fa l.length fc)).drew
                have HKG := ((((Kept.refl (fun i => i = w.heap.size + 2) wE).setCell (p := ⟨w.heap.size + 2, 0, none⟩) (.inl rfl) (.slice ua LP.length uc)).setCell (p := ⟨w.heap.size + 2, 1, none⟩) (.inl rfl) (.slice fa l.length fc)).drew)
                have HUF := (HUE.out.kept HKG (fun i h e => by have := HZB.out; have h : wB.heap.size ≤ i := h; have e : i = w.heap.size + 2 := e; omega)).mono (G := fun i => w.heap.size ≤ i) (fun i _ h => by have := HZB.out; have h : wB.heap.size ≤ i := h; omega)
                have HCF := (HCAF2.out.kept HKG (fun i _ h e => by
                  have e : i = w.heap.size + 2 := e
                  rcases h with h | h
                  · have := HFL.out i h; omega
                  · have := HZB.out; omega)).mono (G := fun i => F i ∨ w.heap.size ≤ i) (fun i _ h => h.elim .inl (fun h => .inr (by have := HZB.out; omega)))
                clear c0 c1 g0 g1 d0 d1 e0' e1'
                obtain ⟨r0, r1, _, _⟩ := cells2l (x := .slice ua LP.length uc) (y := .slice fa l.length fc) HF
                clear HF HKG
                generalize hW : World.drew _ = W2 at r0 r1 HKF HUF HCF ⊢
                exact bodyPost_ret (v := .tuple #[.agg #[.slice ua LP.length uc, .slice fa l.length fc], .slice ca2 0 0, .int .i64 0]) (by simp [results, Try.results33, go_sem, r0, r1]) rfl (rl_ok HX.out HLP.out HD.out ⟨ca2, 0, by rw [HD0.out]⟩ HUF HCF HMP.out HNM.out (HR2.out.trans HE.out) HKF)
              · obtain ⟨ad, rfl⟩ : ∃ ad, ca2 = some ad := by
                  cases ca2 with
                  | none => exact absurd (hc3 rfl) (by omega)
                  | some ad => exact ⟨ad, rfl⟩
                clear hc3
                have HCAF2 : Hid (CfsAt wE (fun i => F i ∨ wB.heap.size ≤ i) (.slice (some (ad.add (N1 * 5))) (N2 - N1) (cc2 - N1)) D) := Lib.hid (by
                  have := HCAF.out
                  rw [if_neg hci, Option.map_some, ← HDL.out] at this
                  exact this)
                clear HCAF
                go_upto_region 12 with fail
                go_region
                go_wp2
                have HF := (Kept.refl NoB _).drew.heap (fun h => h) (blkA_set (blkA_set HRE.out 0 (.slice ua LP.length uc)) 1 (.slice fa l.length fc))
                have HKF := ((HKE.out.setCell (p := ⟨w.heap.size + 2, 0, none⟩) (.inr (Nat.le_add_right _ _)) (.slice ua LP.length uc)).setCell (p := ⟨w.heap.size + 2, 1, none⟩) (.inr (Nat.le_add_right _ _)) (.slice fa l.length fc)).drew
                have HKG := ((((Kept.refl (fun i => i = w.heap.size + 2) wE).setCell (p := ⟨w.heap.size + 2, 0, none⟩) (.inl rfl) (.slice ua LP.length uc)).setCell (p := ⟨w.heap.size + 2, 1, none⟩) (.inl rfl) (.slice fa l.length fc)).drew)
                have HUF := (HUE.out.kept HKG (fun i h e => by have := HZB.out; have h : wB.heap.size ≤ i := h; have e : i = w.heap.size + 2 := e; omega)).mono (G := fun i => w.heap.size ≤ i) (fun i _ h => by have := HZB.out; have h : wB.heap.size ≤ i := h; omega)
                have HCF := (HCAF2.out.kept HKG (fun i _ h e => by
                  have e : i = w.heap.size + 2 := e
                  rcases h with h | h
                  · have := HFL.out i h; omega
                  · have := HZB.out; omega)).mono (G := fun i => F i ∨ w.heap.size ≤ i) (fun i _ h => h.elim .inl (fun h => .inr (by have := HZB.out; omega)))
                clear c0 c1 g0 g1 d0 d1 e0' e1'
                obtain ⟨r0, r1, _, _⟩ := cells2l (x := .slice ua LP.length uc) (y := .slice fa l.length fc) HF
                clear HF HKG
                generalize hW : World.drew _ = W2 at r0 r1 HKF HUF HCF ⊢
                exact bodyPost_ret (v := .tuple #[.agg #[.slice ua LP.length uc, .slice fa l.length fc], .slice (some (ad.add (N1 * 5))) (N2 - N1) (cc2 - N1), .int .i64 0]) (by simp [results, Try.results33, go_sem, r0, r1]) rfl (rl_ok HX.out HLP.out HD.out ⟨_, _, by rw [← HDL.out]⟩ HUF HCF HMP.out HNM.out (HR2.out.trans HE.out) HKF)
        · have HX : Hid (lrnX L v0 0 k ch ep nd = 8) := Lib.hid (by rw [HXL]; exact if_neg hsame)
          have HDF : Hid (v2 ≠ k ∨ (v2 = k ∧ v3 ≠ ch) ∨ (v2 = k ∧ v3 = ch ∧ v4 ≠ ep) ∨ (v2 = k ∧ v3 = ch ∧ v4 = ep ∧ v5 ≠ nd)) := Lib.hid (by omega)
          clear HXL hsame HAV0
          go_enter Try.func33, Try.ntmps33
          go_upto_region 1 with fail
          rw [← HW1.out, ← HW2.out, ← HW3.out]
          obtain ⟨c0, c1, g0, g1⟩ := cells2l HS3.out
          obtain ⟨d0, d1, e0', e1'⟩ := cells2l HR3.out
          obtain ⟨t0, t1, t2, t3⟩ := cells4c HT3.out
          go_wp2_with fail
          refine (HC.out _).mono ?_
          rintro e w4 ⟨rfl, hk⟩
          have HR4 := Lib.hid (hk.heap (fun h => h) HR3.out)
          have HS4 := Lib.hid (hk.heap (fun h => h) HS3.out)
          have HT4 := Lib.hid (hk.heap (fun h => h) HT3.out)
          have HK4 := Lib.hid (HK.out.trans hk (fun _ _ h => h))
          have HZ4 : Hid (w.heap.size + 3 ≤ w4.heap.size) := Lib.hid (by have := hk.size; have := HZ.out; omega)
          clear hk c0 c1 g0 g1 d0 d1 e0' e1' t0 t1 t2 t3
          obtain ⟨c0, c1, g0, g1⟩ := cells2l HS4.out
          obtain ⟨d0, d1, e0', e1'⟩ := cells2l HR4.out
          obtain ⟨t0, t1, t2, t3⟩ := cells4c HT4.out
          go_wp2_with fail
          refine (HAT.out _ HK4.out).mono ?_
          rintro e w5 ⟨rfl, hk⟩
          have hk5 := hk.alloc (.cells #[.int .i64 v0, .int .u64 0, .int .i64 v2, .int .i64 v3, .int .u64 v4, .int .i64 v5] 48)
          have HR5 := Lib.hid (blkA_alloc (hk.heap (fun h => h) HR4.out) (.cells #[.int .i64 v0, .int .u64 0, .int .i64 v2, .int .i64 v3, .int .u64 v4, .int .i64 v5] 48))
          have HS5 := Lib.hid (blkA_alloc (hk.heap (fun h => h) HS4.out) (.cells #[.int .i64 v0, .int .u64 0, .int .i64 v2, .int .i64 v3, .int .u64 v4, .int .i64 v5] 48))
          have HT5 := Lib.hid (blkA_alloc (hk.heap (fun h => h) HT4.out) (.cells #[.int .i64 v0, .int .u64 0, .int .i64 v2, .int .i64 v3, .int .u64 v4, .int .i64 v5] 48))
          have HV5 := Lib.hid (heap_alloc_new w5 (.cells #[.int .i64 v0, .int .u64 0, .int .i64 v2, .int .i64 v3, .int .u64 v4, .int .i64 v5] 48))
          have HK5 := Lib.hid (HK4.out.trans hk5 (fun _ _ h => h))
          have HZ5 : Hid (w.heap.size + 3 ≤ (w5.alloc (.cells #[.int .i64 v0, .int .u64 0, .int .i64 v2, .int .i64 v3, .int .u64 v4, .int .i64 v5] 48)).heap.size) := Lib.hid (by have := hk5.size; have := HZ4.out; omega)
          clear hk hk5 c0 c1 g0 g1 d0 d1 e0' e1' t0 t1 t2 t3
          obtain ⟨c0, c1, g0, g1⟩ := cells2l HS5.out
          obtain ⟨d0, d1, e0', e1'⟩ := cells2l HR5.out
          obtain ⟨t0, t1, t2, t3⟩ := cells4c HT5.out
          obtain ⟨m0, m1, m2, m3, m4, m5⟩ := cells6 (v := ⟨v0, 0, v2, v3, v4, v5⟩) HV5.out
          rcases HDF.out with h | ⟨rfl, h⟩ | ⟨rfl, rfl, h⟩ | ⟨rfl, rfl, rfl, h⟩
          all_goals
            have hb1 := beq_false_of_ne h
            clear h
            go_wp2
            have HF := blkA_set (blkA_set HR5.out 0 (.slice ka L.length kc)) 1 (.slice fa l.length fc)
            have HKE := (HK5.out.setCell (p := ⟨w.heap.size + 2, 0, none⟩) (.inr (Nat.le_add_right _ _)) (.slice ka L.length kc)).setCell (p := ⟨w.heap.size + 2, 1, none⟩) (.inr (Nat.le_add_right _ _)) (.slice fa l.length fc)
            clear c0 c1 g0 g1 d0 d1 e0' e1' t0 t1 t2 t3
            obtain ⟨r0, r1, _, _⟩ := cells2l (x := .slice ka L.length kc) (y := .slice fa l.length fc) HF
            clear HF
            generalize hW : World.setCell _ _ _ = W at r0 r1 HKE ⊢
            exact bodyPost_ret (v := .tuple #[.agg #[.slice ka L.length kc, .slice fa l.length fc], .slice none 0 0, .int .i64 8]) (by simp [results, Try.results33, go_sem, r0, r1]) rfl (rl_err HX.out (by decide) HKE)
    · have HX : Hid (lrnX L s e0 k ch ep nd = e0) := Lib.hid (by unfold lrnX; rw [if_neg hr, if_pos he])
      have heb : (e0 == 0) = false := by simpa using he
      have HE := Lib.hid he
      clear hr he
      go_enter Try.func33, Try.ntmps33
      go_upto_region 1 with fail
      rw [← HW1.out, ← HW2.out, ← HW3.out]
      obtain ⟨c0, c1, g0, g1⟩ := cells2l HS3.out
      obtain ⟨d0, d1, e0', e1'⟩ := cells2l HR3.out
      obtain ⟨t0, t1, t2, t3⟩ := cells4c HT3.out
      go_wp2_with fail
      refine (HC.out _).mono ?_
      rintro e w4 ⟨rfl, hk⟩
      have HR4 := Lib.hid (hk.heap (fun h => h) HR3.out)
      have HS4 := Lib.hid (hk.heap (fun h => h) HS3.out)
      have HT4 := Lib.hid (hk.heap (fun h => h) HT3.out)
      have HK4 := Lib.hid (HK.out.trans hk (fun _ _ h => h))
      have HZ4 : Hid (w.heap.size + 3 ≤ w4.heap.size) := Lib.hid (by have := hk.size; have := HZ.out; omega)
      clear hk c0 c1 g0 g1 d0 d1 e0' e1' t0 t1 t2 t3
      obtain ⟨c0, c1, g0, g1⟩ := cells2l HS4.out
      obtain ⟨d0, d1, e0', e1'⟩ := cells2l HR4.out
      obtain ⟨t0, t1, t2, t3⟩ := cells4c HT4.out
      go_wp2
      have HF := blkA_set (blkA_set HR4.out 0 (.slice ka L.length kc)) 1 (.slice fa l.length fc)
      have HKE := (HK4.out.setCell (p := ⟨w.heap.size + 2, 0, none⟩) (.inr (Nat.le_add_right _ _)) (.slice ka L.length kc)).setCell (p := ⟨w.heap.size + 2, 1, none⟩) (.inr (Nat.le_add_right _ _)) (.slice fa l.length fc)
      clear c0 c1 g0 g1 d0 d1 e0' e1' t0 t1 t2 t3
      obtain ⟨r0, r1, _, _⟩ := cells2l (x := .slice ka L.length kc) (y := .slice fa l.length fc) HF
      clear HF
      generalize hW : World.setCell _ _ _ = W at r0 r1 HKE ⊢
      exact bodyPost_ret (v := .tuple #[.agg #[.slice ka L.length kc, .slice fa l.length fc], .slice none 0 0, .int .i64 e0]) (by simp [results, Try.results33, go_sem, r0, r1]) rfl (rl_err HX.out HE.out HKE)
end Go.Proofs.Ytidhaofojcdbaaa
namespace Go.Proofs.Ytidhaofojcdbaaa
open Go.RowKit
set_option linter.unusedVariables false

/-- Each chain's epochs rise. -/
def Ris (D : List Cf) : Prop := D.Pairwise fun a b => a.ch = b.ch → a.ep < b.ep
def Bnd (l : List Cf) : Prop := ∀ j, j < l.length → (nthC l j).ep ≤ topE
theorem now_stp {l : List Cf} {v : Vt} (hA : AllC l) (hb : Bnd l) (hx : Chk v.k v.ch v.ep v.nd 0) : Stp l (nowC l v) (decide (canC l 0 v.k v.ch v.ep v.nd = 0)) v.k v.ch := stp_of hA hx hb
theorem now_bnd {l : List Cf} {v : Vt} (hA : AllC l) (hb : Bnd l) (hx : Chk v.k v.ch v.ep v.nd 0) : AllC (nowC l v) ∧ Bnd (nowC l v) ∧ ∀ c, c < l.length → (nthC l c).ep ≤ (nthC (nowC l v) c).ep := by
  have h := now_stp hA hb hx
  have key : ∀ c, c < l.length → (nthC l c).ep ≤ (nthC (nowC l v) c).ep ∧ (nthC (nowC l v) c).ep ≤ topE := fun c hc => by
    by_cases hm : decide (canC l 0 v.k v.ch v.ep v.nd = 0) = true ∧ v.k ≠ 0 ∧ v.ch = (c : Int)
    · obtain ⟨h1, h2⟩ := h.moved c hc hm.1 hm.2.1 hm.2.2
      have := hb c hc
      omega
    · rw [h.stays c hc hm]
      exact ⟨Int.le_refl _, hb c hc⟩
  exact ⟨h.all, fun j hj => (key j (by rw [← h.len]; exact hj)).2, fun c hc => (key c hc).1⟩
/-- What came of commands rises, and is above what was. -/
theorem run_ris {l : List Cf} {vs : List Vt} (hA : AllC l) (hb : Bnd l) (hx : ∀ v ∈ vs, Chk v.k v.ch v.ep v.nd 0) : Ris (runC l vs).1 ∧ ∀ d ∈ (runC l vs).1, ∃ c : Nat, c < l.length ∧ d.ch = (c : Int) ∧ (nthC l c).ep < d.ep := by
  induction vs generalizing l with
  | nil => exact ⟨List.Pairwise.nil, fun d hd => by cases hd⟩
  | cons v r ih =>
    have hv := hx v (List.mem_cons_self)
    have hs := now_stp hA hb hv
    obtain ⟨nA, nb, nle⟩ := now_bnd hA hb hv
    obtain ⟨i1, i2⟩ := ih nA nb (fun u hu => hx u (List.mem_cons_of_mem _ hu))
    simp only [runC]
    have i3 : ∀ d ∈ (runC (nowC l v) r).1, ∃ c : Nat, c < l.length ∧ d.ch = (c : Int) ∧ (nthC l c).ep < d.ep := fun d hd => by
      obtain ⟨c, c1, c2, c3⟩ := i2 d hd
      rw [nowC_len] at c1
      have := nle c c1
      exact ⟨c, c1, c2, by omega⟩
    unfold cameC
    split
    · rename_i hok
      unfold okC at hok
      simp only [Bool.and_eq_true, decide_eq_true_eq] at hok
      obtain ⟨_, _, hk⟩ := can_ok hok.1
      rcases hk with hk | ⟨_, h1, h2, h3, h4⟩
      · exact absurd hk hok.2
      have hV := Chk.ok.1 hv
      unfold Vld at hV
      obtain ⟨c, hc⟩ := Int.eq_ofNat_of_zero_le (show 0 ≤ v.ch by have := hok.2; omega)
      have hcl : c < l.length := by omega
      obtain ⟨m1, m2⟩ := hs.moved c hcl (decide_eq_true hok.1) hok.2 hc
      have hch : (nthC (nowC l v) c).ch = (c : Int) := (nA.2.2 c (by rw [nowC_len]; exact hcl)).2.1
      rw [hc, Int.toNat_natCast]
      refine ⟨List.pairwise_append.2 ⟨List.pairwise_singleton _ _, i1, fun a ha b hb' => ?_⟩, fun d hd => ?_⟩
      · rw [List.mem_singleton] at ha
        subst ha
        intro e
        obtain ⟨c', c1, c2, c3⟩ := i2 b hb'
        rw [hch, c2] at e
        obtain rfl : c = c' := by omega
        exact c3
      · rcases List.mem_append.1 hd with hd | hd
        · rw [List.mem_singleton] at hd
          subst hd
          exact ⟨c, hcl, hch, by omega⟩
        · exact i3 d hd
    · exact ⟨i1, i3⟩
theorem ris_at {D : List Cf} (h : Ris D) {m i : Nat} (hm : m < i) (hi : i < D.length) (he : (nthC D m).ch = (nthC D i).ch) : (nthC D m).ep < (nthC D i).ep := by
  have := List.pairwise_iff_getElem.1 h m i (by omega) hi hm
  rw [nthC_at (by omega), nthC_at hi] at *
  exact this he

/-- The values of a slice of configurations. -/
theorem cfs_vals {w : World} {F : Nat → Prop} {b : Nat} : ∀ (l : List Cf) (o : Nat), (∀ j, j < l.length → CfAt w F b (o + j * 5) (nthC l j)) →
    ∃ ps : List (Cf × Value), ps.map Prod.fst = l ∧ (∀ p ∈ ps, NSl w F p.2 p.1.ns ∧ 0 ≤ p.1.ep ∧ p.1.ep ≤ topE ∧ p.1.ns.length ≤ 1000) ∧ ∀ j u, (kc ps)[j]? = some u → w.cell? ⟨b, o + j, none⟩ = some u := by
  intro l
  induction l with
  | nil => exact fun o _ => ⟨[], rfl, (fun p hp => by cases hp), fun j u h => by simp [kc] at h⟩
  | cons c r ih =>
    intro o h
    obtain ⟨ps, h1, h2, h3⟩ := ih (o + 5) (fun j hj => by
      have := h (j + 1) (by simp; omega)
      rw [show o + (j + 1) * 5 = o + 5 + j * 5 by omega] at this
      exact this)
    obtain ⟨u, e0, e1, e2, e3, e4, hn, hb⟩ := h 0 (by simp)
    simp only [Nat.zero_mul, Nat.add_zero] at e0 e1 e2 e3 e4
    have hc0 : nthC (c :: r) 0 = c := rfl
    rw [hc0] at hn hb
    refine ⟨(c, u) :: ps, by rw [List.map_cons, h1], fun p hp => ?_, fun j x hx => ?_⟩
    · rcases List.mem_cons.1 hp with rfl | hp
      · exact ⟨hn, hb⟩
      · exact h2 p hp
    · have e : kc ((c, u) :: ps) = [.int .i64 c.ch, .int .u64 c.ep, u, .bool c.fr, .int .i64 c.jn] ++ kc ps := rfl
      rw [e] at hx
      rcases Nat.lt_or_ge j 5 with hj | hj
      · rw [List.getElem?_append_left (by simpa using hj)] at hx
        match j, hj with
        | 0, _ => injection hx with hx; subst hx; exact e0
        | 1, _ => injection hx with hx; subst hx; exact e1
        | 2, _ => injection hx with hx; subst hx; exact e2
        | 3, _ => injection hx with hx; subst hx; exact e3
        | 4, _ => injection hx with hx; subst hx; exact e4
      · rw [List.getElem?_append_right (by simpa using hj)] at hx
        have := h3 (j - 5) x hx
        rw [show o + 5 + (j - 5) = o + j by omega] at this
        exact this
/-- A row of the call's own, from block B on, that reads as the configurations D; their nodes lie from block B on, too. -/
def XRow (B : Nat) (w : World) (v : Value) (D : List Cf) : Prop :=
  ∃ ps, KOwn B w v ps ∧ ps.map Prod.fst = D ∧ ∀ p ∈ ps, NSl w (fun k => B ≤ k ∧ v.ownBlock ≠ some k) p.2 p.1.ns ∧ 0 ≤ p.1.ep ∧ p.1.ep ≤ topE ∧ p.1.ns.length ≤ 1000
theorem XRow.nil (B : Nat) (w : World) : XRow B w (.slice none 0 0) [] := ⟨[], KOwn.nil _ _, rfl, fun p hp => by cases hp⟩
theorem XRow.form {B : Nat} {w : World} {v : Value} {D : List Cf} (h : XRow B w v D) : ∃ a c, v = .slice a D.length c := by
  obtain ⟨ps, h1, h2, _⟩ := h
  obtain ⟨a, c, rfl⟩ := h1.form
  exact ⟨a, c, by rw [← h2, List.length_map]⟩
theorem XRow.kept {S : Nat → Prop} {B : Nat} {w w' : World} {v : Value} {D : List Cf} (h : XRow B w v D) (hk : Kept S w w') (hs : ∀ k, B ≤ k → ¬ S k) : XRow B w' v D := by
  obtain ⟨ps, h1, h2, h3⟩ := h
  exact ⟨ps, h1.kept hk (fun k hb => hs k (World.ownsRow.lt h1 k hb).1), h2, fun p hp => ⟨(h3 p hp).1.kept hk (fun k _ hF => hs k hF.1), (h3 p hp).2⟩⟩
theorem XRow.cfs {B : Nat} {w : World} {v : Value} {D : List Cf} (h : XRow B w v D) : CfsAt w (fun k => B ≤ k) v D := by
  obtain ⟨ps, h1, h2, h3⟩ := h
  rw [← h2]
  exact h1.cfs (fun k hb => (World.ownsRow.lt h1 k hb).1) (fun p hp => ⟨(h3 p hp).1.mono (fun _ _ h => h.1), (h3 p hp).2⟩)
theorem XRow.own_lt {B : Nat} {w : World} {v : Value} {D : List Cf} (h : XRow B w v D) {k : Nat} (hk : v.ownBlock = some k) : B ≤ k ∧ k < w.heap.size := by
  obtain ⟨ps, h1, _⟩ := h
  exact World.ownsRow.lt h1 k hk
/-- append of a slice of configurations to such a row. -/
theorem run_append_x (w : World) (B : Nat) (ty : TypeId) (v y : Value) (D E : List Cf) (hv : XRow B w v D) (F : Nat → Prop) (hy : CfsAt w F y E) (hF : ∀ k, F k → B ≤ k ∧ v.ownBlock ≠ some k) (hl : D.length + E.length ≤ 100000) (hbase : B ≤ w.heap.size) :
    ∃ a' c' w', (Builtin.append_ #[71, 71] ty #[v, y]).run Try.prog w = .ok (.slice a' (D.length + E.length) c') w' ∧ XRow B w' (.slice a' (D.length + E.length) c') (D ++ E) ∧ w.grownBy w' v.ownBlock ∧ ((Value.slice a' (D.length + E.length) c').ownBlock = v.ownBlock ∨ (Value.slice a' (D.length + E.length) c').ownBlock = some w.heap.size) := by
  obtain ⟨i0, hi, hz0, hz1, hz2⟩ := info_parts conf_zero
  obtain ⟨ps, h1, h2, h3⟩ := hv
  obtain ⟨ya, yc, rfl, hc, hm, hn, hr⟩ := id hy
  have hpl : ps.length = D.length := by rw [← h2, List.length_map]
  rcases ya with _ | ad
  · have h0 := hn rfl
    subst h0
    obtain rfl : E = [] := List.eq_nil_of_length_eq_zero (by omega)
    obtain ⟨va, vc, rfl⟩ := h1.form
    have hrun := run_append_owned_none w B 71 ty 84 i0 5 Try.underlying71 hi (.slice va ps.length vc) ps.length _ h1
    rw [hpl] at hrun h1 h3 ⊢
    rw [List.length_nil, Nat.add_zero, List.append_nil]
    exact ⟨va, vc, w, hrun, ⟨ps, h1, h2, h3⟩, ⟨rfl, rfl, rfl, Nat.le_refl _, fun _ _ _ => rfl⟩, .inl rfl⟩
  · by_cases hE : E.length = 0
    · obtain rfl : E = [] := List.eq_nil_of_length_eq_zero hE
      obtain ⟨v', w', hrun, g2, g3, _, g5⟩ := run_append_own_at (P := Try.prog) w B 71 ty 84 i0 _ 5 56 Try.underlying71 hi hz0 hz1 hz2 rfl (by decide) v ps.length _ h1 ad 0 yc [] (by simp) (fun j u h => by simp at h) (fun u h => by cases h) (by unfold maxLen; omega) (by omega) hbase
      rw [List.append_nil, Nat.add_zero] at g2
      have g2' : KOwn B w' v' ps := g2
      obtain ⟨va, vc, rfl⟩ := g2'.form
      rw [hpl] at g2' g5
      have hk : Kept (fun k => v.ownBlock = some k) w w' := (Kept.refl _ w).grown g3 (fun k hk => .inl hk)
      rw [List.length_nil, Nat.add_zero, List.append_nil]
      rw [hpl] at hrun
      refine ⟨va, vc, w', hrun, ⟨ps, g2', h2, fun p hp => ?_⟩, g3, g5⟩
      refine ⟨(((h3 p hp).1.mono (G := fun k => (B ≤ k ∧ v.ownBlock ≠ some k) ∧ k < w.heap.size) (fun k hk h => ⟨h, hk⟩)).kept hk (fun k _ h e => h.1.2 e)).mono (fun k _ h => ⟨h.1.1, fun e => ?_⟩), (h3 p hp).2⟩
      rcases g5 with g5 | g5
      · exact h.1.2 (g5 ▸ e)
      · rw [g5] at e
        injection e with e
        have := h.2
        omega
    · obtain ⟨b, o, ha, hb, hlt, hcells⟩ := hr (by omega)
      injection ha with ha
      subst ha
      obtain ⟨qs, q1, q2, q3⟩ := cfs_vals E o hcells
      have hql : qs.length = E.length := by rw [← q1, List.length_map]
      obtain ⟨v', w', hrun, g2, g3, _, g5⟩ := run_append_own_at (P := Try.prog) w B 71 ty 84 i0 _ 5 56 Try.underlying71 hi hz0 hz1 hz2 rfl (by decide) v ps.length _ h1 ⟨b, o, none⟩ E.length yc (kc qs) (by rw [kc_len, hql]) (fun j u h => by
        have hadd : (⟨b, o, none⟩ : Addr).add j = ⟨b, o + j, none⟩ := by unfold Addr.add; split <;> simp_all
        rw [hadd]
        exact q3 j u h) (by
        intro x hx
        simp only [kc, List.mem_flatMap] at hx
        obtain ⟨p, hp, hx⟩ := hx
        obtain ⟨pa, pc, hpv, _⟩ := (q2 p hp).1
        simp only [List.mem_cons, List.not_mem_nil, or_false] at hx
        rcases hx with rfl | rfl | rfl | rfl | rfl
        · rfl
        · rfl
        · rw [hpv]; rfl
        · rfl
        · rfl) (by unfold maxLen; omega) (by omega) hbase
      have g2' : KOwn B w' v' (ps ++ qs) := by
        unfold KOwn
        rw [kc_app, List.length_append, hql]
        exact g2
      obtain ⟨va, vc, e⟩ := g2'.form
      rw [List.length_append, hpl, hql] at e
      subst e
      have hk : Kept (fun k => v.ownBlock = some k) w w' := (Kept.refl _ w).grown g3 (fun k hk => .inl hk)
      have hnew : ∀ k, k < w.heap.size → v.ownBlock ≠ some k → (Value.slice va (D.length + E.length) vc).ownBlock ≠ some k := fun k hkl hne e => by
        rcases g5 with h | h
        · exact hne (h ▸ e)
        · rw [h] at e
          injection e with e
          omega
      refine ⟨va, vc, w', hrun, ⟨ps ++ qs, g2', by rw [List.map_append, h2, q1], fun p hp => ?_⟩, g3, g5⟩
      rcases List.mem_append.1 hp with hp | hp
      · exact ⟨(((h3 p hp).1.mono (G := fun k => (B ≤ k ∧ v.ownBlock ≠ some k) ∧ k < w.heap.size) (fun k hk h => ⟨h, hk⟩)).kept hk (fun k _ h e => h.1.2 e)).mono (fun k _ h => ⟨h.1.1, hnew k h.2 h.1.2⟩), (h3 p hp).2⟩
      · exact ⟨(((q2 p hp).1.mono (G := fun k => F k ∧ k < w.heap.size) (fun k hk h => ⟨h, hk⟩)).kept hk (fun k _ h e => (hF k h.1).2 e)).mono (fun k _ h => ⟨(hF k h.1).1, hnew k h.2 (hF k h.1).2⟩), (q2 p hp).2⟩
theorem wpList_append_x (w : World) {ops : Array Oper} {rest : List Oper} {o : Oper} {a : Act} {Q : Exit → Act → World → Prop} (hgd : o.guard = none) (s x : Operand)
    (ho : o.op = .call { callee := .builtin .append, args := #[s, x], argTypes := #[71, 71] })
    (B : Nat) (v y : Value) (D E : List Cf) (hs : a.eval s = v) (hx : a.eval x = y) (hv : XRow B w v D) (F : Nat → Prop) (hy : CfsAt w F y E) (hF : ∀ k, F k → B ≤ k ∧ v.ownBlock ≠ some k) (hl : D.length + E.length ≤ 100000) (hbase : B ≤ w.heap.size)
    (h : ∀ a' c' w', XRow B w' (.slice a' (D.length + E.length) c') (D ++ E) → w.grownBy w' v.ownBlock → ((Value.slice a' (D.length + E.length) c').ownBlock = v.ownBlock ∨ (Value.slice a' (D.length + E.length) c').ownBlock = some w.heap.size) → wpList Try.prog ops Q rest (a.put o.dst (.slice a' (D.length + E.length) c')) w') : wpList Try.prog ops Q (o :: rest) a w :=
  wpList_plain hgd fun K hK => by
    obtain ⟨a', c', w', hrun, h2, h3, h4⟩ := run_append_x w B o.type v y D E hv F hy hF hl hbase
    unfold Oper.wp execOp
    simp only [ho, resolve, invoke, builtin, Sem.run_bind, Sem.run_pure, Result.andThen_ok, List.map_toArray, List.map_cons, List.map_nil, hs, hx, hrun]
    exact hK _ _ (h a' c' w' h2 h3 h4)
/-- A log that knows L, and began with l0; F: where its configurations lie. -/
structure LkAt (w : World) (F : Nat → Prop) (g bm : Nat) (L : List Vt) (n : Nat) (l0 : List Cf) : Prop where
  log : ∃ dn a c, LogAt w F g bm L n dn a c (runC l0 (L.take n)).2
  lead : LeadIs L n
  b0 : ∀ v ∈ L, v.b = 0
theorem LkAt.kept {S : Nat → Prop} {w w' : World} {F : Nat → Prop} {g bm : Nat} {L : List Vt} {n : Nat} {l0 : List Cf} (h : LkAt w F g bm L n l0) (hk : Kept S w w') (hg : ¬ S g) (hb : ¬ S bm) (hs : ∀ k, k < w.heap.size → F k → ¬ S k) : LkAt w' F g bm L n l0 := by
  obtain ⟨⟨dn, a, c, h1⟩, h2, h3⟩ := h
  exact ⟨⟨dn, a, c, h1.kept hk hg hb hs⟩, h2, h3⟩
theorem LkAt.no {w w' : World} {F : Nat → Prop} {g bm : Nat} {L : List Vt} {n : Nat} {l0 : List Cf} (h : LkAt w F g bm L n l0) (hk : Kept NoB w w') : LkAt w' F g bm L n l0 := h.kept hk (fun h => h) (fun h => h) (fun _ _ _ h => h)
theorem LkAt.lt {w : World} {F : Nat → Prop} {g bm : Nat} {L : List Vt} {n : Nat} {l0 : List Cf} (h : LkAt w F g bm L n l0) : g < w.heap.size ∧ bm < w.heap.size ∧ bm ≠ g := by
  obtain ⟨dn, a, c, h1⟩ := h.log
  exact h1.lt
theorem LkAt.known {w : World} {F : Nat → Prop} {g bm : Nat} {L : List Vt} {n : Nat} {l0 : List Cf} (h : LkAt w F g bm L n l0) : L.length ≤ 512 ∧ Srt L ∧ ∀ v ∈ L, VtOk v ∧ Chk v.k v.ch v.ep v.nd 0 := by
  obtain ⟨dn, a, c, h1⟩ := h.log
  exact ⟨h1.known, h1.map.1, h1.ok⟩
/-- What is learned, and may be. -/
def LkE (F : Nat → Prop) (g bm : Nat) (L L2 : List Vt) (n m : Nat) (l0 : List Cf) (w : World) (e : Ending) (w' : World) : Prop :=
  ∃ (D : List Cf) (oa : Option Addr) (oc : Nat) (G : Nat → Prop), e = .returned (.tuple #[.slice oa D.length oc, .int .i64 0]) ∧ (runC l0 (L2.take m)).1 = (runC l0 (L.take n)).1 ++ D ∧ CfsAt w' (fun k => w.heap.size ≤ k ∧ Wr w' k ∧ ¬ G k) (.slice oa D.length oc) D ∧ LkAt w' (fun k => G k ∧ (F k ∨ w.heap.size ≤ k)) g bm L2 m l0 ∧ Kept (LB g bm) w w'
def zv (v : Vt) : Vt := ⟨v.s, 0, v.k, v.ch, v.ep, v.nd⟩
theorem one_learn (w : World) (F : Nat → Prop) (g bm : Nat) (L : List Vt) (n m : Nat) (l0 : List Cf) (h : LkAt w F g bm L n l0) (v : Vt) (hep : 0 ≤ v.ep) (hep2 : v.ep ≤ 18446744073709551615) (hX : lrnX L v.s (chk v.k v.ch v.ep v.nd) v.k v.ch v.ep v.nd = 0) (hm : LeadIs (putV L (zv v)) m) :
    Calls Try.prog 34 #[.pointer (some ⟨g, 0, none⟩), .int .i64 v.s, .agg #[.int .i64 v.k, .int .i64 v.ch, .int .u64 v.ep, .int .i64 v.nd]] w (LkE F g bm L (putV L (zv v)) n m l0 w) := by
  obtain ⟨⟨dn, a, c, hlog⟩, hlead, hb0⟩ := h
  obtain ⟨vs0, vb, k, ch, ep, nd⟩ := v
  simp only at hep hep2 hX
  unfold zv at hm ⊢
  simp only at hm ⊢
  have hsrt := hlog.map.1
  have hX0 := hX
  have hs0 : 0 ≤ vs0 ∧ vs0 < 512 := by
    unfold lrnX at hX
    split at hX
    · omega
    · omega
  have hav : atV L vs0 = none ∨ atV L vs0 = some ⟨vs0, 0, k, ch, ep, nd⟩ := by
    unfold lrnX at hX
    split at hX
    · omega
    · split at hX
      · contradiction
      · revert hX
        cases hat : atV L vs0 with
        | none => exact fun _ => .inl rfl
        | some v =>
          intro hX
          right
          have hvb := hb0 v (atV_slot hat).2
          have hvs := (atV_slot hat).1
          obtain ⟨v0, v1, v2, v3, v4, v5⟩ := v
          simp only at hX hvb hvs
          split at hX
          · rename_i he
            obtain ⟨rfl, rfl, rfl, rfl⟩ := he
            subst hvb hvs
            rfl
          · omega
  obtain ⟨hnm, hrun⟩ := came_put (v := ⟨vs0, 0, k, ch, ep, nd⟩) l0 hsrt hs0.1 hlead hm hav
  have hsr2 : Srt (putV L ⟨vs0, 0, k, ch, ep, nd⟩) := putV_srt _ hsrt
  have hbb : ∀ v ∈ putV L ⟨vs0, 0, k, ch, ep, nd⟩, 0 ≤ v.s ∧ v.s < 512 := fun v hv => by
    rcases putV_mem hv with rfl | hv
    · exact hs0
    · exact ⟨(hlog.ok v hv).1.1, (hlog.ok v hv).1.2.1⟩
  refine (LLearn_any w F g bm L n dn a c _ vs0 _ k ch ep nd hlog (chk_is k ch ep nd) hep hep2).mono fun e w'' hle => ?_
  rcases hle with ⟨hbad, _⟩ | ⟨_, vs, oa, oc, a', c', G', h1, h2, h3, h4, h5, h6⟩
  · exact absurd hX0 hbad
  · obtain ⟨hvl, hvs⟩ := vs_is hsr2 hbb hm hnm h3 h4
    rw [← hvs] at hrun
    refine ⟨_, oa, oc, G', h1, by rw [hrun], h2, ⟨⟨dn + ((runC (runC l0 (L.take n)).2 vs).1.length : Int), a', c', ?_⟩, hm, fun v hv => ?_⟩, h6⟩
    · rw [show (n : Int) + (vs.length : Int) = (m : Int) by omega] at h5
      rw [hrun]
      exact h5
    · rcases putV_mem hv with rfl | hv
      · rfl
      · exact hb0 v hv
end Go.Proofs.Ytidhaofojcdbaaa
namespace Go.Proofs.Ytidhaofojcdbaaa
open Go.RowKit
set_option linter.unusedVariables false

/-- What is known of the first j votes. -/
def kn (it : Nat → Vt) : Nat → List Vt
  | 0 => []
  | j + 1 => putV (kn it j) (zv (it j))
noncomputable def lrn (L : List Vt) (v : Vt) : Int := lrnX L v.s (chk v.k v.ch v.ep v.nd) v.k v.ch v.ep v.nd
theorem kn_len (it : Nat → Vt) (j : Nat) : (kn it j).length ≤ j := by
  induction j with
  | zero => exact Nat.le_refl _
  | succ j ih =>
    have := (putV_len (L := kn it j) (zv (it j))).1
    show (putV (kn it j) (zv (it j))).length ≤ j + 1
    omega
theorem lrn_ok {L : List Vt} {v : Vt} (h : lrn L v = 0) : 0 ≤ v.s ∧ v.s < 512 ∧ Chk v.k v.ch v.ep v.nd 0 := by
  unfold lrn lrnX at h
  split at h
  · omega
  · split at h
    · contradiction
    · rename_i h1 h2
      have := chk_is v.k v.ch v.ep v.nd
      rw [show chk v.k v.ch v.ep v.nd = 0 by omega] at this
      exact ⟨by omega, by omega, this⟩
structure KnOk (L : List Vt) : Prop where
  srt : Srt L
  b0 : ∀ v ∈ L, v.b = 0
  ok : ∀ v ∈ L, VtOk v ∧ Chk v.k v.ch v.ep v.nd 0
theorem KnOk.nil : KnOk [] := ⟨List.Pairwise.nil, (fun v h => by cases h), fun v h => by cases h⟩
theorem KnOk.put {L : List Vt} {v : Vt} (h : KnOk L) (hl : lrn L v = 0) (h0 : 0 ≤ v.ep) (h1 : v.ep ≤ 18446744073709551615) : KnOk (putV L (zv v)) := by
  obtain ⟨s0, s1, hc⟩ := lrn_ok hl
  refine ⟨putV_srt _ h.srt, fun u hu => ?_, fun u hu => ?_⟩
  · rcases putV_mem hu with rfl | hu
    · rfl
    · exact h.b0 u hu
  · rcases putV_mem hu with rfl | hu
    · exact ⟨⟨s0, s1, by show (0 : Int) ≤ 0; decide, by show (0 : Int) ≤ 18446744073709551615; decide, h0, h1⟩, hc⟩
    · exact h.ok u hu
theorem putV_snoc {L : List Vt} {v : Vt} (h : ∀ x ∈ L, x.s < v.s) : putV L v = L ++ [v] := by
  induction L with
  | nil => rfl
  | cons x r ih =>
    unfold putV
    rw [if_pos (h x (List.mem_cons_self)), ih (fun y hy => h y (List.mem_cons_of_mem _ hy))]
    rfl
theorem KnOk.take {L : List Vt} (h : KnOk L) (i : Nat) (hi : i < L.length) : lrn (L.take i) L[i] = 0 ∧ putV (L.take i) (zv L[i]) = L.take (i + 1) := by
  have hlt : ∀ x ∈ L.take i, x.s < L[i].s := fun x hx => by
    obtain ⟨j, hj, rfl⟩ := List.getElem_of_mem hx
    rw [List.length_take] at hj
    rw [List.getElem_take]
    exact List.pairwise_iff_getElem.1 h.srt j i (by omega) hi (by omega)
  have hz : zv L[i] = L[i] := by
    have := h.b0 _ (List.getElem_mem hi)
    unfold zv
    rw [← this]
  obtain ⟨hv, hc⟩ := h.ok _ (List.getElem_mem hi)
  constructor
  · unfold lrn lrnX
    unfold VtOk at hv
    rw [if_neg (by omega), (chk_is _ _ _ _).one hc, if_neg (by omega), atV_none (fun x hx => by have := hlt x hx; omega)]
  · rw [hz, putV_snoc hlt, List.take_succ_eq_append_getElem hi]
/-- The chapter's Learn, with no configurations. -/
def RsE (F : Nat → Prop) (L : List Vt) (v : Vt) (w : World) (e : Ending) (w' : World) : Prop :=
  ∃ (L2 : List Vt) (ka : Option Addr) (kc : Nat) (oa : Option Addr) (on oc : Nat), e = .returned (.tuple #[.agg #[.slice ka L2.length kc, .slice none 0 0], .slice oa on oc, .int .i64 (lrn L v)]) ∧ VRd w' (fun i => F i ∨ w.heap.size ≤ i) (.slice ka L2.length kc) L2 ∧ (lrn L v = 0 → L2 = putV L (zv v)) ∧ Kept NoB w w'
theorem r_learn (w : World) (F : Nat → Prop) (L : List Vt) (ka : Option Addr) (kc : Nat) (v : Vt) (h : VRd w F (.slice ka L.length kc) L) (hl : L.length ≤ 5000) (hk : KnOk L) (h0 : 0 ≤ v.ep) :
    Calls Try.prog 33 #[.agg #[.slice ka L.length kc, .slice none 0 0], .int .i64 v.s, .agg #[.int .i64 v.k, .int .i64 v.ch, .int .u64 v.ep, .int .i64 v.nd]] w (RsE F L v w) := by
  obtain ⟨n, hn⟩ := lead_ex L
  have hlt : VRd w (fun i => F i ∧ i < w.heap.size) (.slice ka L.length kc) L := h.mono (fun i hi hF => ⟨hF, hi⟩)
  refine (RLearn_any w (fun i => F i ∧ i < w.heap.size) ka none kc 0 L [] n v.s _ v.k v.ch v.ep v.nd ⟨hlt, CfsAt.nil _ _⟩ hl (by simp) (fun i hi => hi.2) (fun u hu => ⟨(hk.ok u hu).2, (hk.ok u hu).1.2.2.2.2.1⟩) hk.b0 hk.srt hn (chk_is v.k v.ch v.ep v.nd) h0).mono fun e w' hle => ?_
  rcases hle with ⟨hx, h1, h2⟩ | ⟨hx, L', D, ka', kc', oa, oc, m, h1, h2, h3, h4, h5, h6, h7, h8, h9⟩
  · exact ⟨L, ka, kc, none, 0, 0, h1, (h.no h2).mono (fun i _ hF => .inl hF), fun h0 => absurd h0 hx, h2⟩
  · refine ⟨L', ka', kc', oa, D.length, oc, ?_, h4.mono (fun i _ hi => .inr hi), fun _ => h1, h9⟩
    rw [show lrn L v = 0 from hx]
    exact h3
theorem LkAt.cut {w : World} {F : Nat → Prop} {g bm : Nat} {L : List Vt} {n : Nat} {l0 : List Cf} (h : LkAt w F g bm L n l0) : LkAt w (fun k => F k ∧ k < w.heap.size) g bm L n l0 := by
  obtain ⟨⟨dn, a, c, h1⟩, h2, h3⟩ := h
  exact ⟨⟨dn, a, c, h1.cut⟩, h2, h3⟩
theorem LkAt.mono_ {w : World} {F G : Nat → Prop} {g bm : Nat} {L : List Vt} {n : Nat} {l0 : List Cf} (h : LkAt w F g bm L n l0) (hG : ∀ k, F k → G k) (hs : ∀ k, G k → NL g bm k) : LkAt w G g bm L n l0 := by
  obtain ⟨⟨dn, a, c, h1⟩, h2, h3⟩ := h
  exact ⟨⟨dn, a, c, h1.mono_ hG hs⟩, h2, h3⟩
/-- A log, and a row of what came of it: apart from one another, and from blocks of S. -/
structure LxAt (w : World) (B : Nat) (S : Nat → Prop) (g bm : Nat) (L : List Vt) (n : Nat) (l0 : List Cf) (v : Value) : Prop where
  at_ : ∃ G, LkAt w G g bm L n l0 ∧ (∀ k, G k → k < w.heap.size ∧ ¬ S k ∧ v.ownBlock ≠ some k)
  row : XRow B w v (runC l0 (L.take n)).1
  gb : g < B ∧ bm < B ∧ bm ≠ g
  sb : ∀ k, S k → k < B
  bw : B ≤ w.heap.size
  few : l0.length ≤ 1000
theorem LxAt.no {w w' : World} {B : Nat} {S : Nat → Prop} {g bm : Nat} {L : List Vt} {n : Nat} {l0 : List Cf} {v : Value} (h : LxAt w B S g bm L n l0 v) (hk : Kept NoB w w') : LxAt w' B S g bm L n l0 v := by
  obtain ⟨G, h1, h2⟩ := h.at_
  exact ⟨⟨G, h1.no hk, fun k hG => ⟨Nat.lt_of_lt_of_le (h2 k hG).1 hk.size, (h2 k hG).2⟩⟩, h.row.kept hk (fun _ _ h => h), h.gb, h.sb, Nat.le_trans h.bw hk.size, h.few⟩
theorem LxAt.keptS {w w' : World} {B : Nat} {S : Nat → Prop} {g bm : Nat} {L : List Vt} {n : Nat} {l0 : List Cf} {v : Value} (h : LxAt w B S g bm L n l0 v) (hk : Kept S w w') (hg : ¬ S g) (hb : ¬ S bm) : LxAt w' B S g bm L n l0 v := by
  obtain ⟨G, h1, h2⟩ := h.at_
  exact ⟨⟨G, h1.kept hk hg hb (fun k _ hG => (h2 k hG).2.1), fun k hG => ⟨Nat.lt_of_lt_of_le (h2 k hG).1 hk.size, (h2 k hG).2⟩⟩, h.row.kept hk (fun k hB e => by have := h.sb k e; omega), h.gb, h.sb, Nat.le_trans h.bw hk.size, h.few⟩
/-- Behind Learn: the log knows one more; what came of it is yet to be put into the row. -/
structure LyAt (w : World) (B : Nat) (S : Nat → Prop) (g bm : Nat) (L2 : List Vt) (m : Nat) (l0 : List Cf) (v y : Value) (C D : List Cf) : Prop where
  at_ : ∃ G, LkAt w G g bm L2 m l0 ∧ (∀ k, G k → k < w.heap.size ∧ ¬ S k ∧ v.ownBlock ≠ some k)
  row : XRow B w v C
  came : CfsAt w (fun k => B ≤ k ∧ v.ownBlock ≠ some k) y D
  all : (runC l0 (L2.take m)).1 = C ++ D
  gb : g < B ∧ bm < B ∧ bm ≠ g
  sb : ∀ k, S k → k < B
  bw : B ≤ w.heap.size
  few : l0.length ≤ 1000
theorem LyAt.no {w w' : World} {B : Nat} {S : Nat → Prop} {g bm : Nat} {L2 : List Vt} {m : Nat} {l0 : List Cf} {v y : Value} {C D : List Cf} (h : LyAt w B S g bm L2 m l0 v y C D) (hk : Kept NoB w w') : LyAt w' B S g bm L2 m l0 v y C D := by
  obtain ⟨G, h1, h2⟩ := h.at_
  exact ⟨⟨G, h1.no hk, fun k hG => ⟨Nat.lt_of_lt_of_le (h2 k hG).1 hk.size, (h2 k hG).2⟩⟩, h.row.kept hk (fun _ _ h => h), h.came.kept hk (fun _ _ _ h => h), h.all, h.gb, h.sb, Nat.le_trans h.bw hk.size, h.few⟩
def LzE (B : Nat) (S : Nat → Prop) (g bm : Nat) (L2 : List Vt) (m : Nat) (l0 : List Cf) (v : Value) (C : List Cf) (w : World) (e : Ending) (w' : World) : Prop :=
  ∃ (D : List Cf) (oa : Option Addr) (oc : Nat), e = .returned (.tuple #[.slice oa D.length oc, .int .i64 0]) ∧ LyAt w' B S g bm L2 m l0 v (.slice oa D.length oc) C D ∧ Kept (LB g bm) w w'
theorem x_learn (w : World) (B : Nat) (S : Nat → Prop) (g bm : Nat) (L : List Vt) (n m : Nat) (l0 : List Cf) (xv : Value) (h : LxAt w B S g bm L n l0 xv) (v : Vt) (hep : 0 ≤ v.ep) (hep2 : v.ep ≤ 18446744073709551615) (hX : lrn L v = 0) (hm : LeadIs (putV L (zv v)) m) :
    Calls Try.prog 34 #[.pointer (some ⟨g, 0, none⟩), .int .i64 v.s, .agg #[.int .i64 v.k, .int .i64 v.ch, .int .u64 v.ep, .int .i64 v.nd]] w (LzE B S g bm (putV L (zv v)) m l0 xv (runC l0 (L.take n)).1 w) := by
  obtain ⟨G, h1, h2⟩ := h.at_
  have hgb := h.gb
  have hbw := h.bw
  refine (one_learn w G g bm L n m l0 h1 v hep hep2 hX hm).mono fun e w' ⟨D, oa, oc, G', e1, e2, e3, e4, e5⟩ => ?_
  have hsz := e5.size
  have hng : ∀ k, B ≤ k → ¬ LB g bm k := fun k hk e => by rcases e with e | e <;> omega
  refine ⟨D, oa, oc, e1, ⟨⟨_, e4.cut, fun k hk => ⟨hk.2, ?_⟩⟩, h.row.kept e5 hng, e3.mono (fun k _ hk => ⟨by have := hk.1; omega, fun e => by have := h.row.own_lt e; have := hk.1; omega⟩), e2, hgb, h.sb, by omega, h.few⟩, e5⟩
  rcases hk.1.2 with hG | hn
  · exact (h2 k hG).2
  · exact ⟨fun e => by have := h.sb k e; omega, fun e => by have := h.row.own_lt e; omega⟩
/-- append of what came. -/
theorem LyAt.app {w w' : World} {B : Nat} {S : Nat → Prop} {g bm : Nat} {L2 : List Vt} {m : Nat} {l0 : List Cf} {v y v' : Value} {C D : List Cf} (h : LyAt w B S g bm L2 m l0 v y C D) (hr : XRow B w' v' (C ++ D)) (hg : w.grownBy w' v.ownBlock) (ho : v'.ownBlock = v.ownBlock ∨ v'.ownBlock = some w.heap.size) :
    LxAt w' B S g bm L2 m l0 v' ∧ Kept (fun k => B ≤ k) w w' := by
  obtain ⟨G, h1, h2⟩ := h.at_
  have hk : Kept (fun k => v.ownBlock = some k) w w' := (Kept.refl _ w).grown hg (fun k hk => .inl hk)
  have hgb := h.gb
  have hlt : ∀ k, v.ownBlock = some k → B ≤ k := fun k e => (h.row.own_lt e).1
  refine ⟨⟨⟨G, h1.kept hk (fun e => by have := hlt _ e; omega) (fun e => by have := hlt _ e; omega) (fun k _ hG e => (h2 k hG).2.2 e), fun k hG => ⟨Nat.lt_of_lt_of_le (h2 k hG).1 hk.size, (h2 k hG).2.1, fun e => ?_⟩⟩, by rw [h.all]; exact hr, hgb, h.sb, Nat.le_trans h.bw hk.size, h.few⟩, hk.mono (fun k _ e => hlt k e)⟩
  rcases ho with ho | ho
  · rw [ho] at e
    exact (h2 k hG).2.2 e
  · rw [ho] at e
    injection e with e
    have := (h2 k hG).1
    omega
end Go.Proofs.Ytidhaofojcdbaaa
