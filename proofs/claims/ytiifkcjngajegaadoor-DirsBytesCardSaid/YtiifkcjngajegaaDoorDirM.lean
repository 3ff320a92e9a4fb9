/-
  Layer 29: Put of the package.
-/
import Derived.Test.YtiifkcjngajegaaDoorDirL
namespace Go.Proofs.YtiifkcjngajegaaDoor
open Go.RowKit
set_option linter.unusedVariables false

theorem zer29 (nm : List UInt8) (h : nm.length ≤ 11) : splice (#[Value.int .u8 0, Value.int .u8 0, Value.int .u8 0, Value.int .u8 0, Value.int .u8 0, Value.int .u8 0, Value.int .u8 0, Value.int .u8 0, Value.int .u8 0, Value.int .u8 0, Value.int .u8 0] : Array Value).toList 0 (vb29 nm) = (pad29 nm).map (Value.int .u8) := splice_pad29 nm h
set_option maxRecDepth 100000 in
set_option maxHeartbeats 4000000 in
theorem vPut29_bad (v : Value) (l : List En) (F : Nat → Prop) (w : World) (h : ESl w F v l) (hkeys : ∀ j, j < l.length → (eth l j).1.length ≤ 1000000) (hz : chkE l ≠ 0) :
    Calls Tryd.prog 11 #[v] w (BErr29 (chkE l) [] w) := by
  have HP := Lib.hid h
  have HC := Lib.hid (vCheck29_any v l _ w h hkeys)
  obtain ⟨er, her⟩ : ∃ er, er = chkE l := ⟨_, rfl⟩
  rw [← her] at HC hz ⊢
  clear h hkeys her
  have g1 : (er != 0) = true := bne_iff_ne.2 hz
  clear hz
  go_enter Tryd.func11, Tryd.ntmps11
  go_wp2_with (go_at_call 9; refine HC.out.mono ?_; rintro e w1 ⟨rfl, hk⟩; have HK1 := Lib.hid hk; have HP1 := Lib.hid (HP.out.no hk); clear hk)
  go_ret2
  exact BErr29.mk (BSl.nil _ (fun _ => False)) (fun _ h => h.elim) HK1.out
def EPutRel (w1 : World) (l : List En) (iv : Value) (wr : World) : Prop :=
  ∃ k : Nat, k ≤ l.length ∧ iv = .int .i64 k ∧ PuD w1 NoB w1.heap.size (fun i => i < w1.heap.size) (bytEs (l.take k)) wr
set_option maxRecDepth 100000 in
set_option maxHeartbeats 20000000 in
theorem vPut29_ok (v : Value) (l : List En) (F : Nat → Prop) (w : World) (h : ESl w F v l) (hkeys : ∀ j, j < l.length → (eth l j).1.length ≤ 1000000) (hz : chkE l = 0) :
    Calls Tryd.prog 11 #[v] w (BErr29 0 (bytEs l) w) := by
  obtain ⟨hl20, _, hall⟩ := chkE_zero hz
  obtain ⟨a, c, rfl, hmax⟩ := h.form
  have HP := Lib.hid h
  have HC := Lib.hid (vCheck29_any _ l _ w h hkeys)
  rw [hz] at HC
  have HALL := Lib.hid hall
  have HQL := Lib.hid (bytEs_len l (fun p hp => (hall p hp).1.1.2))
  clear h hkeys hz hall
  go_enter Tryd.func11, Tryd.ntmps11
  go_wp2_with (go_at_call 9; refine HC.out.mono ?_; rintro e w1 ⟨rfl, hk⟩; have HK1 := Lib.hid hk; have HP1 := Lib.hid (HP.out.no hk); clear hk)
  refine (New_any 512 w1 (by omega)).mono ?_
  rintro e w2 ⟨rfl, ho, hk⟩
  rw [show max (512 : Int) 0 = 512 from rfl] at ho
  have HP0 : Hid (PuD w1 NoB w1.heap.size (fun i => i < w1.heap.size) (bytEs (l.take 0)) w2) := Lib.hid ⟨fun i => w1.heap.size ≤ i ∧ i < w2.heap.size, ho.mono (fun k hk h => ⟨h, hk⟩), fun i hi => ⟨.inr hi.1, hi.2⟩, fun k hk' => ⟨fun h => by omega, by have := hk.size; omega⟩, hk⟩
  clear ho hk
  go_wp2_with fail
  go_loopw [17] (EPutRel w1 l) (fun i _ => l.length - (RowKit.intOf i).toNat)
  case atStart => exact ⟨0, Nat.zero_le _, rfl, HP0.out⟩
  case round =>
    obtain ⟨k, hk, rfl, hst⟩ := hrel
    have HST := Lib.hid hst
    have hkp := hst.keeps
    by_cases hlt : k < l.length
    · obtain ⟨bb, oo, ha, _, _, e0, e1⟩ := (HP1.out.no hkp).at_ hlt
      subst ha
      obtain ⟨hnm, hn1, hn2⟩ := HALL.out _ (eth_mem hlt)
      have hbs : bytEs (l.take (k + 1)) = bytEs (l.take k) ++ be (eth l k).1.length 1 ++ pad29 (eth l k).1 ++ be (eth l k).2.toNat 4 := by rw [etake_snoc hlt, bytEs_snoc]; unfold bytE; simp only [List.append_assoc]
      have hlen : (bytEs (l.take k)).length = 16 * k := by
        rw [bytEs_len _ (fun p hp => (HALL.out p (List.mem_of_mem_take hp)).1.1.2), List.length_take, Nat.min_eq_left hk]
      obtain ⟨x, hx⟩ : ∃ x, x = eth l k := ⟨_, rfl⟩
      rw [← hx] at e0 e1 hnm hn1 hn2 hbs
      obtain ⟨nm, nd⟩ := x
      simp only at e0 e1 hnm hn1 hn2 hbs
      have hn11 := hnm.1.2
      have HBS := Lib.hid hbs
      obtain ⟨B, hB⟩ : ∃ B, B = bytEs (l.take k) := ⟨_, rfl⟩
      rw [← hB] at HBS HST hlen
      have hPD := pad29_len nm hn11
      obtain ⟨sx, hsx⟩ : ∃ sx : ByteArray, sx = ⟨nm.toArray⟩ := ⟨_, rfl⟩
      rw [← hsx] at e0
      have HSX := Lib.hid hsx
      have hss : sx.size = nm.length := by rw [hsx]; show nm.toArray.size = _; simp
      have hka := (Kept.refl NoB wr).alloc (.cells #[.string sx, .int .i64 nd] 47)
      have hbx := heap_alloc_new wr (.cells #[.string sx, .int .i64 nd] 47)
      have HBX := Lib.hid hbx
      have HPA := Lib.hid (HST.out.add hka (Nat.le_refl _) (heap_lt hbx))
      obtain ⟨WA, hWA⟩ : ∃ WA, WA = wr.alloc (.cells #[.string sx, .int .i64 nd] 47) := ⟨_, rfl⟩
      rw [← hWA] at HBX HPA
      have hsz : WA.heap.size = wr.heap.size + 1 := by rw [hWA]; simp
      have hkb := (Kept.refl NoB WA).alloc (.cells #[.int .u8 0, .int .u8 0, .int .u8 0, .int .u8 0, .int .u8 0, .int .u8 0, .int .u8 0, .int .u8 0, .int .u8 0, .int .u8 0, .int .u8 0] 68)
      have hbz := heap_alloc_new WA (.cells #[.int .u8 0, .int .u8 0, .int .u8 0, .int .u8 0, .int .u8 0, .int .u8 0, .int .u8 0, .int .u8 0, .int .u8 0, .int .u8 0, .int .u8 0] 68)
      rw [hsz] at hbz
      obtain ⟨WB, hWB⟩ : ∃ WB, WB = WA.alloc (.cells #[.int .u8 0, .int .u8 0, .int .u8 0, .int .u8 0, .int .u8 0, .int .u8 0, .int .u8 0, .int .u8 0, .int .u8 0, .int .u8 0, .int .u8 0] 68) := ⟨_, rfl⟩
      rw [← hWB] at hkb hbz
      have HBZ := Lib.hid hbz
      have HPB := Lib.hid (HPA.out.add hkb (by rw [hsz]; exact Nat.le_refl _) (heap_lt hbz))
      have HBY := Lib.hid (hkb.heap (fun h => h) HBX.out)
      have HW1 : Hid (w1.heap.size ≤ wr.heap.size) := Lib.hid hkp.size
      have wl : IntKind.u64.wrap (nm.length : Int) = (nm.length : Int) := IntWalk.u64_in _ (by omega)
      have wl2 : IntKind.u64.wrap nd = nd := IntWalk.u64_in _ (by omega)
      have hk0 : (0 : Int) ≤ (k : Int) := by omega
      have hk1 : (k : Int) < (l.length : Int) := by omega
      clear hst hkp hx hbs hB hka hbx hkb hbz hsx hnm hsz
      go_upto_region 9 with fail
      rw [← hWA, ← hWB]
      clear hWA hWB e0 e1
      obtain ⟨f0, f1⟩ := cell2_29 HBY.out
      go_region_law (refine step_copy_str29 rfl (.tmp 21) (.tmp 23) 29 9 rfl 5 (by kernel_rfl) (by kernel_rfl) (wr.heap.size + 1) 11 11 sx nm HSX.out rfl rfl _ 68 (by exact HBZ.out) hn11 (by exact hn11) ?_; intro w4 hg4 hk4)
      have HP4 := Lib.hid ((HPB.out.no (Kept.refl NoB WB).drew).own hk4.out (fun k hk => .inr hk) (fun k hk => by have := HW1.out; omega))
      have HBY4 := Lib.hid (hk4.out.heap (k := wr.heap.size) (fun h => by omega) (show WB.drew.heap[wr.heap.size]? = _ from HBY.out))
      have HARR := Lib.hid (arr29 (x := nm) (by rw [← zer29 nm hn11]; exact hg4.out) hn11)
      have hnn : (nm.length : Int).toNat = nm.length := by omega
      clear f0 f1 hg4 hk4
      obtain ⟨f0, f1⟩ := cell2_29 HBY4.out
      go_wp2_with fail
      refine (HP4.out.put (nm.length : Int) 1 (by omega) (by decide) (by decide) (by show (nm.length : Int).toNat < 256; omega) (by omega)).mono ?_
      rintro e p1 ⟨rfl, hp1, S1, hs1, hS1⟩
      rw [hnn] at hp1
      have HP5 := Lib.hid hp1
      have HBY5 := Lib.hid (hs1.heap (hS1 _ (.inl (.inr rfl))) HBY4.out)
      have HARR5 := Lib.hid (HARR.out.kept hs1 (fun k hk => hS1 k (.inr hk)))
      clear hp1 hs1 hS1 f0 f1 hnn
      obtain ⟨f0, f1⟩ := cell2_29 HBY5.out
      go_wp2_with fail
      refine (HP5.out.raw HARR5.out (fun k hk => .inr hk) (by rw [List.length_append, be_len, hPD]; omega)).mono ?_
      rintro e p2 ⟨rfl, hp2, S2, hs2, hS2⟩
      have HP6 := Lib.hid hp2
      have HBY6 := Lib.hid (hs2.heap (hS2 _ (.inl (.inr rfl))) HBY5.out)
      clear hp2 hs2 hS2 f0 f1
      obtain ⟨f0, f1⟩ := cell2_29 HBY6.out
      go_wp2_with fail
      refine (HP6.out.put nd 4 (by omega) (by decide) (by decide) (by show nd.toNat < 4294967296; omega) (by rw [List.length_append, List.length_append, be_len, hPD]; omega)).mono ?_
      rintro e p3 ⟨rfl, hp3, _⟩
      have HP7 := Lib.hid (hp3.less (Q := fun i => i < w1.heap.size) (fun k hk => .inl (.inl hk)))
      clear hp3 f0 f1
      go_wp2_with fail
      go_roundw
      case rel => exact ⟨k + 1, by omega, by go_num, by rw [HBS.out]; exact HP7.out⟩
      case measure => simp [RowKit.intOf]; omega
    · obtain rfl : k = l.length := by omega
      have HKZ := Lib.hid (HK1.out.trans hkp (fun _ _ h => h))
      have hbl : (bytEs l).length ≤ 1000000 := by have := HQL.out; omega
      obtain ⟨Fo, hfo⟩ := hst.out_
      rw [List.take_length] at hfo
      have HD := Lib.hid (Done_any w1.heap.size ⟨bytEs l, 512, 0⟩ Fo wr hfo hbl)
      clear hst hkp hfo hbl
      go_wp2_with fail
      refine HD.out.mono ?_
      rintro e w9 ⟨v9, rfl, hb9, hk9⟩
      have HB9 := Lib.hid hb9
      have HK9 := Lib.hid (HKZ.out.trans hk9 (fun _ _ h => h))
      have hwz := HKZ.out.size
      clear hb9 hk9
      go_wp2
      go_ret2
      exact BErr29.mk HB9.out (fun k hk => by omega) HK9.out
theorem vPut29_any (v : Value) (l : List En) (F : Nat → Prop) (w : World) (h : ESl w F v l) (hkeys : ∀ j, j < l.length → (eth l j).1.length ≤ 1000000) :
    Calls Tryd.prog 11 #[v] w (BErr29 (chkE l) (putE l) w) := by
  unfold putE
  by_cases hz : chkE l = 0
  · rw [if_pos hz, hz]; exact vPut29_ok v l F w h hkeys hz
  · rw [if_neg hz]; exact vPut29_bad v l F w h hkeys hz
end Go.Proofs.YtiifkcjngajegaaDoor
