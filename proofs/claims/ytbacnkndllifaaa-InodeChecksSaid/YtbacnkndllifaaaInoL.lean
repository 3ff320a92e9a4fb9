/-
  Package inode: Put.
-/
import Derived.Test.YtbacnkndllifaaaInoK
import Derived.Test.YtbacnkndllifaaaOutB
namespace Go.Proofs.Ytbacnkndllifaaa
open Go.RowKit
set_option linter.unusedVariables false

/-- A writer of at most 38 bytes that has these; its blocks are F's, or new, and none of P's. -/
def PuI (w : World) (F : Nat → Prop) (go : Nat) (P : Nat → Prop) (bs : List Int) (wr : World) : Prop :=
  ∃ Fo, OutAt wr Fo go ⟨bs, 38, 0⟩ ∧ (∀ i, Fo i → (F i ∨ w.heap.size ≤ i) ∧ i < wr.heap.size) ∧ (∀ k, P k → ¬ Fo k ∧ k < wr.heap.size) ∧ Kept F w wr
theorem PuI.no {w wr w' : World} {F P : Nat → Prop} {go : Nat} {bs : List Int} (h : PuI w F go P bs wr) (hk : Kept NoB wr w') : PuI w F go P bs w' := by
  obtain ⟨Fo, h1, h2, h3, h4⟩ := h
  exact ⟨Fo, h1.kept hk (fun _ _ h => h), fun i hi => ⟨(h2 i hi).1, Nat.lt_of_lt_of_le (h2 i hi).2 hk.size⟩, fun k hk' => ⟨(h3 k hk').1, Nat.lt_of_lt_of_le (h3 k hk').2 hk.size⟩, h4.trans hk (fun _ _ h => absurd h (fun h => h))⟩
theorem PuI.add {w wr w' : World} {F P : Nat → Prop} {go b : Nat} {bs : List Int} (h : PuI w F go P bs wr) (hk : Kept NoB wr w') (hb : wr.heap.size ≤ b) (hb' : b < w'.heap.size) : PuI w F go (fun k => P k ∨ k = b) bs w' := by
  obtain ⟨Fo, h1, h2, h3, h4⟩ := h
  refine ⟨Fo, h1.kept hk (fun _ _ h => h), fun i hi => ⟨(h2 i hi).1, Nat.lt_of_lt_of_le (h2 i hi).2 hk.size⟩, fun k hk' => ?_, h4.trans hk (fun _ _ h => absurd h (fun h => h))⟩
  rcases hk' with hk' | rfl
  · exact ⟨(h3 k hk').1, Nat.lt_of_lt_of_le (h3 k hk').2 hk.size⟩
  · exact ⟨fun hf => by have := (h2 _ hf).2; omega, hb'⟩
theorem PuI.less {w wr : World} {F P Q : Nat → Prop} {go : Nat} {bs : List Int} (h : PuI w F go P bs wr) (hq : ∀ k, Q k → P k) : PuI w F go Q bs wr := by
  obtain ⟨Fo, h1, h2, h3, h4⟩ := h
  exact ⟨Fo, h1, h2, fun k hk => h3 k (hq k hk), h4⟩
theorem put_fits28 (n : Int) (width : Nat) (h1 : 1 ≤ width) (h8 : width ≤ 8) (hn : n.toNat < 256 ^ width) : putErr n width = 0 := by
  unfold putErr
  rw [if_neg (by omega), Int.toNat_natCast, if_pos (Nat.div_eq_of_lt hn)]
theorem PuI.put {w wr : World} {F P : Nat → Prop} {go : Nat} {bs : List Int} (h : PuI w F go P bs wr) (n : Int) (width : Nat) (h0 : 0 ≤ n) (h1 : 1 ≤ width) (h8 : width ≤ 8) (hn : n.toNat < 256 ^ width) (hb : bs.length + width ≤ 38) :
    Calls Try.prog 60 #[.pointer (some ⟨go, 0, none⟩), .int .u64 n, .int .i64 width] wr fun r w' => r = .returned (.tuple #[]) ∧ PuI w F go P (bs ++ be n.toNat width) w' ∧ ∃ S, Kept S wr w' ∧ ∀ k, P k → ¬ S k := by
  obtain ⟨Fo, ho, h2, h3, h4⟩ := h
  refine (Put_any go ⟨bs, 38, 0⟩ n width Fo wr ho h0 (by show bs.length ≤ 1000000; omega)).mono ?_
  rintro r w' ⟨rfl, hO, hk⟩
  rw [put_fits28 n width h1 h8 hn, Int.toNat_natCast] at hO
  have he : (⟨bs, 38, 0⟩ : OSt).emit 0 (be n.toNat width) = ⟨bs ++ be n.toNat width, 38, 0⟩ := by
    unfold OSt.emit
    rw [if_pos rfl, if_pos rfl, if_pos (by rw [be_len]; show (width : Int) ≤ 38 - (bs.length : Int); omega)]
  rw [he] at hO
  have hs := hk.size
  have hs4 := h4.size
  refine ⟨rfl, ⟨fun k => (Fo k ∨ wr.heap.size ≤ k) ∧ k < w'.heap.size, hO.mono (fun k hk' hh => ⟨hh, hk'⟩), fun i hi => ⟨?_, hi.2⟩, fun k hp => ⟨fun hf => ?_, Nat.lt_of_lt_of_le (h3 k hp).2 hs⟩, h4.trans hk (fun i hi hf => ?_)⟩, Fo, hk, fun k hp => (h3 k hp).1⟩
  · rcases hi.1 with hi | hi
    · exact (h2 i hi).1
    · exact .inr (by omega)
  · rcases hf.1 with hf | hf
    · exact (h3 k hp).1 hf
    · have := (h3 k hp).2; omega
  · rcases (h2 i hf).1 with hh | hh
    · exact hh
    · omega

/-- The bytes of extents, of an inode. -/
def bytX (l : List Xt) : List Int := l.flatMap fun e => be e.1.toNat 2 ++ be e.2.toNat 2
theorem bytX_snoc (l : List Xt) (e : Xt) : bytX (l ++ [e]) = bytX l ++ be e.1.toNat 2 ++ be e.2.toNat 2 := by unfold bytX; rw [List.flatMap_append]; simp
theorem bytX_len (l : List Xt) : (bytX l).length = 4 * l.length := by
  induction l with
  | nil => rfl
  | cons e r ih => unfold bytX at ih ⊢; rw [List.flatMap_cons, List.length_append, ih, List.length_append, be_len, be_len]; simp; omega
def headI (m s : Int) (n : Nat) : List Int := be m.toNat 1 ++ be n 1 ++ be s.toNat 4
theorem headI_len (m s : Int) (n : Nat) : (headI m s n).length = 6 := by unfold headI; simp [be_len]
def bytI (m s : Int) (l : List Xt) : List Int := headI m s l.length ++ bytX l
/-- What Check finds of an inode that is valid. -/
theorem chk_zero {m s : Int} {l : List Xt} (h : chk28 m s l = 0) : 0 ≤ m ∧ m ≤ 2 ∧ 0 ≤ s ∧ s ≤ 512 ∧ cOk l s ∧ l.length ≤ 8 := by
  unfold chk28 at h
  by_cases h1 : m < 0 ∨ 2 < m
  · rw [if_pos h1] at h; cases h
  · rw [if_neg h1] at h
    by_cases h2 : 512 < s
    · rw [if_pos h2] at h; cases h
    · rw [if_neg h2] at h
      by_cases h3 : s < 0 ∨ (m = 0 ∧ 0 < s) ∨ okB l s = false
      · rw [if_pos h3] at h; cases h
      · have hs : ¬ s < 0 := fun h => h3 (.inl h)
        have ho : okB l s = true := by
          cases hb : okB l s
          · exact absurd (.inr (.inr hb)) h3
          · rfl
        have hp : pOk l s := of_decide_eq_true ho
        exact ⟨by omega, by omega, by omega, by omega, pOk_cOk (by omega) hp, hp.1⟩
set_option maxRecDepth 100000 in
theorem iPut_bad (m s : Int) (u : Value) (l : List Xt) (F : Nat → Prop) (w : World) (h : XSl w F u l) (h0 : -9223372036854775808 ≤ s) (h1 : s ≤ 9223372036854775807) (he : chk28 m s l ≠ 0) :
    Calls Try.prog 33 #[iv28 m s u] w (BErr (chk28 m s l) [] w) := by
  have hk0 := (Kept.refl NoB w).alloc (.cells #[.int .i64 m, .int .i64 s, u] 47)
  have HK0 := Lib.hid hk0
  obtain ⟨c0, c1, c2⟩ := cells3 (heap_alloc_new w (.cells #[.int .i64 m, .int .i64 s, u] 47))
  have HC := Lib.hid (iCheck_any m s u l _ _ (h.no hk0) h0 h1)
  obtain ⟨er, her⟩ : ∃ er, er = chk28 m s l := ⟨_, rfl⟩
  rw [← her] at HC he ⊢
  have hne : (er != 0) = true := bne_iff_ne.2 he
  clear h hk0 her he
  go_enter Try.func33, Try.ntmps33
  go_wp2_with (go_at_call 31; refine HC.out.mono ?_; rintro e w1 ⟨rfl, hk⟩; have HK1 := Lib.hid (HK0.out.trans hk (fun _ _ h => h)); clear hk)
  go_ret2
  exact BErr.mk (BSl.nil _ (fun _ => False)) (fun _ h => h.elim) HK1.out
theorem PuI.keeps {w wr : World} {F P : Nat → Prop} {go : Nat} {bs : List Int} (h : PuI w F go P bs wr) : Kept F w wr := by obtain ⟨_, _, _, _, h⟩ := h; exact h
theorem PuI.out_ {w wr : World} {F P : Nat → Prop} {go : Nat} {bs : List Int} (h : PuI w F go P bs wr) : ∃ Fo, OutAt wr Fo go ⟨bs, 38, 0⟩ := by obtain ⟨Fo, h, _⟩ := h; exact ⟨Fo, h⟩
def PutRel (w1 : World) (m s : Int) (l : List Xt) (iv : Value) (wr : World) : Prop :=
  ∃ k : Nat, k ≤ l.length ∧ iv = .int .i64 k ∧ PuI w1 NoB w1.heap.size (fun i => i < w1.heap.size) (headI m s l.length ++ bytX (l.take k)) wr
set_option maxRecDepth 100000 in
set_option maxHeartbeats 20000000 in
theorem iPut_ok (m s : Int) (u : Value) (l : List Xt) (F : Nat → Prop) (w : World) (h : XSl w F u l) (he : chk28 m s l = 0) :
    Calls Try.prog 33 #[iv28 m s u] w (BErr 0 (bytI m s l) w) := by
  obtain ⟨hm0, hm2, hs0, hs5, ⟨hv, _⟩, hl8⟩ := chk_zero he
  obtain ⟨a, cap, rfl, hca, hcm, _⟩ := id h
  have hk0 := (Kept.refl NoB w).alloc (.cells #[.int .i64 m, .int .i64 s, .slice a l.length cap] 47)
  have HK0 := Lib.hid hk0
  have hb := heap_alloc_new w (.cells #[.int .i64 m, .int .i64 s, .slice a l.length cap] 47)
  have HB := Lib.hid hb
  obtain ⟨c0, c1, c2⟩ := cells3 hb
  have HX := Lib.hid (h.no hk0)
  have HC := Lib.hid (iCheck_any m s _ l _ _ (h.no hk0) (by omega) (by omega))
  rw [he] at HC
  have HV := Lib.hid hv
  have wm : IntKind.u64.wrap m = m := IntWalk.u64_in _ (by omega)
  have wl : IntKind.u64.wrap (l.length : Int) = (l.length : Int) := IntWalk.u64_in _ (by omega)
  have ws : IntKind.u64.wrap s = s := IntWalk.u64_in _ (by omega)
  clear h hk0 hb he hv
  go_enter Try.func33, Try.ntmps33
  go_wp2_with (go_at_call 31; refine HC.out.mono ?_; rintro e w1 ⟨rfl, hk⟩; have HK1 := Lib.hid (HK0.out.trans hk (fun _ _ h => h)); have HB1 := Lib.hid (box3k HB.out hk); have HX1 := Lib.hid (HX.out.no hk); clear hk c0 c1 c2; obtain ⟨c0, c1, c2⟩ := cells3 HB1.out)
  refine (New_any 38 w1 (by omega)).mono ?_
  rintro e w2 ⟨rfl, ho, hk⟩
  rw [show max (38 : Int) 0 = 38 from rfl] at ho
  have HP0 : Hid (PuI w1 NoB w1.heap.size (fun i => i < w1.heap.size) [] w2) := Lib.hid ⟨fun i => w1.heap.size ≤ i ∧ i < w2.heap.size, ho.mono (fun k hk h => ⟨h, hk⟩), fun i hi => ⟨.inr hi.1, hi.2⟩, fun k hk' => ⟨fun h => by omega, by have := hk.size; omega⟩, hk⟩
  clear ho c0 c1 c2
  obtain ⟨c0, c1, c2⟩ := cells3 (box3k HB1.out hk)
  clear hk
  have hnn : (l.length : Int).toNat = l.length := by omega
  go_wp2_with fail
  refine (HP0.out.put m 1 hm0 (by decide) (by decide) (by show m.toNat < 256; omega) (by simp)).mono ?_
  rintro e w3 ⟨rfl, hp, _⟩
  have HP1 := Lib.hid hp
  clear c0 c1 c2
  obtain ⟨c0, c1, c2⟩ := cells3 (box3k HB1.out hp.keeps)
  clear hp
  go_wp2_with fail
  refine (HP1.out.put (l.length : Int) 1 (by omega) (by decide) (by decide) (by show (l.length : Int).toNat < 256; omega) (by simp [be_len])).mono ?_
  rintro e w4 ⟨rfl, hp, _⟩
  have HP2 := Lib.hid hp
  clear c0 c1 c2
  obtain ⟨c0, c1, c2⟩ := cells3 (box3k HB1.out hp.keeps)
  clear hp
  go_wp2_with fail
  refine (HP2.out.put s 4 hs0 (by decide) (by decide) (by show s.toNat < 4294967296; omega) (by simp [be_len])).mono ?_
  rintro e w5 ⟨rfl, hp, _⟩
  have HP3 : Hid (PuI w1 NoB w1.heap.size (fun i => i < w1.heap.size) (headI m s l.length ++ bytX (l.take 0)) w5) := Lib.hid (by
    have : headI m s l.length ++ bytX (l.take 0) = [] ++ be m.toNat 1 ++ be (l.length : Int).toNat 1 ++ be s.toNat 4 := by rw [hnn]; unfold headI bytX; simp
    rw [this]; exact hp)
  clear c0 c1 c2
  obtain ⟨c0, c1, c2⟩ := cells3 (box3k HB1.out hp.keeps)
  clear hp wm wl ws hnn
  go_wp2
  clear c0 c1 c2
  go_loopw [33] (PutRel w1 m s l) (fun i _ => l.length - (intOf i).toNat)
  case atStart => exact ⟨0, by omega, rfl, HP3.out⟩
  case round =>
    obtain ⟨k, hk, rfl, hst⟩ := hrel
    have HST := Lib.hid hst
    have hkp := hst.keeps
    by_cases hlt : k < l.length
    · obtain ⟨b, o, rfl, _, _, e0, e1⟩ := (HX1.out.no hkp).at_ hlt
      have hve := HV.out _ (xth_mem hlt)
      have hbs : headI m s l.length ++ bytX (l.take (k + 1)) = headI m s l.length ++ bytX (l.take k) ++ be (xth l k).1.toNat 2 ++ be (xth l k).2.toNat 2 := by rw [xtake_snoc hlt, bytX_snoc]; simp
      obtain ⟨x, hx⟩ : ∃ x, x = xth l k := ⟨_, rfl⟩
      rw [← hx] at e0 e1 hve hbs
      obtain ⟨xs, xn⟩ := x
      simp only at e0 e1 hbs
      obtain ⟨v1, v2, v3, v4, v5⟩ := hve
      simp only at v1 v2 v3 v4 v5
      have HBS := Lib.hid hbs
      have hlen : (headI m s l.length ++ bytX (l.take k)).length ≤ 34 := by rw [List.length_append, headI_len, bytX_len, List.length_take]; omega
      obtain ⟨B, hB⟩ : ∃ B, B = headI m s l.length ++ bytX (l.take k) := ⟨_, rfl⟩
      rw [← hB] at HBS HST hlen
      have hka := (Kept.refl NoB wr).alloc (.cells #[.int .i64 xs, .int .i64 xn] 81)
      have hbx := heap_alloc_new wr (.cells #[.int .i64 xs, .int .i64 xn] 81)
      have HBX := Lib.hid hbx
      have HPA := Lib.hid (HST.out.add hka (Nat.le_refl _) (heap_lt hbx))
      have w2' : IntKind.u64.wrap xs = xs := IntWalk.u64_in _ (by omega)
      have w3' : IntKind.u64.wrap xn = xn := IntWalk.u64_in _ (by omega)
      have hk0 : (0 : Int) ≤ (k : Int) := by omega
      have hk1 : (k : Int) < (l.length : Int) := by omega
      clear hst hkp hx hbs hB hka hbx
      go_wp2_with fail
      refine (HPA.out.put xs 2 v3 (by decide) (by decide) (by show xs.toNat < 65536; omega) (by omega)).mono ?_
      rintro e p1 ⟨rfl, hp1, S1, hs1, hS1⟩
      have HP1x := Lib.hid hp1
      have hbx1 := hs1.heap (hS1 _ (.inr rfl)) HBX.out
      have q1 := cell_of_row _ _ 1 _ _ _ hbx1
      clear hp1 hs1 hS1 hbx1 e0 e1
      go_wp2_with fail
      refine (HP1x.out.put xn 2 (by omega) (by decide) (by decide) (by show xn.toNat < 65536; omega) (by simp [be_len]; omega)).mono ?_
      rintro e p2 ⟨rfl, hp2, _⟩
      have HP2x := Lib.hid (hp2.less (Q := fun i => i < w1.heap.size) (fun k hk => .inl hk))
      clear hp2 q1
      go_wp2
      go_roundw
      case rel => exact ⟨k + 1, by omega, by go_num, by rw [HBS.out]; exact HP2x.out⟩
      case measure => simp [intOf]; omega
    · obtain rfl : k = l.length := by omega
      have HST2 : Hid (PuI w1 NoB w1.heap.size (fun i => i < w1.heap.size) (bytI m s l) wr) := Lib.hid (by
        rw [List.take_length] at hst; exact hst)
      have HKZ := Lib.hid (HK1.out.trans hkp (fun _ _ h => h))
      have hbl : (bytI m s l).length ≤ 1000000 := by unfold bytI; rw [List.length_append, headI_len, bytX_len]; omega
      obtain ⟨Fo, hfo⟩ := hst.out_
      rw [List.take_length] at hfo
      have HD := Lib.hid (Done_any w1.heap.size ⟨bytI m s l, 38, 0⟩ Fo wr hfo hbl)
      clear hst hkp hfo hbl
      go_wp2_with fail
      refine HD.out.mono ?_
      rintro e w9 ⟨v9, rfl, hb9, hk9⟩
      have HB9 := Lib.hid hb9
      have HK9 := Lib.hid (HKZ.out.trans hk9 (fun _ _ h => h))
      have hwz := HKZ.out.size
      clear hb9 hk9
      go_wp2
      go_ret2
      exact BErr.mk HB9.out (fun k hk => by omega) HK9.out
end Go.Proofs.Ytbacnkndllifaaa
