/-
  The chapter's Words.
-/
import Derived.Test.YtdohnobfaignpaaDoorCmdJ
namespace Go.Proofs.YtdohnobfaignpaaDoor
open Go.RowKit Go.Sort Go.Lib
set_option linter.unusedVariables false

/-- The words between blanks. -/
def wgo : List UInt8 → List UInt8 → List (List UInt8)
  | cur, [] => [cur]
  | cur, c :: r => if c = 32 then cur :: wgo [] r else wgo (cur ++ [c]) r
theorem wgo_pre (a : List UInt8) (h : (32 : UInt8) ∉ a) : ∀ (cur r : List UInt8), wgo cur (a ++ 32 :: r) = (cur ++ a) :: wgo [] r := by
  induction a with
  | nil => intro cur r; simp [wgo]
  | cons c a ih =>
    intro cur r
    have hc : ¬ c = 32 := fun e => h (by simp [e])
    rw [List.cons_append, wgo, if_neg hc, ih (fun hm => h (by simp [hm]))]
    simp
theorem wgo_last (a : List UInt8) (h : (32 : UInt8) ∉ a) : ∀ (cur : List UInt8), wgo cur a = [cur ++ a] := by
  induction a with
  | nil => intro cur; simp [wgo]
  | cons c a ih =>
    intro cur
    have hc : ¬ c = 32 := fun e => h (by simp [e])
    rw [wgo, if_neg hc, ih (fun hm => h (by simp [hm]))]
    simp
theorem wgo_txt (k ch ep nd : Nat) : wgo [] (txtL k ch ep nd) = [nmL k, Lib.decDigits ch, Lib.decDigits ep, Lib.decDigits nd] := by
  have e : txtL k ch ep nd = nmL k ++ 32 :: (Lib.decDigits ch ++ 32 :: (Lib.decDigits ep ++ 32 :: Lib.decDigits nd)) := by simp [txtL]
  rw [e, wgo_pre _ (nm_no32 k), wgo_pre _ (dec_no32 ch), wgo_pre _ (dec_no32 ep), wgo_last _ (dec_no32 nd)]
  simp
theorem Tryd.info9 : (Tryd.prog.info? 9).map (fun i => (i.zero, i.size, i.bytes)) = some (some (.string ByteArray.empty), 1, 16) := by kernel_rfl
def sv (l : List (List UInt8)) : List Value := l.map fun x => Value.string ⟨x.toArray⟩
theorem sv_len (l : List (List UInt8)) : (sv l).length = l.length := by simp [sv]
theorem sv_app (l m : List (List UInt8)) : sv (l ++ m) = sv l ++ sv m := by simp [sv]
/-- A slice of strings of the call's own. -/
def SOwn (B : Nat) (w : World) (v : Value) (l : List (List UInt8)) : Prop := w.ownsRow B 9 1 v l.length (sv l)
theorem put_sown {w0 w w1 : World} {v v' : Value} {l : List (List UInt8)} {x : List UInt8} (h : SOwn w0.heap.size w v l) (hk : Kept NoB w0 w) (o : Obj) (hown : w1.ownsRow w0.heap.size 9 1 v' (l.length + 1) (sv l ++ [.string ⟨x.toArray⟩])) (hg : (w.alloc o).grownBy w1 v.ownBlock) :
    SOwn w0.heap.size w1 v' (l ++ [x]) ∧ Kept NoB w0 w1 := by
  refine ⟨?_, ?_⟩
  · unfold SOwn
    rw [List.length_append, sv_app]
    simpa [sv] using hown
  · refine (hk.alloc o).grown hg (fun k hk => .inr ?_)
    exact (World.ownsRow.lt h k hk).1
theorem sone_fine (x : List UInt8) : ∀ u ∈ [Value.string ⟨x.toArray⟩], u.oneCell' = true := by simp [Value.oneCell']
theorem snews_one (w : World) (x : List UInt8) : ∀ j u, [Value.string ⟨x.toArray⟩][j]? = some u → (w.alloc (.cells #[.string ⟨x.toArray⟩] 9)).cell? ((⟨w.heap.size, 0, none⟩ : Addr).add j) = some u :=
  World.news_of_block (cs := #[_]) (t := 9) (fr := (0, 0)) (heap_alloc_new w _)
theorem ssize_one (w : World) {n : Nat} (h : n ≤ w.heap.size) (x : List UInt8) : n ≤ (w.alloc (.cells #[.string ⟨x.toArray⟩] 9)).heap.size := by simp; omega
theorem extract_one (s : ByteArray) (i : Nat) (h : i < s.size) : s.extract i (i + 1) = ⟨[s[i]'h].toArray⟩ := by
  have h1 : (s.extract i (i + 1)).data.toList = [s[i]'h] := by
    rw [Lib.extract_data, List.drop_eq_getElem_cons (by simpa using h)]
    simp
    rfl
  apply ByteArray.ext
  rw [← Array.toList_inj, h1]
def WordsEnd (s : ByteArray) (w : World) (e : Ending) (w' : World) : Prop := ∃ v, e = .returned v ∧ SOwn w.heap.size w' v (wgo [] s.data.toList) ∧ Kept NoB w w'
set_option maxRecDepth 100000 in
set_option maxHeartbeats 1000000 in
theorem Words_any (s : ByteArray) (w : World) (hs : s.size ≤ 1000000) : Calls Tryd.prog 46 #[.string s] w (WordsEnd s w) := by
  obtain ⟨i0, hi, hz0, hz1, hz2⟩ := info_parts Tryd.info9
  have hst : SOwn w.heap.size w (.slice none 0 0) [] := World.ownsRow_nil _ _ _ _
  have hsk : Kept NoB w w := Kept.refl _ _
  go_enter Tryd.func46, Tryd.ntmps46
  go_wp2
  go_loopw [3, 4, 5] (fun v x i wr => ∃ (j : Nat) (L : List (List UInt8)) (cur : List UInt8), j ≤ s.size ∧ i = .int .i64 j ∧ x = .string ⟨cur.toArray⟩ ∧ Hid (wgo [] s.data.toList = L ++ wgo cur (s.data.toList.drop j)) ∧ cur.length ≤ j ∧ L.length ≤ j ∧ SOwn w.heap.size wr v L ∧ Kept NoB w wr) (fun _ _ i _ => s.size - (RowKit.intOf i).toNat)
  case atStart => exact ⟨0, [], [], Nat.zero_le _, rfl, rfl, by exact (by simp : wgo [] s.data.toList = [] ++ wgo [] (s.data.toList.drop 0)), Nat.le_refl _, Nat.le_refl _, hst, hsk⟩
  case round =>
    obtain ⟨j, L, cur, hj, rfl, rfl, HG, hcl, hLl, hown, hkk⟩ := hrel
    have HO := Lib.hid hown
    have HK := Lib.hid hkk
    have hsz := hkk.size
    clear hown hkk hst hsk
    by_cases hlt : j < s.size
    · have hat := byte_at s j hlt
      have hdr : s.data.toList.drop j = s[j]'hlt :: s.data.toList.drop (j + 1) := List.drop_eq_getElem_cons (by simpa using hlt)
      have HDR := Lib.hid hdr
      have hex := extract_one s j hlt
      clear hdr hat
      by_cases h32 : (s[j]'hlt).toNat = 32
      · have HG2 : Hid (wgo [] s.data.toList = (L ++ [cur]) ++ wgo [] (s.data.toList.drop (j + 1))) := Lib.hid (by
          rw [HG.out, HDR.out, wgo, if_pos (UInt8.toNat_inj.1 h32), List.append_assoc]; rfl)
        have h32' : ((s[j]'hlt).toNat : Int) = 32 := by omega
        have HO1 := Lib.hid (World.ownsRow.alloc (w := wr) HO.out (.cells #[.string ⟨cur.toArray⟩] 9))
        have HA1 := Lib.hid (snews_one wr cur)
        have HB1 := Lib.hid (ssize_one wr hsz cur)
        clear h32 hex
        go_wp2_with (at_builtin; refine wpList_append_own _ rfl _ _ 62 rfl w.heap.size 9 i0 (.string ByteArray.empty) 1 16 Tryd.underlying62 hi hz0 hz1 hz2 rfl (by decide) u3 L.length (sv L) rfl HO1.out ⟨wr.heap.size, 0, none⟩ 1 1 [.string ⟨cur.toArray⟩] rfl rfl HA1.out (sone_fine cur) (by unfold maxLen; omega) (by omega) HB1.out ?_; intro v' w2 hown2 hg2 _; have HP := Lib.hid (put_sown HO.out HK.out _ hown2 hg2); clear hown2 hg2)
        go_roundw
        case rel => exact ⟨j + 1, L ++ [cur], [], by omega, by go_num, rfl, HG2.out, by simp, by simp; omega, HP.out.1, HP.out.2⟩
        case measure => simp [RowKit.intOf]; omega
      · have HG2 : Hid (wgo [] s.data.toList = L ++ wgo (cur ++ [s[j]'hlt]) (s.data.toList.drop (j + 1))) := Lib.hid (by
          rw [HG.out, HDR.out, wgo, if_neg (fun e => h32 (by rw [e]; rfl))])
        have h32' : (((s[j]'hlt).toNat : Int) == 32) = false := by simpa using (by omega : ¬ ((s[j]'hlt).toNat : Int) = 32)
        have hadd := add_lists cur [s[j]'hlt] (by omega) (by simp)
        rw [← hex] at hadd
        obtain ⟨cur', hcur⟩ : ∃ x, x = cur ++ [s[j]'hlt] := ⟨_, rfl⟩
        have hcl' : cur'.length ≤ j + 1 := by rw [hcur]; simp; omega
        rw [← hcur] at hadd HG2
        clear h32 hex hcur
        go_wp2
        go_roundw
        case rel => exact ⟨j + 1, L, cur', by omega, by go_num, rfl, HG2.out, hcl', by omega, HO.out, HK.out⟩
        case measure => simp [RowKit.intOf]; omega
    · obtain rfl : j = s.size := by omega
      have HG2 : Hid (wgo [] s.data.toList = L ++ [cur]) := Lib.hid (by
        rw [HG.out, List.drop_eq_nil_of_le (by simp)]; rfl)
      have HO1 := Lib.hid (World.ownsRow.alloc (w := wr) HO.out (.cells #[.string ⟨cur.toArray⟩] 9))
      have HA1 := Lib.hid (snews_one wr cur)
      have HB1 := Lib.hid (ssize_one wr hsz cur)
      go_wp2_with (at_builtin; refine wpList_append_own _ rfl _ _ 62 rfl w.heap.size 9 i0 (.string ByteArray.empty) 1 16 Tryd.underlying62 hi hz0 hz1 hz2 rfl (by decide) u3 L.length (sv L) rfl HO1.out ⟨wr.heap.size, 0, none⟩ 1 1 [.string ⟨cur.toArray⟩] rfl rfl HA1.out (sone_fine cur) (by unfold maxLen; omega) (by omega) HB1.out ?_; intro v' w2 hown2 hg2 _; have HP := Lib.hid (put_sown HO.out HK.out _ hown2 hg2); clear hown2 hg2)
      go_ret
      exact ⟨_, rfl, by rw [HG2.out]; exact HP.out.1, HP.out.2⟩
end Go.Proofs.YtdohnobfaignpaaDoor
