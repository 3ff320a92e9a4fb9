/-
  Layer 31: hasBlocks, resolve.
-/
import Derived.Test.YtokafgleejcbgaaGreatDoorTreC
namespace Go.Proofs.YtokafgleejcbgaaGreatDoor
open Go.RowKit
set_option linter.unusedVariables false
set_option maxRecDepth 100000

set_option maxHeartbeats 2000000 in
theorem hasBlocks31_any (w : World) (g bm : Nat) (I B : Int) (L : List It) (n : Int) (h : TrAt w g bm I B L) (n0 : -1000 ≤ n) (n1 : n ≤ 1000) :
    Calls Tryz.prog 40 #[.pointer (some ⟨g, 0, none⟩), .int .i64 n] w fun e w' => e = .returned (.bool (decide (blkT L + n ≤ B))) ∧ Kept NoB w w' := by
  have HB := Lib.hid (Blocks31_any w.drew g bm I B L (h.no (Kept.refl NoB w).drew))
  have hb := blkT_bd h.bd
  have hl := h.len
  obtain ⟨c0, c1, c2⟩ := h.cc
  have HC1 := Lib.hid h.cc.2.1
  obtain ⟨S, hS⟩ : ∃ S, S = blkT L := ⟨_, rfl⟩
  rw [← hS] at HB hb ⊢
  have w1 : IntKind.i64.wrap (S + n) = S + n := IntWalk.i64_in _ (by omega)
  clear h hS hb hl n0 n1 c0 c2
  go_enter Tryz.func40, Tryz.ntmps40
  go_wp2_with fail
  go_region_held3 (fun w' => w'.cell? ⟨g, 1, none⟩ = some (.int .i64 B))
    (first
      | exact cell_drew c1
      | exact HKK.out.cell (fun h => h) HC1.out
      | exact c1)
    (first
      | (go_at_call 8; refine HB.out.mono ?_; rintro e w2 ⟨rfl, hk⟩; have HKK : Hid (Kept NoB w w2) := Lib.hid ((Kept.refl NoB w).drew.trans hk (fun _ _ h => h)); clear hk)
      | fail)
  all_goals
    go_wp2_with fail
    go_ret
    exact ⟨rfl, HKK.out⟩
/-- What stands at the names from here on: m of them are left. -/
def rsT (L : List It) (ns : List (List UInt8)) : Nat → It → Int × It
  | 0, x => (0, x)
  | m + 1, x => if x.dir then (match atT L (jn29 (ns.take (ns.length - m))) with | none => (13, x) | some y => rsT L ns m y) else (14, x)
/-- What stands at a path. -/
def rs31 (L : List It) (r : It) (p : List UInt8) : Int × Option It :=
  if pathE p ≠ 0 then (pathE p, none) else ((rsT L (pathNs p) (pathNs p).length r).1, if (rsT L (pathNs p) (pathNs p).length r).1 = 0 then some (rsT L (pathNs p) (pathNs p).length r).2 else none)
theorem rsT_mem {L : List It} {ns : List (List UInt8)} {m : Nat} {x : It} (h : x ∈ L) : (rsT L ns m x).2 ∈ L := by
  induction m generalizing x with
  | zero => exact h
  | succ m ih =>
    rw [rsT]
    split
    · split
      · exact h
      · rename_i y hy
        exact ih (atT_key hy).2
    · exact h
theorem lookV_some (x : It) : lookV (some x) = itv x := rfl
set_option maxHeartbeats 4000000 in
theorem resolve31_any (w : World) (g bm : Nat) (I B : Int) (L : List It) (r : It) (s : ByteArray) (h : TrAt w g bm I B L) (hr : atT L [47] = some r) (hs : s.size ≤ 1000000) (hv : Lng w) :
    Calls Tryz.prog 44 #[.pointer (some ⟨g, 0, none⟩), .string s] w fun e w' => e = .returned (.tuple #[lookV (rs31 L r s.data.toList).2, .int .i64 (rs31 L r s.data.toList).1]) ∧ Kept NoB w w' := by
  have HSP := Lib.hid (vSplit_any s w hs hv)
  obtain ⟨c0, c1, c2⟩ := h.cc
  have HH := Lib.hid h
  have hrm := (atT_key hr).2
  have HRO := Lib.hid hr
  obtain ⟨p, hp⟩ : ∃ p, p = s.data.toList := ⟨_, rfl⟩
  have hsh := pathNs_short s.data.toList
  rw [← hp] at HSP hsh ⊢
  unfold rs31
  clear hr h hs hv hp
  by_cases he : pathE p ≠ 0
  · rw [if_pos he]
    obtain ⟨er, her⟩ : ∃ q, q = pathE p := ⟨_, rfl⟩
    rw [← her] at HSP he ⊢
    have g1 : (er != 0) = true := bne_iff_ne.2 he
    clear her hsh he c0 c1 c2 hrm
    go_enter Tryz.func44, Tryz.ntmps44
    go_wp2_with (go_at_call 49; refine HSP.out.mono ?_; rintro e w1 ⟨v1, rfl, ht, hk⟩; have HK := Lib.hid hk; (obtain ⟨a1, q1, rfl, _⟩ := ht); clear hk)
    exact bodyPost_ret (v := .tuple #[.pointer none, .int .i64 er]) (by simp [results, Tryz.results44, go_sem]) rfl ⟨rfl, HK.out⟩
  · rw [if_neg he]
    have he : pathE p = 0 := Decidable.not_not.1 he
    rw [he] at HSP
    obtain ⟨ns, hns⟩ : ∃ q, q = pathNs p := ⟨_, rfl⟩
    rw [← hns] at HSP hsh ⊢
    obtain ⟨R, hR⟩ : ∃ q, q = rsT L ns ns.length r := ⟨_, rfl⟩
    rw [← hR]
    obtain ⟨V, hV⟩ : ∃ V, V = lookV (if R.1 = 0 then some R.2 else none) := ⟨_, rfl⟩
    rw [← hV]
    have HVV := Lib.hid hV
    have HR := Lib.hid hR
    clear hV
    have HSH := Lib.hid hsh
    have HRM := Lib.hid hrm
    clear he hns hR hsh hrm c0 c1
    go_enter Tryz.func44, Tryz.ntmps44
    go_upto_region 4 with (go_at_call 49; refine HSP.out.mono ?_; rintro e w1 ⟨v1, rfl, ht, hk⟩; have HK := Lib.hid hk; have HT := Lib.hid ht; (obtain ⟨a1, q1, rfl, _⟩ := ht); clear hk c2)
    have hh1 := HH.out.no HK.out
    have c2 := hh1.cc.2.2
    have hl1 := run_look31_one hh1.mp ⟨#[47]⟩ (by decide)
    rw [show (⟨#[47]⟩ : ByteArray).data.toList = [47] from rfl, HRO.out, lookV_some] at hl1
    clear hh1
    go_wp2_with fail
    clear hl1 c2
    go_loopw [8, 27] (fun xv iv wr => ∃ (k : Nat) (x : It), k ≤ ns.length ∧ iv = .int .i64 k ∧ xv = itv x ∧ x ∈ L ∧ R = rsT L ns (ns.length - k) x ∧ Kept NoB w wr ∧ Kept NoB w1 wr) (fun _ iv _ => ns.length - (RowKit.intOf iv).toNat)
    case atStart => exact ⟨0, r, Nat.zero_le _, rfl, rfl, HRM.out, HR.out, HK.out, Kept.refl _ _⟩
    case round =>
      obtain ⟨k, x, hk, rfl, rfl, hx, hrs, hkk, hkk1⟩ := hrel
      have HKR := Lib.hid hkk
      have HKR1 := Lib.hid hkk1
      have HX := Lib.hid hx
      have hth := HH.out.no hkk
      have HTR := Lib.hid hth
      obtain ⟨a3, q3, x0, _, _⟩ := (hth.it x hx).cells
      have c2 := hth.cc.2.2
      have hk0 : (0 : Int) ≤ (k : Int) := by omega
      unfold itv
      by_cases hlt : k < ns.length
      · have hk1 : (k : Int) < (ns.length : Int) := by omega
        have hm : ns.length - k = (ns.length - (k + 1)) + 1 := by omega
        rw [hm, rsT, show ns.length - (ns.length - (k + 1)) = k + 1 by omega] at hrs
        cases hd : x.dir with
        | false =>
          rw [hd] at hrs x0
          rw [if_neg (by simp)] at hrs
          have HRS := Lib.hid hrs
          clear hrs hd hkk hkk1 hth c2 hm hx
          go_wp2_with fail
          exact bodyPost_ret (v := .tuple #[.pointer none, .int .i64 14]) (by simp [results, Tryz.results44, go_sem]) rfl ⟨by rw [HVV.out, HRS.out]; rfl, HKR.out⟩
        | true =>
          rw [hd, if_pos rfl] at hrs
          rw [hd] at x0
          have HT1 := HT.out.no hkk1
          have hcap : k + 1 ≤ q1 := by
            obtain ⟨a', q', he, h1, h2, _⟩ := HT1
            injection he with _ _ he
            omega
          have htk := HT1.take (k + 1) (by omega)
          have hjn := fun w' (hk' : Kept NoB wr w') => vJoin_any (.slice a1 (k + 1) q1) (ns.take (k + 1)) _ w' (htk.no hk') (by
            have h1 := join_short29 (ns.take (k + 1)) 11 (fun y hy => HSH.out.2 y (List.mem_of_mem_take hy))
            have h2 := HSH.out.1
            rw [List.length_take] at h1
            have h3 : min (k + 1) ns.length * (11 + 1) ≤ 8 * 12 := Nat.mul_le_mul (by omega) (Nat.le_refl _)
            omega) (by rw [List.length_take]; have := HSH.out.1; omega)
          have hjl : (jn29 (ns.take (k + 1))).length ≤ 1000000 := by
            unfold jn29
            rw [List.length_cons]
            have h1 := join_short29 (ns.take (k + 1)) 11 (fun y hy => HSH.out.2 y (List.mem_of_mem_take hy))
            have h2 := HSH.out.1
            rw [List.length_take] at h1
            have h3 : min (k + 1) ns.length * (11 + 1) ≤ 8 * 12 := Nat.mul_le_mul (by omega) (Nat.le_refl _)
            omega
          have HJ := Lib.hid hjn
          obtain ⟨J, hJ⟩ : ∃ J, J = jn29 (ns.take (k + 1)) := ⟨_, rfl⟩
          rw [← hJ] at hrs HJ hjl
          obtain ⟨sj, hsj⟩ : ∃ q : ByteArray, q = ⟨J.toArray⟩ := ⟨_, rfl⟩
          have hsl : sj.data.toList = J := by rw [hsj]
          have hss : sj.size ≤ maxLen := by rw [hsj]; unfold maxLen; show J.toArray.size ≤ _; rw [List.size_toArray]; omega
          rw [← hsj] at HJ
          obtain ⟨o, ho⟩ : ∃ o, o = atT L J := ⟨_, rfl⟩
          have HLK : Hid (∀ w', Kept NoB wr w' → (Instr.lookup 47 (.map (some bm)) (.string sj) true).run Tryz.prog w' = .ok (.tuple #[lookV o, .bool o.isSome]) w') := Lib.hid (fun w' hk' => by
            have := run_look31 (HTR.out.no hk').mp sj hss
            rw [hsl, ← ho] at this
            exact this)
          rw [← ho] at hrs
          have HRS := Lib.hid hrs
          have HO := Lib.hid ho
          have HC2 := Lib.hid c2
          obtain ⟨kk, hkk2⟩ : ∃ q, q = k + 1 := ⟨_, rfl⟩
          rw [← hkk2] at HJ
          have hcap1 : (kk : Int) ≤ (q1 : Int) := by omega
          have hcap0 : (0 : Int) ≤ (kk : Int) := by omega
          have hw1 : IntKind.i64.wrap ((k : Int) + 1) = (kk : Int) := by rw [IntWalk.i64_in _ (by have := HSH.out.1; omega)]; omega
          have HKK2 := Lib.hid hkk2
          clear hkk2
          clear hrs hd hkk hkk1 hth hm hx HT1 hcap htk hjn hjl hJ hsj hsl hss ho
          cases o with
          | none =>
            have hrs := HRS.out
            simp only at hrs
            have HRS := Lib.hid hrs
            clear hrs
            rw [show lookV none = .pointer none from rfl, show (none : Option It).isSome = false from rfl] at HLK
            go_wp2_with fail
            go_region_held3 (fun w' => w'.cell? ⟨g, 2, none⟩ = some (.map (some bm)) ∧ (Instr.lookup 47 (.map (some bm)) (.string sj) true).run Tryz.prog w' = .ok (.tuple #[.pointer none, .bool false]) w')
              (first
                | exact ⟨cell_drew HC2.out, HLK.out _ (Kept.refl NoB wr).drew⟩
                | exact ⟨HK5.out.cell (fun h => h) HC2.out, HLK.out _ HK5.out⟩)
              (first
                | (go_at_call 50; refine (HJ.out _ (Kept.refl NoB wr).drew).mono ?_; rintro e w5 ⟨rfl, hk⟩; have HK5 : Hid (Kept NoB wr w5) := Lib.hid ((Kept.refl NoB wr).drew.trans hk (fun _ _ h => h)); clear hk)
                | fail)
            all_goals
              go_wp2_with fail
              exact bodyPost_ret (v := .tuple #[.pointer none, .int .i64 13]) (by simp [results, Tryz.results44, go_sem]) rfl ⟨by rw [HVV.out, HRS.out]; rfl, HKR.out.trans HK5.out (fun _ _ h => h)⟩
          | some y =>
            have hrs := HRS.out
            simp only at hrs
            have HRS := Lib.hid hrs
            clear hrs
            rw [show lookV (some y) = .pointer (some ⟨y.b, 0, none⟩) from rfl, show (some y).isSome = true from rfl] at HLK
            go_wp2_with fail
            go_region_held3 (fun w' => w'.cell? ⟨g, 2, none⟩ = some (.map (some bm)) ∧ (Instr.lookup 47 (.map (some bm)) (.string sj) true).run Tryz.prog w' = .ok (.tuple #[.pointer (some ⟨y.b, 0, none⟩), .bool true]) w')
              (first
                | exact ⟨cell_drew HC2.out, HLK.out _ (Kept.refl NoB wr).drew⟩
                | exact ⟨HK5.out.cell (fun h => h) HC2.out, HLK.out _ HK5.out⟩)
              (first
                | (go_at_call 50; refine (HJ.out _ (Kept.refl NoB wr).drew).mono ?_; rintro e w5 ⟨rfl, hk⟩; have HK5 : Hid (Kept NoB wr w5) := Lib.hid ((Kept.refl NoB wr).drew.trans hk (fun _ _ h => h)); clear hk)
                | fail)
            all_goals
              go_wp2_with fail
              exact ⟨⟨kk, y, by have := HKK2.out; omega, by first | rfl | go_num, rfl, (atT_key HO.out.symm).2, by rw [HKK2.out]; exact HRS.out, HKR.out.trans HK5.out (fun _ _ h => h), HKR1.out.trans HK5.out (fun _ _ h => h)⟩, by have := HKK2.out; simp [RowKit.intOf]; omega⟩
      · obtain rfl : k = ns.length := by omega
        rw [Nat.sub_self] at hrs
        have hrs : R = (0, x) := hrs
        have HRS := Lib.hid hrs
        clear hrs hkk hkk1 hth c2 hx x0
        go_wp2_with fail
        exact bodyPost_ret (v := .tuple #[.pointer (some ⟨x.b, 0, none⟩), .int .i64 0]) (by simp [results, Tryz.results44, go_sem]) rfl ⟨by rw [HVV.out, HRS.out]; rfl, HKR.out⟩
end Go.Proofs.YtokafgleejcbgaaGreatDoor
