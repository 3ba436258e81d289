/-
  The walk of PostLists.
-/
import Derived.Test.YthkfbdcocnhebaaR
namespace Go.Proofs.Ythkfbdcocnhebaa
open Go.RowKit
set_option linter.unusedVariables false
set_option linter.unusedSimpArgs false

set_option maxHeartbeats 40000000 in
set_option maxRecDepth 100000 in
theorem listsW (a0 : Option Addr) (len0 cap0 : Nat) (ls : List (List Int)) (a1 : Option Addr) (len1 cap1 : Nat) (l1 : List Int) (a2 : Option Addr) (len2 cap2 : Nat) (l2 : List Int) (x : Int) (w : World) (K0 : HasLL w a0 len0 cap0 ls) (K1 : HasU w a1 len1 cap1 l1) (K2 : HasU w a2 len2 cap2 l2) (hx : 0 ≤ x ∧ x < 18446744073709551616) :
    Calls Try.prog 3 #[.slice a0 len0 cap0, .slice a1 len1 cap1, .slice a2 len2 cap2, .int .u64 x] w fun e w' => e = .returned (.bool true) ∧ Below w.heap.size w w' := by
  have hcap := K0.le
  have hcm := K0.capb
  unfold maxLen at hcm
  have hl0 := hide K0.hlen
  by_cases hlong : 4096 < len0
  · have i1 : (4096 : Int) < (len0 : Int) := by omega
    have i2 : (4097 : Int) ≤ (cap0 : Int) := by omega
    have i3 : ¬ ((cap0 : Int) < 4097) := by omega
    clear K0 K1 K2
    go_enter Try.func3, Try.ntmps3
    go_wp2_with fail
    refine (and_long _ _ _ _ (by omega)).mono ?_
    rintro e w1 ⟨rfl, rfl⟩
    go_wp2_with fail
    refine (or_long _ _ _ _ (by omega)).mono ?_
    rintro e w1 ⟨rfl, rfl⟩
    go_wp2_with fail
    refine (works_any _).mono ?_
    rintro e w1 ⟨rfl, Q⟩
    go_wp2_with fail
    go_ret
    exact ⟨rfl, Q⟩
  have i1 : ¬ (4096 : Int) < (len0 : Int) := by omega
  have H1 := hide K1
  have H2 := hide K2
  have hK0 := hide K0
  have O := ownsL_empty w
  have BB : Hid (Below w.heap.size w (w.alloc (.cells #[] 23))) := (Below.refl _ _).alloc (Nat.le_refl _) _
  obtain ⟨w1, hw1⟩ : ∃ w1, w.alloc (.cells #[] 23) = w1 := ⟨_, rfl⟩
  rw [hw1] at O BB
  replace O := hide O
  replace hw1 := hide hw1
  clear K0 K1 K2
  go_enter Try.func3, Try.ntmps3
  go_wp2_with fail
  rw [hw1.out]
  go_loopw [13, 14] (fun vo vi wr => ∃ (i : Nat) (ao : Option Addr) (co : Nat) (vs : List Value), i ≤ len0 ∧ i ≤ 6 ∧ vo = .slice ao i co ∧ vi = .int .i64 (i : Int) ∧ Hid (vs.length = i) ∧ Hid (wr.ownsRow w.heap.size 23 1 (.slice ao i co) i vs) ∧ Hid (Vs wr (ls.map (·.take 60)) vs) ∧ Hid (Below w.heap.size w wr)) (fun _ vi _ => 7 - (intOf vi).toNat)
  case atStart => exact ⟨0, _, _, [], Nat.zero_le _, by omega, rfl, rfl, (rfl : _ = _), O, (fun j hj => by simp at hj : Vs w1 (ls.map (·.take 60)) []), BB⟩
  case round =>
    obtain ⟨i, ao, co, vs, hi, hi6, rfl, rfl, hvl, hO, hV, hB⟩ := hrel
    clear O BB
    by_cases hlt : i < len0 ∧ i < 6
    · have j1 : (i : Int) < (len0 : Int) := by omega
      have j2 : (0 : Int) ≤ (i : Int) := by omega
      have j3 : (i : Int) < 6 := by omega
      obtain ⟨b, off, y, m, k, rfl, hb, c1, HU⟩ := hK0.out.cells i hlt.1
      have c1i := (hB.out.cell (p := ⟨b, off + i, none⟩) hb).trans c1
      have OW := hide (own2_any wr y m k _ (HU.kept hB.out (Nat.le_refl _)))
      have hrng : Hid (∀ z ∈ (ls.getD i []).take 60, 0 ≤ z ∧ z < 18446744073709551616) := fun z hz => HU.range z (List.mem_of_mem_take hz)
      clear c1 HU
      go_wp2_with fail
      refine OW.out.mono ?_
      rintro e w5 ⟨a5, n5, c5, rfl, R5, B5⟩
      have hB5 : Below w.heap.size w w5 := hB.out.trans (B5.mono hB.out.size)
      have hO5 := ownL_below hO.out B5
      have hV5 := hV.out.below B5
      have hO6 : Hid ((w5.alloc (.cells #[.slice a5 n5 c5] 23)).ownsRow w.heap.size 23 1 (.slice ao i co) i vs) := hO5.alloc _
      have cn : (w5.alloc (.cells #[.slice a5 n5 c5] 23)).cell? ⟨w5.heap.size, 0, none⟩ = some (.slice a5 n5 c5) := cell_row (heap_alloc_new w5 _) 0 rfl
      have hs5 := hB5.size
      have hLL : (ls.map (·.take 60)).getD i [] = (ls.getD i []).take 60 := by simp [List.getD, List.getElem?_map]; cases ls[i]? <;> rfl
      replace hLL := hide hLL
      replace hB5 := hide hB5
      replace hV5 := hide hV5
      have R6 := hide (ownU_zero R5)
      clear hO5 B5 OW R5
      go_wp2_with (first | (at_builtin; refine wpList_pushL rfl (.tmp 61) (.tmp 67) rfl w.heap.size _ i vs rfl hO6.out w5.heap.size (.slice a5 n5 c5) rfl rfl cn (by omega) (by simp; omega) ?_; intro g cap w6 hO7 hg7; replace hO7 := hide hO7; replace hg7 := hide hg7))
      have B6 : Below w.heap.size w w6 := (hB5.out.alloc (by omega) _).grown hg7.out (by simp; omega) (fun q hq => (hO6.out.lt q hq).1)
      have G6 : ∀ (q : Nat) (cur : Array Value), w5.heap[q]? = some (.cells cur 24 (0, 0)) → w6.heap[q]? = some (.cells cur 24 (0, 0)) := fun q cur e => by
        have hq := (Array.getElem?_eq_some_iff.1 e).1
        have e2 := (Below.heap_alloc w5 (.cells #[.slice a5 n5 c5] 23) q hq).trans e
        refine (hg7.out.block q (by simp; omega) (fun e3 => ?_)).trans e2
        rcases hO6.out.2 with ⟨h, _⟩ | ⟨g', cap', cur', h, _, hg', _⟩
        · rw [h] at e3; cases e3
        · rw [h] at e3; cases e3
          rw [hg'] at e2; cases e2
      have V6 : Hid (Vs w6 (ls.map (·.take 60)) (vs ++ [.slice a5 n5 c5])) := fun j hj => by
        rw [List.length_append, List.length_singleton, hvl.out] at hj
        rcases Nat.lt_or_ge j i with h | h
        · obtain ⟨x', m', k', q1, q2⟩ := (hV5.out.kept G6) j (by rw [hvl.out]; exact h)
          exact ⟨x', m', k', by rw [List.getElem?_append_left (by rw [hvl.out]; exact h)]; exact q1, q2⟩
        · obtain rfl : j = i := by omega
          refine ⟨a5, n5, c5, by rw [List.getElem?_append_right (by rw [hvl.out]; exact Nat.le_refl _), hvl.out]; simp, ?_, ?_⟩
          · rw [hLL.out]; exact ownU_kept R6.out (fun q cur _ _ e => G6 q cur e)
          · rw [hLL.out]; exact hrng.out
      have el : Hid ((vs ++ [Value.slice a5 n5 c5]).length = i + 1) := by show _ = _; rw [List.length_append, List.length_singleton, hvl.out]
      replace B6 := hide B6
      clear G6 hO6 cn
      go_roundw
      case rel => exact ⟨i + 1, some ⟨g, 0, none⟩, cap, vs ++ [.slice a5 n5 c5], by omega, by omega, rfl, by go_num, el, hO7, V6, B6⟩
      case measure => simp [intOf]; omega
    · have hiv : i = min len0 6 := by omega
      have MLL := hasLL_of_owns (ls := ((ls.map (·.take 60)).take i)) hO.out (fun j hj => by
        obtain ⟨x', m', k', q1, q2⟩ := hV.out j hj
        have : ((ls.map (·.take 60)).take i).getD j [] = (ls.map (·.take 60)).getD j [] := by
          rw [hvl.out] at hj
          simp [List.getD, hj]
        rw [this]
        exact ⟨x', m', k', q1, q2⟩) (by rw [List.length_take, List.length_map, hl0.out]; omega)
      have hT : tot ((ls.map (·.take 60)).take i) ≤ 360 := by
        have key : ∀ L : List (List Int), (∀ l ∈ L, l.length ≤ 60) → tot L ≤ 60 * L.length := by
          intro L
          induction L with
          | nil => intro _; simp [tot]
          | cons l t ih =>
            intro h
            have h1 := ih (fun l hl => h l (by simp [hl]))
            have h2 := h l (by simp)
            have e : tot (l :: t) = l.length + tot t := by simp [tot]
            simp only [List.length_cons]; omega
        have := key ((ls.map (·.take 60)).take i) (fun l hl => by
          obtain ⟨l', _, rfl⟩ := List.mem_map.1 (List.mem_of_mem_take hl)
          simp; omega)
        simp only [List.length_take, List.length_map] at this
        omega
      have BB := hB
      have HM := hide MLL
      replace H1 := hide (H1.out.kept hB.out (Nat.le_refl _))
      replace H2 := hide (H2.out.kept hB.out (Nat.le_refl _))
      generalize (ls.map (·.take 60)).take i = ms at *
      replace hT := hide hT
      have hi6' : i ≤ 4096 := by omega
      have jx : ((i : Int) < (len0 : Int) ∧ ¬ (i : Int) < 6) ∨ ¬ (i : Int) < (len0 : Int) := by omega
      clear MLL hV hvl hO hB hiv hK0 hl0 hcap hcm
      rcases jx with ⟨jx1, jx2⟩ | jx1
      · skip
        go_wp2_with fail
        refine (own_any _ _ _ _ _ H1.out).mono ?_
        rintro e wx ⟨aA, nA, cA, rfl, RA, Q, _⟩
        replace H1 := hide (H1.out.kept Q (Nat.le_refl _))
        replace H2 := hide (H2.out.kept Q (Nat.le_refl _))
        replace HM := hide (HM.out.kept Q (Nat.le_refl _))
        replace BB := hide (BB.out.trans (Q.mono BB.out.size))
        have bA : nA ≤ 60 := by rw [← RA.hlen]; simp; omega
        generalize l1.take 60 = lA at *
        have HA := hide RA
        clear RA Q
        go_wp2_with fail
        refine (own_any _ _ _ _ _ H2.out).mono ?_
        rintro e wx ⟨aB, nB, cB, rfl, RB, Q, _⟩
        replace H1 := hide (H1.out.kept Q (Nat.le_refl _))
        replace H2 := hide (H2.out.kept Q (Nat.le_refl _))
        replace HM := hide (HM.out.kept Q (Nat.le_refl _))
        replace HA := hide (HA.out.kept Q (Nat.le_refl _))
        replace BB := hide (BB.out.trans (Q.mono BB.out.size))
        have bB : nB ≤ 60 := by rw [← RB.hlen]; simp; omega
        generalize l2.take 60 = lB at *
        have HB := hide RB
        clear RB Q
        clear H1 H2
        go_wp2_with fail
        refine (and_any _ _ _ _ _ HM.out hi6' (by have := hT.out; omega)).mono ?_
        intro e wx R0
        obtain ⟨lX, aX, nX, cX, eX, rfl, RX, Q, DX⟩ := R0.weak
        replace HM := hide (HM.out.kept Q (Nat.le_refl _))
        replace HA := hide (HA.out.kept Q (Nat.le_refl _))
        replace HB := hide (HB.out.kept Q (Nat.le_refl _))
        replace BB := hide (BB.out.trans (Q.mono BB.out.size))
        have HX := hide RX
        replace DX := hide DX
        clear RX Q R0
        go_wp2_with fail
        refine (rand_any _ _ _ _ _ HM.out hi6' (by have := hT.out; omega)).mono ?_
        intro e wx R0
        obtain ⟨lY, aY, nY, cY, eY, rfl, RY, Q, DY⟩ := R0
        replace HM := hide (HM.out.kept Q (Nat.le_refl _))
        replace HA := hide (HA.out.kept Q (Nat.le_refl _))
        replace HB := hide (HB.out.kept Q (Nat.le_refl _))
        replace HX := hide (HX.out.kept Q (Nat.le_refl _))
        replace BB := hide (BB.out.trans (Q.mono BB.out.size))
        have HY := hide RY
        replace DY := hide DY
        clear RY Q
        obtain ⟨q1, q2, q3⟩ := retW_same DX.out DY.out
        subst q1 q2
        have bX : nX ≤ 1000 := by have := HX.out.hlen; have := hT.out; omega
        clear q3 DX DY
        go_wp2_with fail
        refine (or_any _ _ _ _ _ HM.out hi6' (by have := hT.out; omega)).mono ?_
        intro e wx R0
        obtain ⟨lP, aP, nP, cP, eP, rfl, RP, Q, DP⟩ := R0.weak
        replace HM := hide (HM.out.kept Q (Nat.le_refl _))
        replace HA := hide (HA.out.kept Q (Nat.le_refl _))
        replace HB := hide (HB.out.kept Q (Nat.le_refl _))
        replace HX := hide (HX.out.kept Q (Nat.le_refl _))
        replace HY := hide (HY.out.kept Q (Nat.le_refl _))
        replace BB := hide (BB.out.trans (Q.mono BB.out.size))
        have HP := hide RP
        replace DP := hide DP
        clear RP Q R0
        go_wp2_with fail
        refine (ror_any _ _ _ _ _ HM.out hi6' (by have := hT.out; omega)).mono ?_
        intro e wx R0
        obtain ⟨lR, aR, nR, cR, eR, rfl, RR, Q, DR⟩ := R0
        replace HM := hide (HM.out.kept Q (Nat.le_refl _))
        replace HA := hide (HA.out.kept Q (Nat.le_refl _))
        replace HB := hide (HB.out.kept Q (Nat.le_refl _))
        replace HX := hide (HX.out.kept Q (Nat.le_refl _))
        replace HY := hide (HY.out.kept Q (Nat.le_refl _))
        replace HP := hide (HP.out.kept Q (Nat.le_refl _))
        replace BB := hide (BB.out.trans (Q.mono BB.out.size))
        have HR := hide RR
        replace DR := hide DR
        clear RR Q
        obtain ⟨q1, q2, q3⟩ := retW_same DP.out DR.out
        subst q1 q2
        have bP : nP ≤ 1000 := by have := HP.out.hlen; have := hT.out; omega
        clear q3 DP DR
        go_wp2_with fail
        refine (same_yes HX.out HY.out (by omega) rfl).mono ?_
        rintro e wx ⟨rfl, Q⟩
        replace HA := hide (HA.out.kept Q (Nat.le_refl _))
        replace HB := hide (HB.out.kept Q (Nat.le_refl _))
        replace HX := hide (HX.out.kept Q (Nat.le_refl _))
        replace HY := hide (HY.out.kept Q (Nat.le_refl _))
        replace HP := hide (HP.out.kept Q (Nat.le_refl _))
        replace HR := hide (HR.out.kept Q (Nat.le_refl _))
        replace BB := hide (BB.out.trans (Q.mono BB.out.size))
        clear Q
        go_wp2_with fail
        refine (same_yes HP.out HR.out (by omega) rfl).mono ?_
        rintro e wx ⟨rfl, Q⟩
        replace HA := hide (HA.out.kept Q (Nat.le_refl _))
        replace HB := hide (HB.out.kept Q (Nat.le_refl _))
        replace HX := hide (HX.out.kept Q (Nat.le_refl _))
        replace HY := hide (HY.out.kept Q (Nat.le_refl _))
        replace HP := hide (HP.out.kept Q (Nat.le_refl _))
        replace HR := hide (HR.out.kept Q (Nat.le_refl _))
        replace BB := hide (BB.out.trans (Q.mono BB.out.size))
        clear Q
        clear HX HY HP HR HM bX bP hT
        go_wp2_with fail
        refine (check_any _ _ _ _ _ HA.out (by omega)).mono ?_
        rintro e wx ⟨rfl, Q⟩
        replace HA := hide (HA.out.kept Q (Nat.le_refl _))
        replace HB := hide (HB.out.kept Q (Nat.le_refl _))
        replace BB := hide (BB.out.trans (Q.mono BB.out.size))
        clear Q
        go_wp2_with fail
        refine (rcheck_any _ _ _ _ _ HA.out (by omega)).mono ?_
        rintro e wx ⟨rfl, Q⟩
        replace HA := hide (HA.out.kept Q (Nat.le_refl _))
        replace HB := hide (HB.out.kept Q (Nat.le_refl _))
        replace BB := hide (BB.out.trans (Q.mono BB.out.size))
        clear Q
        have hAl := hide HA.out.hlen
        have hBl := hide HB.out.hlen
        go_wp2_with fail
        refine (own_any _ _ _ _ _ HA.out).mono ?_
        rintro e wx ⟨aC, nC, cC, rfl, RC, Q, _⟩
        replace HA := hide (HA.out.kept Q (Nat.le_refl _))
        replace HB := hide (HB.out.kept Q (Nat.le_refl _))
        replace BB := hide (BB.out.trans (Q.mono BB.out.size))
        rw [List.take_of_length_le (by rw [HA.out.hlen]; exact bA)] at RC
        have bC : nC ≤ 60 := by rw [← RC.hlen, HA.out.hlen]; exact bA
        have HC := hide RC
        clear RC Q
        go_wp2_with fail
        refine (own_any _ _ _ _ _ HB.out).mono ?_
        rintro e wx ⟨aD, nD, cD, rfl, RD, Q, _⟩
        replace HA := hide (HA.out.kept Q (Nat.le_refl _))
        replace HB := hide (HB.out.kept Q (Nat.le_refl _))
        replace HC := hide (HC.out.kept Q (Nat.le_refl _))
        replace BB := hide (BB.out.trans (Q.mono BB.out.size))
        rw [List.take_of_length_le (by rw [HB.out.hlen]; exact bB)] at RD
        have bD : nD ≤ 60 := by rw [← RD.hlen, HB.out.hlen]; exact bB
        have HD := hide RD
        clear RD Q
        go_wp2_with fail
        refine (but_any _ _ _ _ _ _ _ _ _ HC.out HD.out (by omega) (by omega)).mono ?_
        intro e wx R0
        obtain ⟨lE, aE, nE, cE, eE, rfl, RE, Q, DE⟩ := R0.weak
        replace HA := hide (HA.out.kept Q (Nat.le_refl _))
        replace HB := hide (HB.out.kept Q (Nat.le_refl _))
        replace HC := hide (HC.out.kept Q (Nat.le_refl _))
        replace HD := hide (HD.out.kept Q (Nat.le_refl _))
        replace BB := hide (BB.out.trans (Q.mono BB.out.size))
        have HE := hide RE
        replace DE := hide DE
        clear RE Q R0
        go_wp2_with fail
        refine (rbut_any _ _ _ _ _ _ _ _ _ HA.out HB.out (by omega) (by omega)).mono ?_
        intro e wx R0
        obtain ⟨lF, aF, nF, cF, eF, rfl, RF, Q, DF⟩ := R0.weak
        replace HA := hide (HA.out.kept Q (Nat.le_refl _))
        replace HB := hide (HB.out.kept Q (Nat.le_refl _))
        replace HC := hide (HC.out.kept Q (Nat.le_refl _))
        replace HD := hide (HD.out.kept Q (Nat.le_refl _))
        replace HE := hide (HE.out.kept Q (Nat.le_refl _))
        replace BB := hide (BB.out.trans (Q.mono BB.out.size))
        have HF := hide RF
        replace DF := hide DF
        clear RF Q R0
        obtain ⟨q1, q2, q3⟩ := retW_same DE.out DF.out
        subst q1 q2
        have bE : nE ≤ 1000 := by have := HE.out.hlen; have := hAl.out; have := hBl.out; omega
        clear q3 DE DF
        clear HC HD bC bD
        go_wp2_with fail
        refine (own_any _ _ _ _ _ HA.out).mono ?_
        rintro e wx ⟨aG, nG, cG, rfl, RG, Q, _⟩
        replace HA := hide (HA.out.kept Q (Nat.le_refl _))
        replace HB := hide (HB.out.kept Q (Nat.le_refl _))
        replace HE := hide (HE.out.kept Q (Nat.le_refl _))
        replace HF := hide (HF.out.kept Q (Nat.le_refl _))
        replace BB := hide (BB.out.trans (Q.mono BB.out.size))
        rw [List.take_of_length_le (by rw [HA.out.hlen]; exact bA)] at RG
        have bG : nG ≤ 60 := by rw [← RG.hlen, HA.out.hlen]; exact bA
        have HG := hide RG
        clear RG Q
        go_wp2_with fail
        refine (add_any _ _ _ _ _ HG.out (by omega) x hx).mono ?_
        intro e wx R0
        obtain ⟨lI, aI, nI, cI, eI, rfl, RI, Q, DI⟩ := R0.weak
        replace HA := hide (HA.out.kept Q (Nat.le_refl _))
        replace HB := hide (HB.out.kept Q (Nat.le_refl _))
        replace HE := hide (HE.out.kept Q (Nat.le_refl _))
        replace HF := hide (HF.out.kept Q (Nat.le_refl _))
        replace HG := hide (HG.out.kept Q (Nat.le_refl _))
        replace BB := hide (BB.out.trans (Q.mono BB.out.size))
        have HI := hide RI
        replace DI := hide DI
        clear RI Q R0
        go_wp2_with fail
        refine (radd_any _ _ _ _ _ HA.out (by omega) x hx).mono ?_
        intro e wx R0
        obtain ⟨lJ, aJ, nJ, cJ, eJ, rfl, RJ, Q, DJ⟩ := R0.weak
        replace HA := hide (HA.out.kept Q (Nat.le_refl _))
        replace HB := hide (HB.out.kept Q (Nat.le_refl _))
        replace HE := hide (HE.out.kept Q (Nat.le_refl _))
        replace HF := hide (HF.out.kept Q (Nat.le_refl _))
        replace HG := hide (HG.out.kept Q (Nat.le_refl _))
        replace HI := hide (HI.out.kept Q (Nat.le_refl _))
        replace BB := hide (BB.out.trans (Q.mono BB.out.size))
        have HJ := hide RJ
        replace DJ := hide DJ
        clear RJ Q R0
        obtain ⟨q1, q2, q3⟩ := retW_same DI.out DJ.out
        subst q1 q2
        have bI : nI ≤ 1000 := by have := HI.out.hlen; have := hAl.out; omega
        clear q3 DI DJ
        clear HG bG
        go_wp2_with fail
        refine (same_yes HE.out HF.out (by omega) rfl).mono ?_
        rintro e wx ⟨rfl, Q⟩
        replace HA := hide (HA.out.kept Q (Nat.le_refl _))
        replace HB := hide (HB.out.kept Q (Nat.le_refl _))
        replace HE := hide (HE.out.kept Q (Nat.le_refl _))
        replace HF := hide (HF.out.kept Q (Nat.le_refl _))
        replace HI := hide (HI.out.kept Q (Nat.le_refl _))
        replace HJ := hide (HJ.out.kept Q (Nat.le_refl _))
        replace BB := hide (BB.out.trans (Q.mono BB.out.size))
        clear Q
        go_wp2_with fail
        refine (same_yes HI.out HJ.out (by omega) rfl).mono ?_
        rintro e wx ⟨rfl, Q⟩
        replace HA := hide (HA.out.kept Q (Nat.le_refl _))
        replace HB := hide (HB.out.kept Q (Nat.le_refl _))
        replace HE := hide (HE.out.kept Q (Nat.le_refl _))
        replace HF := hide (HF.out.kept Q (Nat.le_refl _))
        replace HI := hide (HI.out.kept Q (Nat.le_refl _))
        replace HJ := hide (HJ.out.kept Q (Nat.le_refl _))
        replace BB := hide (BB.out.trans (Q.mono BB.out.size))
        clear Q
        clear HE HF HI HJ bE bI
        go_wp2_with fail
        refine (own_any _ _ _ _ _ HA.out).mono ?_
        rintro e wx ⟨aK, nK, cK, rfl, RK, Q, _⟩
        replace HA := hide (HA.out.kept Q (Nat.le_refl _))
        replace HB := hide (HB.out.kept Q (Nat.le_refl _))
        replace BB := hide (BB.out.trans (Q.mono BB.out.size))
        rw [List.take_of_length_le (by rw [HA.out.hlen]; exact bA)] at RK
        have bK : nK ≤ 60 := by rw [← RK.hlen, HA.out.hlen]; exact bA
        have HK := hide RK
        clear RK Q
        go_wp2_with fail
        refine (drop_any _ _ _ _ _ HK.out (by omega) x hx).mono ?_
        intro e wx R0
        obtain ⟨lL, aL, nL, cL, eL, rfl, RL, Q, DL⟩ := R0.weak
        replace HA := hide (HA.out.kept Q (Nat.le_refl _))
        replace HB := hide (HB.out.kept Q (Nat.le_refl _))
        replace HK := hide (HK.out.kept Q (Nat.le_refl _))
        replace BB := hide (BB.out.trans (Q.mono BB.out.size))
        have HL := hide RL
        replace DL := hide DL
        clear RL Q R0
        go_wp2_with fail
        refine (rdrop_any _ _ _ _ _ HA.out (by omega) x hx).mono ?_
        intro e wx R0
        obtain ⟨lN, aN, nN, cN, eN, rfl, RN, Q, DN⟩ := R0.weak
        replace HA := hide (HA.out.kept Q (Nat.le_refl _))
        replace HB := hide (HB.out.kept Q (Nat.le_refl _))
        replace HK := hide (HK.out.kept Q (Nat.le_refl _))
        replace HL := hide (HL.out.kept Q (Nat.le_refl _))
        replace BB := hide (BB.out.trans (Q.mono BB.out.size))
        have HN := hide RN
        replace DN := hide DN
        clear RN Q R0
        obtain ⟨q1, q2, q3⟩ := retW_same DL.out DN.out
        subst q1 q2
        have bL : nL ≤ 1000 := by have := HL.out.hlen; have := hAl.out; omega
        clear q3 DL DN
        clear HK bK
        go_wp2_with fail
        refine (own_any _ _ _ _ _ HA.out).mono ?_
        rintro e wx ⟨aS, nS, cS, rfl, RS, Q, _⟩
        replace HA := hide (HA.out.kept Q (Nat.le_refl _))
        replace HB := hide (HB.out.kept Q (Nat.le_refl _))
        replace HL := hide (HL.out.kept Q (Nat.le_refl _))
        replace HN := hide (HN.out.kept Q (Nat.le_refl _))
        replace BB := hide (BB.out.trans (Q.mono BB.out.size))
        rw [List.take_of_length_le (by rw [HA.out.hlen]; exact bA)] at RS
        have bS : nS ≤ 60 := by rw [← RS.hlen, HA.out.hlen]; exact bA
        have HS := hide RS
        clear RS Q
        go_wp2_with fail
        refine (has_any _ _ _ _ _ HS.out (by omega) x).mono ?_
        rintro e wx ⟨rfl, Q⟩
        replace HA := hide (HA.out.kept Q (Nat.le_refl _))
        replace HB := hide (HB.out.kept Q (Nat.le_refl _))
        replace HL := hide (HL.out.kept Q (Nat.le_refl _))
        replace HN := hide (HN.out.kept Q (Nat.le_refl _))
        replace HS := hide (HS.out.kept Q (Nat.le_refl _))
        replace BB := hide (BB.out.trans (Q.mono BB.out.size))
        clear Q
        clear HS bS
        go_wp2_with fail
        refine (rhas_any _ _ _ _ _ HA.out (by omega) x).mono ?_
        rintro e wx ⟨rfl, Q⟩
        replace HA := hide (HA.out.kept Q (Nat.le_refl _))
        replace HB := hide (HB.out.kept Q (Nat.le_refl _))
        replace HL := hide (HL.out.kept Q (Nat.le_refl _))
        replace HN := hide (HN.out.kept Q (Nat.le_refl _))
        replace BB := hide (BB.out.trans (Q.mono BB.out.size))
        clear Q
        generalize (upB lA && decide (x ∈ lA)) = bb at *
        go_wp2_with fail
        refine (same_yes HL.out HN.out (by omega) rfl).mono ?_
        rintro e wx ⟨rfl, Q⟩
        replace HA := hide (HA.out.kept Q (Nat.le_refl _))
        replace HB := hide (HB.out.kept Q (Nat.le_refl _))
        replace HL := hide (HL.out.kept Q (Nat.le_refl _))
        replace HN := hide (HN.out.kept Q (Nat.le_refl _))
        replace BB := hide (BB.out.trans (Q.mono BB.out.size))
        clear Q
        go_wp2_with fail
        refine (works_any _).mono ?_
        rintro e wx ⟨rfl, Q⟩
        replace HA := hide (HA.out.kept Q (Nat.le_refl _))
        replace HB := hide (HB.out.kept Q (Nat.le_refl _))
        replace HL := hide (HL.out.kept Q (Nat.le_refl _))
        replace HN := hide (HN.out.kept Q (Nat.le_refl _))
        replace BB := hide (BB.out.trans (Q.mono BB.out.size))
        clear Q
        go_wp2_with fail
        go_ret
        exact ⟨rfl, BB.out⟩
      · skip
        go_wp2_with fail
        refine (own_any _ _ _ _ _ H1.out).mono ?_
        rintro e wx ⟨aA, nA, cA, rfl, RA, Q, _⟩
        replace H1 := hide (H1.out.kept Q (Nat.le_refl _))
        replace H2 := hide (H2.out.kept Q (Nat.le_refl _))
        replace HM := hide (HM.out.kept Q (Nat.le_refl _))
        replace BB := hide (BB.out.trans (Q.mono BB.out.size))
        have bA : nA ≤ 60 := by rw [← RA.hlen]; simp; omega
        generalize l1.take 60 = lA at *
        have HA := hide RA
        clear RA Q
        go_wp2_with fail
        refine (own_any _ _ _ _ _ H2.out).mono ?_
        rintro e wx ⟨aB, nB, cB, rfl, RB, Q, _⟩
        replace H1 := hide (H1.out.kept Q (Nat.le_refl _))
        replace H2 := hide (H2.out.kept Q (Nat.le_refl _))
        replace HM := hide (HM.out.kept Q (Nat.le_refl _))
        replace HA := hide (HA.out.kept Q (Nat.le_refl _))
        replace BB := hide (BB.out.trans (Q.mono BB.out.size))
        have bB : nB ≤ 60 := by rw [← RB.hlen]; simp; omega
        generalize l2.take 60 = lB at *
        have HB := hide RB
        clear RB Q
        clear H1 H2
        go_wp2_with fail
        refine (and_any _ _ _ _ _ HM.out hi6' (by have := hT.out; omega)).mono ?_
        intro e wx R0
        obtain ⟨lX, aX, nX, cX, eX, rfl, RX, Q, DX⟩ := R0.weak
        replace HM := hide (HM.out.kept Q (Nat.le_refl _))
        replace HA := hide (HA.out.kept Q (Nat.le_refl _))
        replace HB := hide (HB.out.kept Q (Nat.le_refl _))
        replace BB := hide (BB.out.trans (Q.mono BB.out.size))
        have HX := hide RX
        replace DX := hide DX
        clear RX Q R0
        go_wp2_with fail
        refine (rand_any _ _ _ _ _ HM.out hi6' (by have := hT.out; omega)).mono ?_
        intro e wx R0
        obtain ⟨lY, aY, nY, cY, eY, rfl, RY, Q, DY⟩ := R0
        replace HM := hide (HM.out.kept Q (Nat.le_refl _))
        replace HA := hide (HA.out.kept Q (Nat.le_refl _))
        replace HB := hide (HB.out.kept Q (Nat.le_refl _))
        replace HX := hide (HX.out.kept Q (Nat.le_refl _))
        replace BB := hide (BB.out.trans (Q.mono BB.out.size))
        have HY := hide RY
        replace DY := hide DY
        clear RY Q
        obtain ⟨q1, q2, q3⟩ := retW_same DX.out DY.out
        subst q1 q2
        have bX : nX ≤ 1000 := by have := HX.out.hlen; have := hT.out; omega
        clear q3 DX DY
        go_wp2_with fail
        refine (or_any _ _ _ _ _ HM.out hi6' (by have := hT.out; omega)).mono ?_
        intro e wx R0
        obtain ⟨lP, aP, nP, cP, eP, rfl, RP, Q, DP⟩ := R0.weak
        replace HM := hide (HM.out.kept Q (Nat.le_refl _))
        replace HA := hide (HA.out.kept Q (Nat.le_refl _))
        replace HB := hide (HB.out.kept Q (Nat.le_refl _))
        replace HX := hide (HX.out.kept Q (Nat.le_refl _))
        replace HY := hide (HY.out.kept Q (Nat.le_refl _))
        replace BB := hide (BB.out.trans (Q.mono BB.out.size))
        have HP := hide RP
        replace DP := hide DP
        clear RP Q R0
        go_wp2_with fail
        refine (ror_any _ _ _ _ _ HM.out hi6' (by have := hT.out; omega)).mono ?_
        intro e wx R0
        obtain ⟨lR, aR, nR, cR, eR, rfl, RR, Q, DR⟩ := R0
        replace HM := hide (HM.out.kept Q (Nat.le_refl _))
        replace HA := hide (HA.out.kept Q (Nat.le_refl _))
        replace HB := hide (HB.out.kept Q (Nat.le_refl _))
        replace HX := hide (HX.out.kept Q (Nat.le_refl _))
        replace HY := hide (HY.out.kept Q (Nat.le_refl _))
        replace HP := hide (HP.out.kept Q (Nat.le_refl _))
        replace BB := hide (BB.out.trans (Q.mono BB.out.size))
        have HR := hide RR
        replace DR := hide DR
        clear RR Q
        obtain ⟨q1, q2, q3⟩ := retW_same DP.out DR.out
        subst q1 q2
        have bP : nP ≤ 1000 := by have := HP.out.hlen; have := hT.out; omega
        clear q3 DP DR
        go_wp2_with fail
        refine (same_yes HX.out HY.out (by omega) rfl).mono ?_
        rintro e wx ⟨rfl, Q⟩
        replace HA := hide (HA.out.kept Q (Nat.le_refl _))
        replace HB := hide (HB.out.kept Q (Nat.le_refl _))
        replace HX := hide (HX.out.kept Q (Nat.le_refl _))
        replace HY := hide (HY.out.kept Q (Nat.le_refl _))
        replace HP := hide (HP.out.kept Q (Nat.le_refl _))
        replace HR := hide (HR.out.kept Q (Nat.le_refl _))
        replace BB := hide (BB.out.trans (Q.mono BB.out.size))
        clear Q
        go_wp2_with fail
        refine (same_yes HP.out HR.out (by omega) rfl).mono ?_
        rintro e wx ⟨rfl, Q⟩
        replace HA := hide (HA.out.kept Q (Nat.le_refl _))
        replace HB := hide (HB.out.kept Q (Nat.le_refl _))
        replace HX := hide (HX.out.kept Q (Nat.le_refl _))
        replace HY := hide (HY.out.kept Q (Nat.le_refl _))
        replace HP := hide (HP.out.kept Q (Nat.le_refl _))
        replace HR := hide (HR.out.kept Q (Nat.le_refl _))
        replace BB := hide (BB.out.trans (Q.mono BB.out.size))
        clear Q
        clear HX HY HP HR HM bX bP hT
        go_wp2_with fail
        refine (check_any _ _ _ _ _ HA.out (by omega)).mono ?_
        rintro e wx ⟨rfl, Q⟩
        replace HA := hide (HA.out.kept Q (Nat.le_refl _))
        replace HB := hide (HB.out.kept Q (Nat.le_refl _))
        replace BB := hide (BB.out.trans (Q.mono BB.out.size))
        clear Q
        go_wp2_with fail
        refine (rcheck_any _ _ _ _ _ HA.out (by omega)).mono ?_
        rintro e wx ⟨rfl, Q⟩
        replace HA := hide (HA.out.kept Q (Nat.le_refl _))
        replace HB := hide (HB.out.kept Q (Nat.le_refl _))
        replace BB := hide (BB.out.trans (Q.mono BB.out.size))
        clear Q
        have hAl := hide HA.out.hlen
        have hBl := hide HB.out.hlen
        go_wp2_with fail
        refine (own_any _ _ _ _ _ HA.out).mono ?_
        rintro e wx ⟨aC, nC, cC, rfl, RC, Q, _⟩
        replace HA := hide (HA.out.kept Q (Nat.le_refl _))
        replace HB := hide (HB.out.kept Q (Nat.le_refl _))
        replace BB := hide (BB.out.trans (Q.mono BB.out.size))
        rw [List.take_of_length_le (by rw [HA.out.hlen]; exact bA)] at RC
        have bC : nC ≤ 60 := by rw [← RC.hlen, HA.out.hlen]; exact bA
        have HC := hide RC
        clear RC Q
        go_wp2_with fail
        refine (own_any _ _ _ _ _ HB.out).mono ?_
        rintro e wx ⟨aD, nD, cD, rfl, RD, Q, _⟩
        replace HA := hide (HA.out.kept Q (Nat.le_refl _))
        replace HB := hide (HB.out.kept Q (Nat.le_refl _))
        replace HC := hide (HC.out.kept Q (Nat.le_refl _))
        replace BB := hide (BB.out.trans (Q.mono BB.out.size))
        rw [List.take_of_length_le (by rw [HB.out.hlen]; exact bB)] at RD
        have bD : nD ≤ 60 := by rw [← RD.hlen, HB.out.hlen]; exact bB
        have HD := hide RD
        clear RD Q
        go_wp2_with fail
        refine (but_any _ _ _ _ _ _ _ _ _ HC.out HD.out (by omega) (by omega)).mono ?_
        intro e wx R0
        obtain ⟨lE, aE, nE, cE, eE, rfl, RE, Q, DE⟩ := R0.weak
        replace HA := hide (HA.out.kept Q (Nat.le_refl _))
        replace HB := hide (HB.out.kept Q (Nat.le_refl _))
        replace HC := hide (HC.out.kept Q (Nat.le_refl _))
        replace HD := hide (HD.out.kept Q (Nat.le_refl _))
        replace BB := hide (BB.out.trans (Q.mono BB.out.size))
        have HE := hide RE
        replace DE := hide DE
        clear RE Q R0
        go_wp2_with fail
        refine (rbut_any _ _ _ _ _ _ _ _ _ HA.out HB.out (by omega) (by omega)).mono ?_
        intro e wx R0
        obtain ⟨lF, aF, nF, cF, eF, rfl, RF, Q, DF⟩ := R0.weak
        replace HA := hide (HA.out.kept Q (Nat.le_refl _))
        replace HB := hide (HB.out.kept Q (Nat.le_refl _))
        replace HC := hide (HC.out.kept Q (Nat.le_refl _))
        replace HD := hide (HD.out.kept Q (Nat.le_refl _))
        replace HE := hide (HE.out.kept Q (Nat.le_refl _))
        replace BB := hide (BB.out.trans (Q.mono BB.out.size))
        have HF := hide RF
        replace DF := hide DF
        clear RF Q R0
        obtain ⟨q1, q2, q3⟩ := retW_same DE.out DF.out
        subst q1 q2
        have bE : nE ≤ 1000 := by have := HE.out.hlen; have := hAl.out; have := hBl.out; omega
        clear q3 DE DF
        clear HC HD bC bD
        go_wp2_with fail
        refine (own_any _ _ _ _ _ HA.out).mono ?_
        rintro e wx ⟨aG, nG, cG, rfl, RG, Q, _⟩
        replace HA := hide (HA.out.kept Q (Nat.le_refl _))
        replace HB := hide (HB.out.kept Q (Nat.le_refl _))
        replace HE := hide (HE.out.kept Q (Nat.le_refl _))
        replace HF := hide (HF.out.kept Q (Nat.le_refl _))
        replace BB := hide (BB.out.trans (Q.mono BB.out.size))
        rw [List.take_of_length_le (by rw [HA.out.hlen]; exact bA)] at RG
        have bG : nG ≤ 60 := by rw [← RG.hlen, HA.out.hlen]; exact bA
        have HG := hide RG
        clear RG Q
        go_wp2_with fail
        refine (add_any _ _ _ _ _ HG.out (by omega) x hx).mono ?_
        intro e wx R0
        obtain ⟨lI, aI, nI, cI, eI, rfl, RI, Q, DI⟩ := R0.weak
        replace HA := hide (HA.out.kept Q (Nat.le_refl _))
        replace HB := hide (HB.out.kept Q (Nat.le_refl _))
        replace HE := hide (HE.out.kept Q (Nat.le_refl _))
        replace HF := hide (HF.out.kept Q (Nat.le_refl _))
        replace HG := hide (HG.out.kept Q (Nat.le_refl _))
        replace BB := hide (BB.out.trans (Q.mono BB.out.size))
        have HI := hide RI
        replace DI := hide DI
        clear RI Q R0
        go_wp2_with fail
        refine (radd_any _ _ _ _ _ HA.out (by omega) x hx).mono ?_
        intro e wx R0
        obtain ⟨lJ, aJ, nJ, cJ, eJ, rfl, RJ, Q, DJ⟩ := R0.weak
        replace HA := hide (HA.out.kept Q (Nat.le_refl _))
        replace HB := hide (HB.out.kept Q (Nat.le_refl _))
        replace HE := hide (HE.out.kept Q (Nat.le_refl _))
        replace HF := hide (HF.out.kept Q (Nat.le_refl _))
        replace HG := hide (HG.out.kept Q (Nat.le_refl _))
        replace HI := hide (HI.out.kept Q (Nat.le_refl _))
        replace BB := hide (BB.out.trans (Q.mono BB.out.size))
        have HJ := hide RJ
        replace DJ := hide DJ
        clear RJ Q R0
        obtain ⟨q1, q2, q3⟩ := retW_same DI.out DJ.out
        subst q1 q2
        have bI : nI ≤ 1000 := by have := HI.out.hlen; have := hAl.out; omega
        clear q3 DI DJ
        clear HG bG
        go_wp2_with fail
        refine (same_yes HE.out HF.out (by omega) rfl).mono ?_
        rintro e wx ⟨rfl, Q⟩
        replace HA := hide (HA.out.kept Q (Nat.le_refl _))
        replace HB := hide (HB.out.kept Q (Nat.le_refl _))
        replace HE := hide (HE.out.kept Q (Nat.le_refl _))
        replace HF := hide (HF.out.kept Q (Nat.le_refl _))
        replace HI := hide (HI.out.kept Q (Nat.le_refl _))
        replace HJ := hide (HJ.out.kept Q (Nat.le_refl _))
        replace BB := hide (BB.out.trans (Q.mono BB.out.size))
        clear Q
        go_wp2_with fail
        refine (same_yes HI.out HJ.out (by omega) rfl).mono ?_
        rintro e wx ⟨rfl, Q⟩
        replace HA := hide (HA.out.kept Q (Nat.le_refl _))
        replace HB := hide (HB.out.kept Q (Nat.le_refl _))
        replace HE := hide (HE.out.kept Q (Nat.le_refl _))
        replace HF := hide (HF.out.kept Q (Nat.le_refl _))
        replace HI := hide (HI.out.kept Q (Nat.le_refl _))
        replace HJ := hide (HJ.out.kept Q (Nat.le_refl _))
        replace BB := hide (BB.out.trans (Q.mono BB.out.size))
        clear Q
        clear HE HF HI HJ bE bI
        go_wp2_with fail
        refine (own_any _ _ _ _ _ HA.out).mono ?_
        rintro e wx ⟨aK, nK, cK, rfl, RK, Q, _⟩
        replace HA := hide (HA.out.kept Q (Nat.le_refl _))
        replace HB := hide (HB.out.kept Q (Nat.le_refl _))
        replace BB := hide (BB.out.trans (Q.mono BB.out.size))
        rw [List.take_of_length_le (by rw [HA.out.hlen]; exact bA)] at RK
        have bK : nK ≤ 60 := by rw [← RK.hlen, HA.out.hlen]; exact bA
        have HK := hide RK
        clear RK Q
        go_wp2_with fail
        refine (drop_any _ _ _ _ _ HK.out (by omega) x hx).mono ?_
        intro e wx R0
        obtain ⟨lL, aL, nL, cL, eL, rfl, RL, Q, DL⟩ := R0.weak
        replace HA := hide (HA.out.kept Q (Nat.le_refl _))
        replace HB := hide (HB.out.kept Q (Nat.le_refl _))
        replace HK := hide (HK.out.kept Q (Nat.le_refl _))
        replace BB := hide (BB.out.trans (Q.mono BB.out.size))
        have HL := hide RL
        replace DL := hide DL
        clear RL Q R0
        go_wp2_with fail
        refine (rdrop_any _ _ _ _ _ HA.out (by omega) x hx).mono ?_
        intro e wx R0
        obtain ⟨lN, aN, nN, cN, eN, rfl, RN, Q, DN⟩ := R0.weak
        replace HA := hide (HA.out.kept Q (Nat.le_refl _))
        replace HB := hide (HB.out.kept Q (Nat.le_refl _))
        replace HK := hide (HK.out.kept Q (Nat.le_refl _))
        replace HL := hide (HL.out.kept Q (Nat.le_refl _))
        replace BB := hide (BB.out.trans (Q.mono BB.out.size))
        have HN := hide RN
        replace DN := hide DN
        clear RN Q R0
        obtain ⟨q1, q2, q3⟩ := retW_same DL.out DN.out
        subst q1 q2
        have bL : nL ≤ 1000 := by have := HL.out.hlen; have := hAl.out; omega
        clear q3 DL DN
        clear HK bK
        go_wp2_with fail
        refine (own_any _ _ _ _ _ HA.out).mono ?_
        rintro e wx ⟨aS, nS, cS, rfl, RS, Q, _⟩
        replace HA := hide (HA.out.kept Q (Nat.le_refl _))
        replace HB := hide (HB.out.kept Q (Nat.le_refl _))
        replace HL := hide (HL.out.kept Q (Nat.le_refl _))
        replace HN := hide (HN.out.kept Q (Nat.le_refl _))
        replace BB := hide (BB.out.trans (Q.mono BB.out.size))
        rw [List.take_of_length_le (by rw [HA.out.hlen]; exact bA)] at RS
        have bS : nS ≤ 60 := by rw [← RS.hlen, HA.out.hlen]; exact bA
        have HS := hide RS
        clear RS Q
        go_wp2_with fail
        refine (has_any _ _ _ _ _ HS.out (by omega) x).mono ?_
        rintro e wx ⟨rfl, Q⟩
        replace HA := hide (HA.out.kept Q (Nat.le_refl _))
        replace HB := hide (HB.out.kept Q (Nat.le_refl _))
        replace HL := hide (HL.out.kept Q (Nat.le_refl _))
        replace HN := hide (HN.out.kept Q (Nat.le_refl _))
        replace HS := hide (HS.out.kept Q (Nat.le_refl _))
        replace BB := hide (BB.out.trans (Q.mono BB.out.size))
        clear Q
        clear HS bS
        go_wp2_with fail
        refine (rhas_any _ _ _ _ _ HA.out (by omega) x).mono ?_
        rintro e wx ⟨rfl, Q⟩
        replace HA := hide (HA.out.kept Q (Nat.le_refl _))
        replace HB := hide (HB.out.kept Q (Nat.le_refl _))
        replace HL := hide (HL.out.kept Q (Nat.le_refl _))
        replace HN := hide (HN.out.kept Q (Nat.le_refl _))
        replace BB := hide (BB.out.trans (Q.mono BB.out.size))
        clear Q
        generalize (upB lA && decide (x ∈ lA)) = bb at *
        go_wp2_with fail
        refine (same_yes HL.out HN.out (by omega) rfl).mono ?_
        rintro e wx ⟨rfl, Q⟩
        replace HA := hide (HA.out.kept Q (Nat.le_refl _))
        replace HB := hide (HB.out.kept Q (Nat.le_refl _))
        replace HL := hide (HL.out.kept Q (Nat.le_refl _))
        replace HN := hide (HN.out.kept Q (Nat.le_refl _))
        replace BB := hide (BB.out.trans (Q.mono BB.out.size))
        clear Q
        go_wp2_with fail
        refine (works_any _).mono ?_
        rintro e wx ⟨rfl, Q⟩
        replace HA := hide (HA.out.kept Q (Nat.le_refl _))
        replace HB := hide (HB.out.kept Q (Nat.le_refl _))
        replace HL := hide (HL.out.kept Q (Nat.le_refl _))
        replace HN := hide (HN.out.kept Q (Nat.le_refl _))
        replace BB := hide (BB.out.trans (Q.mono BB.out.size))
        clear Q
        go_wp2_with fail
        go_ret
        exact ⟨rfl, BB.out⟩
end Go.Proofs.Ythkfbdcocnhebaa
