/-
  The walk of PostSets.
-/
import Derived.Test.YthkfbdcocnhebaaI
namespace Go.Proofs.Ythkfbdcocnhebaa
open Go.RowKit
set_option linter.unusedVariables false
set_option linter.unusedSimpArgs false

set_option maxHeartbeats 40000000 in
set_option maxRecDepth 100000 in
theorem setsW (a0 : Option Addr) (len0 cap0 : Nat) (l0 : List Int) (a1 : Option Addr) (len1 cap1 : Nat) (l1 : List Int) (a2 : Option Addr) (len2 cap2 : Nat) (l2 : List Int) (w : World) (K0 : HasU w a0 len0 cap0 l0) (K1 : HasU w a1 len1 cap1 l1) (K2 : HasU w a2 len2 cap2 l2) :
    Calls Try.prog 6 #[.slice a0 len0 cap0, .slice a1 len1 cap1, .slice a2 len2 cap2] w fun e w' => e = .returned (.bool true) ∧ Below w.heap.size w w' := by
  have H0 := hide K0
  have H1 := hide K1
  have H2 := hide K2
  have BB := hide (Below.refl w.heap.size w)
  clear K0 K1 K2
  go_enter Try.func6, Try.ntmps6
  go_wp2_with fail
  refine (works_any w).mono ?_
  rintro e w1 ⟨rfl, Qw⟩
  replace H0 := hide (H0.out.kept Qw (Nat.le_refl _))
  replace H1 := hide (H1.out.kept Qw (Nat.le_refl _))
  replace H2 := hide (H2.out.kept Qw (Nat.le_refl _))
  replace BB := hide (BB.out.trans (Qw.mono BB.out.size))
  clear Qw
  go_wp2_with fail
  refine (rising_any _ _ _ _ _ H0.out).mono ?_
  rintro e w2 ⟨lA, aA, nA, cA, rfl, RA, QA, uA, mA⟩
  replace H0 := hide (H0.out.kept QA (Nat.le_refl _))
  replace H1 := hide (H1.out.kept QA (Nat.le_refl _))
  replace H2 := hide (H2.out.kept QA (Nat.le_refl _))
  replace BB := hide (BB.out.trans (QA.mono BB.out.size))
  have HA := hide RA
  have UA := hide uA
  have LA : Hid (lA.length ≤ 40) := by show _ ≤ _; omega
  clear RA uA mA
  clear QA
  go_wp2_with fail
  refine (rising_any _ _ _ _ _ H1.out).mono ?_
  rintro e w3 ⟨lB, aB, nB, cB, rfl, RB, QB, uB, mB⟩
  replace H0 := hide (H0.out.kept QB (Nat.le_refl _))
  replace H1 := hide (H1.out.kept QB (Nat.le_refl _))
  replace H2 := hide (H2.out.kept QB (Nat.le_refl _))
  replace HA := hide (HA.out.kept QB (Nat.le_refl _))
  replace BB := hide (BB.out.trans (QB.mono BB.out.size))
  have HB := hide RB
  have UB := hide uB
  have LB : Hid (lB.length ≤ 40) := by show _ ≤ _; omega
  clear RB uB mB
  clear QB
  go_wp2_with fail
  refine (rising_any _ _ _ _ _ H2.out).mono ?_
  rintro e w4 ⟨lC, aC, nC, cC, rfl, RC, QC, uC, mC⟩
  replace H0 := hide (H0.out.kept QC (Nat.le_refl _))
  replace H1 := hide (H1.out.kept QC (Nat.le_refl _))
  replace H2 := hide (H2.out.kept QC (Nat.le_refl _))
  replace HA := hide (HA.out.kept QC (Nat.le_refl _))
  replace HB := hide (HB.out.kept QC (Nat.le_refl _))
  replace BB := hide (BB.out.trans (QC.mono BB.out.size))
  have HC := hide RC
  have UC := hide uC
  have LC : Hid (lC.length ≤ 40) := by show _ ≤ _; omega
  clear RC uC mC
  clear QC
  have hA := HA.out.hlen
  have hB := HB.out.hlen
  have hLA := LA.out
  have hLB := LB.out
  go_wp2_with fail
  refine (but_any _ _ _ _ _ _ _ _ _ HA.out HB.out (by omega) (by omega)).mono ?_
  intro e w5 RD0
  obtain ⟨lD, aD, nD, cD, rfl, RD, QD, uD, mD, kD⟩ := RD0.out ⟨UA.out, UB.out⟩
  replace H0 := hide (H0.out.kept QD (Nat.le_refl _))
  replace H1 := hide (H1.out.kept QD (Nat.le_refl _))
  replace H2 := hide (H2.out.kept QD (Nat.le_refl _))
  replace HA := hide (HA.out.kept QD (Nat.le_refl _))
  replace HB := hide (HB.out.kept QD (Nat.le_refl _))
  replace HC := hide (HC.out.kept QD (Nat.le_refl _))
  replace BB := hide (BB.out.trans (QD.mono BB.out.size))
  have HD := hide RD
  have UD := hide uD
  have MD := hide mD
  have LD : Hid (lD.length ≤ 80) := by show _ ≤ _; omega
  clear RD uD mD kD RD0 hA hB hLA hLB
  clear QD
  have qA := LA.out
  have qB := LB.out
  have qC := LC.out
  go_wp2_with fail
  refine (and3 HA.out HB.out HC.out UA.out UB.out UC.out (by have := LA.out; omega) (by have := LB.out; omega) (by have := LC.out; omega)).mono ?_
  rintro e w6 ⟨lE, aE, nE, cE, rfl, RE, QE, uE, mE, kE⟩
  replace H0 := hide (H0.out.kept QE (Nat.le_refl _))
  replace H1 := hide (H1.out.kept QE (Nat.le_refl _))
  replace H2 := hide (H2.out.kept QE (Nat.le_refl _))
  replace HA := hide (HA.out.kept QE (Nat.le_refl _))
  replace HB := hide (HB.out.kept QE (Nat.le_refl _))
  replace HC := hide (HC.out.kept QE (Nat.le_refl _))
  replace HD := hide (HD.out.kept QE (Nat.le_refl _))
  replace BB := hide (BB.out.trans (QE.mono BB.out.size))
  have HE := hide RE
  have UE := hide uE
  have ME := hide mE
  have LE : Hid (lE.length ≤ 120) := by show _ ≤ _; omega
  clear RE uE mE kE qA qB qC
  clear QE
  have qC := LC.out
  have qA := LA.out
  have qB := LB.out
  go_wp2_with fail
  refine (and3 HC.out HA.out HB.out UC.out UA.out UB.out (by have := LC.out; omega) (by have := LA.out; omega) (by have := LB.out; omega)).mono ?_
  rintro e w7 ⟨lF, aF, nF, cF, rfl, RF, QF, uF, mF, kF⟩
  replace H0 := hide (H0.out.kept QF (Nat.le_refl _))
  replace H1 := hide (H1.out.kept QF (Nat.le_refl _))
  replace H2 := hide (H2.out.kept QF (Nat.le_refl _))
  replace HA := hide (HA.out.kept QF (Nat.le_refl _))
  replace HB := hide (HB.out.kept QF (Nat.le_refl _))
  replace HC := hide (HC.out.kept QF (Nat.le_refl _))
  replace HD := hide (HD.out.kept QF (Nat.le_refl _))
  replace HE := hide (HE.out.kept QF (Nat.le_refl _))
  replace BB := hide (BB.out.trans (QF.mono BB.out.size))
  have HF := hide RF
  have UF := hide uF
  have MF := hide mF
  have LF : Hid (lF.length ≤ 120) := by show _ ≤ _; omega
  clear RF uF mF kF qC qA qB
  clear QF
  have e8 : lE = lF := up_ext UE.out UF.out (fun x => by
    simp only [ME.out x, MF.out x]
    by_cases h1 : x ∈ lA <;> by_cases h2 : x ∈ lB <;> by_cases h3 : x ∈ lC <;> simp [h1, h2, h3])
  replace e8 := hide e8
  have s8 := HE.out.hlen
  have t8 := LE.out
  go_wp2_with fail
  refine (same_yes HE.out HF.out (by omega) e8.out).mono ?_
  rintro e w8 ⟨rfl, QS8⟩
  replace H0 := hide (H0.out.kept QS8 (Nat.le_refl _))
  replace H1 := hide (H1.out.kept QS8 (Nat.le_refl _))
  replace H2 := hide (H2.out.kept QS8 (Nat.le_refl _))
  replace HA := hide (HA.out.kept QS8 (Nat.le_refl _))
  replace HB := hide (HB.out.kept QS8 (Nat.le_refl _))
  replace HC := hide (HC.out.kept QS8 (Nat.le_refl _))
  replace HD := hide (HD.out.kept QS8 (Nat.le_refl _))
  replace HE := hide (HE.out.kept QS8 (Nat.le_refl _))
  replace HF := hide (HF.out.kept QS8 (Nat.le_refl _))
  replace BB := hide (BB.out.trans (QS8.mono BB.out.size))
  clear s8 t8
  clear QS8
  have qA := LA.out
  have qB := LB.out
  have qC := LC.out
  go_wp2_with fail
  refine (or3 HA.out HB.out HC.out UA.out UB.out UC.out (by have := LA.out; omega) (by have := LB.out; omega) (by have := LC.out; omega)).mono ?_
  rintro e w9 ⟨lG, aG, nG, cG, rfl, RG, QG, uG, mG, kG⟩
  replace H0 := hide (H0.out.kept QG (Nat.le_refl _))
  replace H1 := hide (H1.out.kept QG (Nat.le_refl _))
  replace H2 := hide (H2.out.kept QG (Nat.le_refl _))
  replace HA := hide (HA.out.kept QG (Nat.le_refl _))
  replace HB := hide (HB.out.kept QG (Nat.le_refl _))
  replace HC := hide (HC.out.kept QG (Nat.le_refl _))
  replace HD := hide (HD.out.kept QG (Nat.le_refl _))
  replace HE := hide (HE.out.kept QG (Nat.le_refl _))
  replace HF := hide (HF.out.kept QG (Nat.le_refl _))
  replace BB := hide (BB.out.trans (QG.mono BB.out.size))
  have HG := hide RG
  have UG := hide uG
  have MG := hide mG
  have LG : Hid (lG.length ≤ 120) := by show _ ≤ _; omega
  clear RG uG mG kG qA qB qC
  clear QG
  have qC := LC.out
  have qB := LB.out
  have qA := LA.out
  go_wp2_with fail
  refine (or3 HC.out HB.out HA.out UC.out UB.out UA.out (by have := LC.out; omega) (by have := LB.out; omega) (by have := LA.out; omega)).mono ?_
  rintro e w10 ⟨lI, aI, nI, cI, rfl, RI, QI, uI, mI, kI⟩
  replace H0 := hide (H0.out.kept QI (Nat.le_refl _))
  replace H1 := hide (H1.out.kept QI (Nat.le_refl _))
  replace H2 := hide (H2.out.kept QI (Nat.le_refl _))
  replace HA := hide (HA.out.kept QI (Nat.le_refl _))
  replace HB := hide (HB.out.kept QI (Nat.le_refl _))
  replace HC := hide (HC.out.kept QI (Nat.le_refl _))
  replace HD := hide (HD.out.kept QI (Nat.le_refl _))
  replace HE := hide (HE.out.kept QI (Nat.le_refl _))
  replace HF := hide (HF.out.kept QI (Nat.le_refl _))
  replace HG := hide (HG.out.kept QI (Nat.le_refl _))
  replace BB := hide (BB.out.trans (QI.mono BB.out.size))
  have HI := hide RI
  have UI := hide uI
  have MI := hide mI
  have LI : Hid (lI.length ≤ 120) := by show _ ≤ _; omega
  clear RI uI mI kI qC qB qA
  clear QI
  have e11 : lG = lI := up_ext UG.out UI.out (fun x => by
    simp only [MG.out x, MI.out x]
    by_cases h1 : x ∈ lA <;> by_cases h2 : x ∈ lB <;> by_cases h3 : x ∈ lC <;> simp [h1, h2, h3])
  replace e11 := hide e11
  have s11 := HG.out.hlen
  have t11 := LG.out
  go_wp2_with fail
  refine (same_yes HG.out HI.out (by omega) e11.out).mono ?_
  rintro e w11 ⟨rfl, QS11⟩
  replace H0 := hide (H0.out.kept QS11 (Nat.le_refl _))
  replace H1 := hide (H1.out.kept QS11 (Nat.le_refl _))
  replace H2 := hide (H2.out.kept QS11 (Nat.le_refl _))
  replace HA := hide (HA.out.kept QS11 (Nat.le_refl _))
  replace HB := hide (HB.out.kept QS11 (Nat.le_refl _))
  replace HC := hide (HC.out.kept QS11 (Nat.le_refl _))
  replace HD := hide (HD.out.kept QS11 (Nat.le_refl _))
  replace HE := hide (HE.out.kept QS11 (Nat.le_refl _))
  replace HF := hide (HF.out.kept QS11 (Nat.le_refl _))
  replace HG := hide (HG.out.kept QS11 (Nat.le_refl _))
  replace HI := hide (HI.out.kept QS11 (Nat.le_refl _))
  replace BB := hide (BB.out.trans (QS11.mono BB.out.size))
  clear s11 t11
  clear QS11
  have qB := LB.out
  have qC := LC.out
  go_wp2_with fail
  refine (or2 HB.out HC.out UB.out UC.out (by have := LB.out; omega) (by have := LC.out; omega)).mono ?_
  rintro e w12 ⟨lJ, aJ, nJ, cJ, rfl, RJ, QJ, uJ, mJ, kJ⟩
  replace H0 := hide (H0.out.kept QJ (Nat.le_refl _))
  replace H1 := hide (H1.out.kept QJ (Nat.le_refl _))
  replace H2 := hide (H2.out.kept QJ (Nat.le_refl _))
  replace HA := hide (HA.out.kept QJ (Nat.le_refl _))
  replace HB := hide (HB.out.kept QJ (Nat.le_refl _))
  replace HC := hide (HC.out.kept QJ (Nat.le_refl _))
  replace HD := hide (HD.out.kept QJ (Nat.le_refl _))
  replace HE := hide (HE.out.kept QJ (Nat.le_refl _))
  replace HF := hide (HF.out.kept QJ (Nat.le_refl _))
  replace HG := hide (HG.out.kept QJ (Nat.le_refl _))
  replace HI := hide (HI.out.kept QJ (Nat.le_refl _))
  replace BB := hide (BB.out.trans (QJ.mono BB.out.size))
  have HJ := hide RJ
  have UJ := hide uJ
  have MJ := hide mJ
  have LJ : Hid (lJ.length ≤ 80) := by show _ ≤ _; omega
  clear RJ uJ mJ kJ qB qC
  clear QJ
  have qA := LA.out
  have qJ := LJ.out
  go_wp2_with fail
  refine (and2 HA.out HJ.out UA.out UJ.out (by have := LA.out; omega) (by have := LJ.out; omega)).mono ?_
  rintro e w13 ⟨lK, aK, nK, cK, rfl, RK, QK, uK, mK, kK⟩
  replace H0 := hide (H0.out.kept QK (Nat.le_refl _))
  replace H1 := hide (H1.out.kept QK (Nat.le_refl _))
  replace H2 := hide (H2.out.kept QK (Nat.le_refl _))
  replace HA := hide (HA.out.kept QK (Nat.le_refl _))
  replace HB := hide (HB.out.kept QK (Nat.le_refl _))
  replace HC := hide (HC.out.kept QK (Nat.le_refl _))
  replace HD := hide (HD.out.kept QK (Nat.le_refl _))
  replace HE := hide (HE.out.kept QK (Nat.le_refl _))
  replace HF := hide (HF.out.kept QK (Nat.le_refl _))
  replace HG := hide (HG.out.kept QK (Nat.le_refl _))
  replace HI := hide (HI.out.kept QK (Nat.le_refl _))
  replace HJ := hide (HJ.out.kept QK (Nat.le_refl _))
  replace BB := hide (BB.out.trans (QK.mono BB.out.size))
  have HK := hide RK
  have UK := hide uK
  have MK := hide mK
  have LK : Hid (lK.length ≤ 120) := by show _ ≤ _; omega
  clear RK uK mK kK qA qJ
  clear QK
  have qA := LA.out
  have qB := LB.out
  go_wp2_with fail
  refine (and2 HA.out HB.out UA.out UB.out (by have := LA.out; omega) (by have := LB.out; omega)).mono ?_
  rintro e w14 ⟨lN, aN, nN, cN, rfl, RN, QN, uN, mN, kN⟩
  replace H0 := hide (H0.out.kept QN (Nat.le_refl _))
  replace H1 := hide (H1.out.kept QN (Nat.le_refl _))
  replace H2 := hide (H2.out.kept QN (Nat.le_refl _))
  replace HA := hide (HA.out.kept QN (Nat.le_refl _))
  replace HB := hide (HB.out.kept QN (Nat.le_refl _))
  replace HC := hide (HC.out.kept QN (Nat.le_refl _))
  replace HD := hide (HD.out.kept QN (Nat.le_refl _))
  replace HE := hide (HE.out.kept QN (Nat.le_refl _))
  replace HF := hide (HF.out.kept QN (Nat.le_refl _))
  replace HG := hide (HG.out.kept QN (Nat.le_refl _))
  replace HI := hide (HI.out.kept QN (Nat.le_refl _))
  replace HJ := hide (HJ.out.kept QN (Nat.le_refl _))
  replace HK := hide (HK.out.kept QN (Nat.le_refl _))
  replace BB := hide (BB.out.trans (QN.mono BB.out.size))
  have HN := hide RN
  have UN := hide uN
  have MN := hide mN
  have LN : Hid (lN.length ≤ 80) := by show _ ≤ _; omega
  clear RN uN mN kN qA qB
  clear QN
  have qA := LA.out
  have qC := LC.out
  go_wp2_with fail
  refine (and2 HA.out HC.out UA.out UC.out (by have := LA.out; omega) (by have := LC.out; omega)).mono ?_
  rintro e w15 ⟨lO, aO, nO, cO, rfl, RO, QO, uO, mO, kO⟩
  replace H0 := hide (H0.out.kept QO (Nat.le_refl _))
  replace H1 := hide (H1.out.kept QO (Nat.le_refl _))
  replace H2 := hide (H2.out.kept QO (Nat.le_refl _))
  replace HA := hide (HA.out.kept QO (Nat.le_refl _))
  replace HB := hide (HB.out.kept QO (Nat.le_refl _))
  replace HC := hide (HC.out.kept QO (Nat.le_refl _))
  replace HD := hide (HD.out.kept QO (Nat.le_refl _))
  replace HE := hide (HE.out.kept QO (Nat.le_refl _))
  replace HF := hide (HF.out.kept QO (Nat.le_refl _))
  replace HG := hide (HG.out.kept QO (Nat.le_refl _))
  replace HI := hide (HI.out.kept QO (Nat.le_refl _))
  replace HJ := hide (HJ.out.kept QO (Nat.le_refl _))
  replace HK := hide (HK.out.kept QO (Nat.le_refl _))
  replace HN := hide (HN.out.kept QO (Nat.le_refl _))
  replace BB := hide (BB.out.trans (QO.mono BB.out.size))
  have HO := hide RO
  have UO := hide uO
  have MO := hide mO
  have LO : Hid (lO.length ≤ 80) := by show _ ≤ _; omega
  clear RO uO mO kO qA qC
  clear QO
  have qN := LN.out
  have qO := LO.out
  go_wp2_with fail
  refine (or2 HN.out HO.out UN.out UO.out (by have := LN.out; omega) (by have := LO.out; omega)).mono ?_
  rintro e w16 ⟨lP, aP, nP, cP, rfl, RP, QP, uP, mP, kP⟩
  replace H0 := hide (H0.out.kept QP (Nat.le_refl _))
  replace H1 := hide (H1.out.kept QP (Nat.le_refl _))
  replace H2 := hide (H2.out.kept QP (Nat.le_refl _))
  replace HA := hide (HA.out.kept QP (Nat.le_refl _))
  replace HB := hide (HB.out.kept QP (Nat.le_refl _))
  replace HC := hide (HC.out.kept QP (Nat.le_refl _))
  replace HD := hide (HD.out.kept QP (Nat.le_refl _))
  replace HE := hide (HE.out.kept QP (Nat.le_refl _))
  replace HF := hide (HF.out.kept QP (Nat.le_refl _))
  replace HG := hide (HG.out.kept QP (Nat.le_refl _))
  replace HI := hide (HI.out.kept QP (Nat.le_refl _))
  replace HJ := hide (HJ.out.kept QP (Nat.le_refl _))
  replace HK := hide (HK.out.kept QP (Nat.le_refl _))
  replace HN := hide (HN.out.kept QP (Nat.le_refl _))
  replace HO := hide (HO.out.kept QP (Nat.le_refl _))
  replace BB := hide (BB.out.trans (QP.mono BB.out.size))
  have HP := hide RP
  have UP := hide uP
  have MP := hide mP
  have LP : Hid (lP.length ≤ 160) := by show _ ≤ _; omega
  clear RP uP mP kP qN qO
  clear QP
  have e17 : lK = lP := up_ext UK.out UP.out (fun x => by
    simp only [MK.out x, MJ.out x, MP.out x, MN.out x, MO.out x]
    by_cases h1 : x ∈ lA <;> by_cases h2 : x ∈ lB <;> by_cases h3 : x ∈ lC <;> simp [h1, h2, h3])
  replace e17 := hide e17
  have s17 := HK.out.hlen
  have t17 := LK.out
  go_wp2_with fail
  refine (same_yes HK.out HP.out (by omega) e17.out).mono ?_
  rintro e w17 ⟨rfl, QS17⟩
  replace H0 := hide (H0.out.kept QS17 (Nat.le_refl _))
  replace H1 := hide (H1.out.kept QS17 (Nat.le_refl _))
  replace H2 := hide (H2.out.kept QS17 (Nat.le_refl _))
  replace HA := hide (HA.out.kept QS17 (Nat.le_refl _))
  replace HB := hide (HB.out.kept QS17 (Nat.le_refl _))
  replace HC := hide (HC.out.kept QS17 (Nat.le_refl _))
  replace HD := hide (HD.out.kept QS17 (Nat.le_refl _))
  replace HE := hide (HE.out.kept QS17 (Nat.le_refl _))
  replace HF := hide (HF.out.kept QS17 (Nat.le_refl _))
  replace HG := hide (HG.out.kept QS17 (Nat.le_refl _))
  replace HI := hide (HI.out.kept QS17 (Nat.le_refl _))
  replace HJ := hide (HJ.out.kept QS17 (Nat.le_refl _))
  replace HK := hide (HK.out.kept QS17 (Nat.le_refl _))
  replace HN := hide (HN.out.kept QS17 (Nat.le_refl _))
  replace HO := hide (HO.out.kept QS17 (Nat.le_refl _))
  replace HP := hide (HP.out.kept QS17 (Nat.le_refl _))
  replace BB := hide (BB.out.trans (QS17.mono BB.out.size))
  clear s17 t17
  clear QS17
  have qB := LB.out
  have qC := LC.out
  go_wp2_with fail
  refine (and2 HB.out HC.out UB.out UC.out (by have := LB.out; omega) (by have := LC.out; omega)).mono ?_
  rintro e w18 ⟨lR, aR, nR, cR, rfl, RR, QR, uR, mR, kR⟩
  replace H0 := hide (H0.out.kept QR (Nat.le_refl _))
  replace H1 := hide (H1.out.kept QR (Nat.le_refl _))
  replace H2 := hide (H2.out.kept QR (Nat.le_refl _))
  replace HA := hide (HA.out.kept QR (Nat.le_refl _))
  replace HB := hide (HB.out.kept QR (Nat.le_refl _))
  replace HC := hide (HC.out.kept QR (Nat.le_refl _))
  replace HD := hide (HD.out.kept QR (Nat.le_refl _))
  replace HE := hide (HE.out.kept QR (Nat.le_refl _))
  replace HF := hide (HF.out.kept QR (Nat.le_refl _))
  replace HG := hide (HG.out.kept QR (Nat.le_refl _))
  replace HI := hide (HI.out.kept QR (Nat.le_refl _))
  replace HJ := hide (HJ.out.kept QR (Nat.le_refl _))
  replace HK := hide (HK.out.kept QR (Nat.le_refl _))
  replace HN := hide (HN.out.kept QR (Nat.le_refl _))
  replace HO := hide (HO.out.kept QR (Nat.le_refl _))
  replace HP := hide (HP.out.kept QR (Nat.le_refl _))
  replace BB := hide (BB.out.trans (QR.mono BB.out.size))
  have HR := hide RR
  have UR := hide uR
  have MR := hide mR
  have LR : Hid (lR.length ≤ 80) := by show _ ≤ _; omega
  clear RR uR mR kR qB qC
  clear QR
  have qA := LA.out
  have qR := LR.out
  go_wp2_with fail
  refine (or2 HA.out HR.out UA.out UR.out (by have := LA.out; omega) (by have := LR.out; omega)).mono ?_
  rintro e w19 ⟨lS, aS, nS, cS, rfl, RS, QS, uS, mS, kS⟩
  replace H0 := hide (H0.out.kept QS (Nat.le_refl _))
  replace H1 := hide (H1.out.kept QS (Nat.le_refl _))
  replace H2 := hide (H2.out.kept QS (Nat.le_refl _))
  replace HA := hide (HA.out.kept QS (Nat.le_refl _))
  replace HB := hide (HB.out.kept QS (Nat.le_refl _))
  replace HC := hide (HC.out.kept QS (Nat.le_refl _))
  replace HD := hide (HD.out.kept QS (Nat.le_refl _))
  replace HE := hide (HE.out.kept QS (Nat.le_refl _))
  replace HF := hide (HF.out.kept QS (Nat.le_refl _))
  replace HG := hide (HG.out.kept QS (Nat.le_refl _))
  replace HI := hide (HI.out.kept QS (Nat.le_refl _))
  replace HJ := hide (HJ.out.kept QS (Nat.le_refl _))
  replace HK := hide (HK.out.kept QS (Nat.le_refl _))
  replace HN := hide (HN.out.kept QS (Nat.le_refl _))
  replace HO := hide (HO.out.kept QS (Nat.le_refl _))
  replace HP := hide (HP.out.kept QS (Nat.le_refl _))
  replace HR := hide (HR.out.kept QS (Nat.le_refl _))
  replace BB := hide (BB.out.trans (QS.mono BB.out.size))
  have HS := hide RS
  have US := hide uS
  have MS := hide mS
  have LS : Hid (lS.length ≤ 120) := by show _ ≤ _; omega
  clear RS uS mS kS qA qR
  clear QS
  have qA := LA.out
  have qB := LB.out
  go_wp2_with fail
  refine (or2 HA.out HB.out UA.out UB.out (by have := LA.out; omega) (by have := LB.out; omega)).mono ?_
  rintro e w20 ⟨lT, aT, nT, cT, rfl, RT, QT, uT, mT, kT⟩
  replace H0 := hide (H0.out.kept QT (Nat.le_refl _))
  replace H1 := hide (H1.out.kept QT (Nat.le_refl _))
  replace H2 := hide (H2.out.kept QT (Nat.le_refl _))
  replace HA := hide (HA.out.kept QT (Nat.le_refl _))
  replace HB := hide (HB.out.kept QT (Nat.le_refl _))
  replace HC := hide (HC.out.kept QT (Nat.le_refl _))
  replace HD := hide (HD.out.kept QT (Nat.le_refl _))
  replace HE := hide (HE.out.kept QT (Nat.le_refl _))
  replace HF := hide (HF.out.kept QT (Nat.le_refl _))
  replace HG := hide (HG.out.kept QT (Nat.le_refl _))
  replace HI := hide (HI.out.kept QT (Nat.le_refl _))
  replace HJ := hide (HJ.out.kept QT (Nat.le_refl _))
  replace HK := hide (HK.out.kept QT (Nat.le_refl _))
  replace HN := hide (HN.out.kept QT (Nat.le_refl _))
  replace HO := hide (HO.out.kept QT (Nat.le_refl _))
  replace HP := hide (HP.out.kept QT (Nat.le_refl _))
  replace HR := hide (HR.out.kept QT (Nat.le_refl _))
  replace HS := hide (HS.out.kept QT (Nat.le_refl _))
  replace BB := hide (BB.out.trans (QT.mono BB.out.size))
  have HT := hide RT
  have UT := hide uT
  have MT := hide mT
  have LT : Hid (lT.length ≤ 80) := by show _ ≤ _; omega
  clear RT uT mT kT qA qB
  clear QT
  have qA := LA.out
  have qC := LC.out
  go_wp2_with fail
  refine (or2 HA.out HC.out UA.out UC.out (by have := LA.out; omega) (by have := LC.out; omega)).mono ?_
  rintro e w21 ⟨lV, aV, nV, cV, rfl, RV, QV, uV, mV, kV⟩
  replace H0 := hide (H0.out.kept QV (Nat.le_refl _))
  replace H1 := hide (H1.out.kept QV (Nat.le_refl _))
  replace H2 := hide (H2.out.kept QV (Nat.le_refl _))
  replace HA := hide (HA.out.kept QV (Nat.le_refl _))
  replace HB := hide (HB.out.kept QV (Nat.le_refl _))
  replace HC := hide (HC.out.kept QV (Nat.le_refl _))
  replace HD := hide (HD.out.kept QV (Nat.le_refl _))
  replace HE := hide (HE.out.kept QV (Nat.le_refl _))
  replace HF := hide (HF.out.kept QV (Nat.le_refl _))
  replace HG := hide (HG.out.kept QV (Nat.le_refl _))
  replace HI := hide (HI.out.kept QV (Nat.le_refl _))
  replace HJ := hide (HJ.out.kept QV (Nat.le_refl _))
  replace HK := hide (HK.out.kept QV (Nat.le_refl _))
  replace HN := hide (HN.out.kept QV (Nat.le_refl _))
  replace HO := hide (HO.out.kept QV (Nat.le_refl _))
  replace HP := hide (HP.out.kept QV (Nat.le_refl _))
  replace HR := hide (HR.out.kept QV (Nat.le_refl _))
  replace HS := hide (HS.out.kept QV (Nat.le_refl _))
  replace HT := hide (HT.out.kept QV (Nat.le_refl _))
  replace BB := hide (BB.out.trans (QV.mono BB.out.size))
  have HV := hide RV
  have UV := hide uV
  have MV := hide mV
  have LV : Hid (lV.length ≤ 80) := by show _ ≤ _; omega
  clear RV uV mV kV qA qC
  clear QV
  have qT := LT.out
  have qV := LV.out
  go_wp2_with fail
  refine (and2 HT.out HV.out UT.out UV.out (by have := LT.out; omega) (by have := LV.out; omega)).mono ?_
  rintro e w22 ⟨lX, aX, nX, cX, rfl, RX, QX, uX, mX, kX⟩
  replace H0 := hide (H0.out.kept QX (Nat.le_refl _))
  replace H1 := hide (H1.out.kept QX (Nat.le_refl _))
  replace H2 := hide (H2.out.kept QX (Nat.le_refl _))
  replace HA := hide (HA.out.kept QX (Nat.le_refl _))
  replace HB := hide (HB.out.kept QX (Nat.le_refl _))
  replace HC := hide (HC.out.kept QX (Nat.le_refl _))
  replace HD := hide (HD.out.kept QX (Nat.le_refl _))
  replace HE := hide (HE.out.kept QX (Nat.le_refl _))
  replace HF := hide (HF.out.kept QX (Nat.le_refl _))
  replace HG := hide (HG.out.kept QX (Nat.le_refl _))
  replace HI := hide (HI.out.kept QX (Nat.le_refl _))
  replace HJ := hide (HJ.out.kept QX (Nat.le_refl _))
  replace HK := hide (HK.out.kept QX (Nat.le_refl _))
  replace HN := hide (HN.out.kept QX (Nat.le_refl _))
  replace HO := hide (HO.out.kept QX (Nat.le_refl _))
  replace HP := hide (HP.out.kept QX (Nat.le_refl _))
  replace HR := hide (HR.out.kept QX (Nat.le_refl _))
  replace HS := hide (HS.out.kept QX (Nat.le_refl _))
  replace HT := hide (HT.out.kept QX (Nat.le_refl _))
  replace HV := hide (HV.out.kept QX (Nat.le_refl _))
  replace BB := hide (BB.out.trans (QX.mono BB.out.size))
  have HX := hide RX
  have UX := hide uX
  have MX := hide mX
  have LX : Hid (lX.length ≤ 160) := by show _ ≤ _; omega
  clear RX uX mX kX qT qV
  clear QX
  have e23 : lS = lX := up_ext US.out UX.out (fun x => by
    simp only [MS.out x, MR.out x, MX.out x, MT.out x, MV.out x]
    by_cases h1 : x ∈ lA <;> by_cases h2 : x ∈ lB <;> by_cases h3 : x ∈ lC <;> simp [h1, h2, h3])
  replace e23 := hide e23
  have s23 := HS.out.hlen
  have t23 := LS.out
  go_wp2_with fail
  refine (same_yes HS.out HX.out (by omega) e23.out).mono ?_
  rintro e w23 ⟨rfl, QS23⟩
  replace H0 := hide (H0.out.kept QS23 (Nat.le_refl _))
  replace H1 := hide (H1.out.kept QS23 (Nat.le_refl _))
  replace H2 := hide (H2.out.kept QS23 (Nat.le_refl _))
  replace HA := hide (HA.out.kept QS23 (Nat.le_refl _))
  replace HB := hide (HB.out.kept QS23 (Nat.le_refl _))
  replace HC := hide (HC.out.kept QS23 (Nat.le_refl _))
  replace HD := hide (HD.out.kept QS23 (Nat.le_refl _))
  replace HE := hide (HE.out.kept QS23 (Nat.le_refl _))
  replace HF := hide (HF.out.kept QS23 (Nat.le_refl _))
  replace HG := hide (HG.out.kept QS23 (Nat.le_refl _))
  replace HI := hide (HI.out.kept QS23 (Nat.le_refl _))
  replace HJ := hide (HJ.out.kept QS23 (Nat.le_refl _))
  replace HK := hide (HK.out.kept QS23 (Nat.le_refl _))
  replace HN := hide (HN.out.kept QS23 (Nat.le_refl _))
  replace HO := hide (HO.out.kept QS23 (Nat.le_refl _))
  replace HP := hide (HP.out.kept QS23 (Nat.le_refl _))
  replace HR := hide (HR.out.kept QS23 (Nat.le_refl _))
  replace HS := hide (HS.out.kept QS23 (Nat.le_refl _))
  replace HT := hide (HT.out.kept QS23 (Nat.le_refl _))
  replace HV := hide (HV.out.kept QS23 (Nat.le_refl _))
  replace HX := hide (HX.out.kept QS23 (Nat.le_refl _))
  replace BB := hide (BB.out.trans (QS23.mono BB.out.size))
  clear s23 t23
  clear QS23
  have qA := LA.out
  have qB := LB.out
  go_wp2_with fail
  refine (and2 HA.out HB.out UA.out UB.out (by have := LA.out; omega) (by have := LB.out; omega)).mono ?_
  rintro e w24 ⟨lY, aY, nY, cY, rfl, RY, QY, uY, mY, kY⟩
  replace H0 := hide (H0.out.kept QY (Nat.le_refl _))
  replace H1 := hide (H1.out.kept QY (Nat.le_refl _))
  replace H2 := hide (H2.out.kept QY (Nat.le_refl _))
  replace HA := hide (HA.out.kept QY (Nat.le_refl _))
  replace HB := hide (HB.out.kept QY (Nat.le_refl _))
  replace HC := hide (HC.out.kept QY (Nat.le_refl _))
  replace HD := hide (HD.out.kept QY (Nat.le_refl _))
  replace HE := hide (HE.out.kept QY (Nat.le_refl _))
  replace HF := hide (HF.out.kept QY (Nat.le_refl _))
  replace HG := hide (HG.out.kept QY (Nat.le_refl _))
  replace HI := hide (HI.out.kept QY (Nat.le_refl _))
  replace HJ := hide (HJ.out.kept QY (Nat.le_refl _))
  replace HK := hide (HK.out.kept QY (Nat.le_refl _))
  replace HN := hide (HN.out.kept QY (Nat.le_refl _))
  replace HO := hide (HO.out.kept QY (Nat.le_refl _))
  replace HP := hide (HP.out.kept QY (Nat.le_refl _))
  replace HR := hide (HR.out.kept QY (Nat.le_refl _))
  replace HS := hide (HS.out.kept QY (Nat.le_refl _))
  replace HT := hide (HT.out.kept QY (Nat.le_refl _))
  replace HV := hide (HV.out.kept QY (Nat.le_refl _))
  replace HX := hide (HX.out.kept QY (Nat.le_refl _))
  replace BB := hide (BB.out.trans (QY.mono BB.out.size))
  have HY := hide RY
  have UY := hide uY
  have MY := hide mY
  have LY : Hid (lY.length ≤ 80) := by show _ ≤ _; omega
  clear RY uY mY kY qA qB
  clear QY
  have qD := LD.out
  have qY := LY.out
  go_wp2_with fail
  refine (or2 HD.out HY.out UD.out UY.out (by have := LD.out; omega) (by have := LY.out; omega)).mono ?_
  rintro e w25 ⟨lZ, aZ, nZ, cZ, rfl, RZ, QZ, uZ, mZ, kZ⟩
  replace H0 := hide (H0.out.kept QZ (Nat.le_refl _))
  replace H1 := hide (H1.out.kept QZ (Nat.le_refl _))
  replace H2 := hide (H2.out.kept QZ (Nat.le_refl _))
  replace HA := hide (HA.out.kept QZ (Nat.le_refl _))
  replace HB := hide (HB.out.kept QZ (Nat.le_refl _))
  replace HC := hide (HC.out.kept QZ (Nat.le_refl _))
  replace HD := hide (HD.out.kept QZ (Nat.le_refl _))
  replace HE := hide (HE.out.kept QZ (Nat.le_refl _))
  replace HF := hide (HF.out.kept QZ (Nat.le_refl _))
  replace HG := hide (HG.out.kept QZ (Nat.le_refl _))
  replace HI := hide (HI.out.kept QZ (Nat.le_refl _))
  replace HJ := hide (HJ.out.kept QZ (Nat.le_refl _))
  replace HK := hide (HK.out.kept QZ (Nat.le_refl _))
  replace HN := hide (HN.out.kept QZ (Nat.le_refl _))
  replace HO := hide (HO.out.kept QZ (Nat.le_refl _))
  replace HP := hide (HP.out.kept QZ (Nat.le_refl _))
  replace HR := hide (HR.out.kept QZ (Nat.le_refl _))
  replace HS := hide (HS.out.kept QZ (Nat.le_refl _))
  replace HT := hide (HT.out.kept QZ (Nat.le_refl _))
  replace HV := hide (HV.out.kept QZ (Nat.le_refl _))
  replace HX := hide (HX.out.kept QZ (Nat.le_refl _))
  replace HY := hide (HY.out.kept QZ (Nat.le_refl _))
  replace BB := hide (BB.out.trans (QZ.mono BB.out.size))
  have HZ := hide RZ
  have UZ := hide uZ
  have MZ := hide mZ
  have LZ : Hid (lZ.length ≤ 160) := by show _ ≤ _; omega
  clear RZ uZ mZ kZ qD qY
  clear QZ
  have e26 : lZ = lA := up_ext UZ.out UA.out (fun x => by
    simp only [MZ.out x, MD.out x, MY.out x]
    by_cases h1 : x ∈ lA <;> by_cases h2 : x ∈ lB <;> by_cases h3 : x ∈ lC <;> simp [h1, h2, h3])
  replace e26 := hide e26
  have s26 := HZ.out.hlen
  have t26 := LZ.out
  go_wp2_with fail
  refine (same_yes HZ.out HA.out (by omega) e26.out).mono ?_
  rintro e w26 ⟨rfl, QS26⟩
  replace H0 := hide (H0.out.kept QS26 (Nat.le_refl _))
  replace H1 := hide (H1.out.kept QS26 (Nat.le_refl _))
  replace H2 := hide (H2.out.kept QS26 (Nat.le_refl _))
  replace HA := hide (HA.out.kept QS26 (Nat.le_refl _))
  replace HB := hide (HB.out.kept QS26 (Nat.le_refl _))
  replace HC := hide (HC.out.kept QS26 (Nat.le_refl _))
  replace HD := hide (HD.out.kept QS26 (Nat.le_refl _))
  replace HE := hide (HE.out.kept QS26 (Nat.le_refl _))
  replace HF := hide (HF.out.kept QS26 (Nat.le_refl _))
  replace HG := hide (HG.out.kept QS26 (Nat.le_refl _))
  replace HI := hide (HI.out.kept QS26 (Nat.le_refl _))
  replace HJ := hide (HJ.out.kept QS26 (Nat.le_refl _))
  replace HK := hide (HK.out.kept QS26 (Nat.le_refl _))
  replace HN := hide (HN.out.kept QS26 (Nat.le_refl _))
  replace HO := hide (HO.out.kept QS26 (Nat.le_refl _))
  replace HP := hide (HP.out.kept QS26 (Nat.le_refl _))
  replace HR := hide (HR.out.kept QS26 (Nat.le_refl _))
  replace HS := hide (HS.out.kept QS26 (Nat.le_refl _))
  replace HT := hide (HT.out.kept QS26 (Nat.le_refl _))
  replace HV := hide (HV.out.kept QS26 (Nat.le_refl _))
  replace HX := hide (HX.out.kept QS26 (Nat.le_refl _))
  replace HY := hide (HY.out.kept QS26 (Nat.le_refl _))
  replace HZ := hide (HZ.out.kept QS26 (Nat.le_refl _))
  replace BB := hide (BB.out.trans (QS26.mono BB.out.size))
  clear s26 t26
  clear QS26
  have qD := LD.out
  have qB := LB.out
  go_wp2_with fail
  refine (and2 HD.out HB.out UD.out UB.out (by have := LD.out; omega) (by have := LB.out; omega)).mono ?_
  rintro e w27 ⟨lAA, aAA, nAA, cAA, rfl, RAA, QAA, uAA, mAA, kAA⟩
  replace H0 := hide (H0.out.kept QAA (Nat.le_refl _))
  replace H1 := hide (H1.out.kept QAA (Nat.le_refl _))
  replace H2 := hide (H2.out.kept QAA (Nat.le_refl _))
  replace HA := hide (HA.out.kept QAA (Nat.le_refl _))
  replace HB := hide (HB.out.kept QAA (Nat.le_refl _))
  replace HC := hide (HC.out.kept QAA (Nat.le_refl _))
  replace HD := hide (HD.out.kept QAA (Nat.le_refl _))
  replace HE := hide (HE.out.kept QAA (Nat.le_refl _))
  replace HF := hide (HF.out.kept QAA (Nat.le_refl _))
  replace HG := hide (HG.out.kept QAA (Nat.le_refl _))
  replace HI := hide (HI.out.kept QAA (Nat.le_refl _))
  replace HJ := hide (HJ.out.kept QAA (Nat.le_refl _))
  replace HK := hide (HK.out.kept QAA (Nat.le_refl _))
  replace HN := hide (HN.out.kept QAA (Nat.le_refl _))
  replace HO := hide (HO.out.kept QAA (Nat.le_refl _))
  replace HP := hide (HP.out.kept QAA (Nat.le_refl _))
  replace HR := hide (HR.out.kept QAA (Nat.le_refl _))
  replace HS := hide (HS.out.kept QAA (Nat.le_refl _))
  replace HT := hide (HT.out.kept QAA (Nat.le_refl _))
  replace HV := hide (HV.out.kept QAA (Nat.le_refl _))
  replace HX := hide (HX.out.kept QAA (Nat.le_refl _))
  replace HY := hide (HY.out.kept QAA (Nat.le_refl _))
  replace HZ := hide (HZ.out.kept QAA (Nat.le_refl _))
  replace BB := hide (BB.out.trans (QAA.mono BB.out.size))
  have HAA := hide RAA
  have UAA := hide uAA
  have MAA := hide mAA
  have LAA : Hid (lAA.length ≤ 120) := by show _ ≤ _; omega
  clear RAA uAA mAA kAA qD qB
  clear QAA
  have hz : lAA = [] := List.eq_nil_iff_forall_not_mem.2 (fun x hx => by
    have h1 := (MAA.out x).1 hx
    have h2 := (MD.out x).1 h1.1
    exact h2.2 h1.2)
  have hz2 := HAA.out.hlen
  rw [hz] at hz2
  have hz3 : nAA = 0 := hz2.symm
  clear hz2
  subst hz3
  go_wp2_with fail
  go_ret
  exact ⟨rfl, BB.out⟩
end Go.Proofs.Ythkfbdcocnhebaa
