/-
  DiskSure: the walk.
-/
import Derived.Test.YtgbijkdfhkkieaaTL
namespace Go.Proofs.Ytgbijkdfhkkieaa.diskSure
open Go.RowKit Go.Maps Go.Lib
set_option linter.unusedVariables false
set_option linter.unusedSimpArgs false
theorem emp_ne : ByteArray.empty ≠ nmK := fun h => by have := congrArg ByteArray.size h; cases this
theorem nmK_list : ByteArray.toList nmK = [107, 101, 112, 116] := by rw [ByteArray.toList_eq]; rfl
/-- Between two acts. -/
def Lp (w1 wr : World) (d ba g : Nat) (b : List Int) (K : Nat) : Prop := ∃ m T, Nd w1 wr d m T K ∧ Kpt m nmK g b ∧ Bx wr ba 28 #[.int .i64 0, .int .i64 0, .int .i64 0, .int .i64 0] ∧ ¬ T ba
theorem Lp.act {w1 wr wz w' : World} {d ba g K : Nat} {b : List Int} {m : M} {T : Nat → Prop} {y : Nat} {R : Nat → Prop} {s t : ByteArray} (hN : Nd w1 wr d m T K) (hK : Kpt m nmK g b) (hX : Bx wr ba 28 #[.int .i64 0, .int .i64 0, .int .i64 0, .int .i64 0]) (hT : ¬ T ba) (hz : Below wr.heap.size wr wz) (hR : ∀ x, R x → wr.heap.size ≤ x)
    (hF : Fin wz d y T R K s t m w') (hs : s ≠ nmK) (ht : t ≠ nmK) : Lp w1 w' d ba g b (K + 1) := by
  obtain ⟨m', r', T', R', h1, h2, h3, h4, h5⟩ := hF
  have hl := hX.lt
  refine ⟨m', T', ⟨h1.dk, h1.ok, ?_, fun x hx => ?_⟩, hK.next hN.dk h2 hs ht, (hX.below hz).but h3 (fun e => ?_), fun e => ?_⟩
  · refine (hN.bl.trans (hz.mono hN.bl.size)).trans ⟨h3.os, h3.tape, h3.output, h3.size, fun i hi => h3.block i (by have := hN.bl.size; have := hz.size; omega) (fun e => ?_)⟩
    rcases e with e | e
    · have := hN.tt i e; omega
    · have := hR i e; have := hN.bl.size; omega
  · rcases h4 x hx with e | e
    · exact hN.tt x e
    · have := hN.bl.size; have := hz.size; omega
  · rcases e with e | e
    · exact hT e
    · have := hR ba e; omega
  · rcases h4 ba e with e | e
    · exact hT e
    · have := hz.size; omega
set_option maxHeartbeats 32000000 in
set_option maxRecDepth 100000 in
theorem walk (a0 : Option Addr) (len0 cap0 : Nat) (A0 : Nat → Ac) (a1 : Option Addr) (len1 cap1 : Nat) (A1 : Nat → Ac) (a2 : Option Addr) (len2 cap2 : Nat) (l2 : List Int) (a3 : Option Addr) (len3 cap3 : Nat) (l3 : List Int) (w : World)
    (h0 : HasA w a0 len0 cap0 A0) (h1 : HasA w a1 len1 cap1 A1) (h2 : Has w a2 len2 cap2 l2) (h3 : Hi w a3 len3 cap3 l3) :
    Calls Try.prog 3 #[.slice a0 len0 cap0, .slice a1 len1 cap1, .slice a2 len2 cap2, .slice a3 len3 cap3] w fun e w' => e = .returned (.bool true) ∧ Below w.heap.size w w' := by
  obtain ⟨mb, hmb⟩ : ∃ mb, min len2 1500 = mb := ⟨_, rfl⟩
  have x1 : (if (len2 : Int) < 1500 then (len2 : Int) else 1500) = (mb : Int) := by rw [← hmb]; split <;> omega
  have x2 : (if (1500 : Int) < (len2 : Int) then 1500 else (len2 : Int)) = (mb : Int) := by rw [← hmb]; split <;> omega
  have x3 : min (len2 : Int) 1500 = (mb : Int) := by rw [← hmb]; omega
  obtain ⟨mp, hmp⟩ : ∃ mp, min len3 40 = mp := ⟨_, rfl⟩
  have y1 : (if (len3 : Int) < 40 then (len3 : Int) else 40) = (mp : Int) := by rw [← hmp]; split <;> omega
  have y2 : (if (40 : Int) < (len3 : Int) then 40 else (len3 : Int)) = (mp : Int) := by rw [← hmp]; split <;> omega
  have y3 : min (len3 : Int) 40 = (mp : Int) := by rw [← hmp]; omega
  have hmb1 : mb ≤ 1500 := by omega
  have hmp1 : mp ≤ 40 := by omega
  have rb := fun wx : World => run_h wx a2 len2 cap2 mb (Nat.le_trans (by omega) h2.le)
  have rp := fun wx : World => run_h24 wx a3 len3 cap3 mp (Nat.le_trans (by omega) h3.le)
  have HB := hide (h2.front mb (by omega))
  have HP := hide (h3.front mp (by omega))
  generalize l2.take mb = b at HB
  generalize l3.take mp = ps at HP
  have hbl : b.length ≤ 1500 := by have := HB.out.hlen; omega
  replace hmb := hide hmb
  replace hmp := hide hmp
  replace hbl := hide hbl
  replace h0 := hide h0
  replace h1 := hide h1
  clear h2 h3
  go_enter Try.func3, Try.ntmps3
  go_wp2_with fail
  refine (works_any w).mono ?_
  rintro e w1 ⟨rfl, B1⟩
  have H0 := hide (h0.out.kept B1)
  replace B1 := hide B1
  go_wp2_with fail
  refine (played_any H0.out).mono ?_
  rintro e w2 ⟨d, rfl, m2, T2, D2, O2, B2, hT2⟩
  have N2 : Hid (Nd w1 w2 d m2 T2 41) := ⟨D2, O2, B2, hT2⟩
  clear D2 O2 B2 hT2 h0 H0
  go_wp2_with fail
  go_quiet (fail)
  obtain ⟨w3, hw3⟩ : ∃ x, w2.drewN nq = x := ⟨_, rfl⟩
  have N3 : Hid (Nd w1 w3 d m2 T2 41) := by rw [← hw3]; exact N2.out.below (belowN (Below.refl _ w2) nq)
  rw [hw3]
  clear hw3 N2 x1 x2 x3 y1 y2 y3 rb rp
  clear nq
  go_wp2_with fail
  refine (crash_disk N3.out.dk (N3.out.ok.sm (by omega)) N3.out.ok.gs (hi_nil w3) (fun h => by omega)).mono ?_
  rintro e w4 ⟨q4, m4, T4, rfl, D4, U4, hq4, hm4⟩
  have N4 : Hid (Nd w1 w4 d m4 T4 42) := N3.out.next (s := ByteArray.empty) (t := ByteArray.empty) D4 U4 (by rw [hm4]; exact .crs [])
  have g4 : Hid (m4.gone = false ∧ m4.left = -1) := by rw [hm4]; exact ⟨rfl, rfl⟩
  clear D4 U4 hm4 hq4 N3
  go_wp2_with fail
  refine (room_disk N4.out.dk 65536).mono ?_
  rintro e w5 ⟨q5, m5, T5, rfl, D5, U5, hq5, hm5⟩
  rw [if_pos (by decide)] at hm5
  have N5 : Hid (Nd w1 w5 d m5 T5 43) := N4.out.next (s := ByteArray.empty) (t := ByteArray.empty) D5 U5 (by rw [hm5]; exact .rom _)
  have F5 : Hid (Fr m5) := by rw [hm5]; exact ⟨g4.out.2, g4.out.1, rfl⟩
  clear D5 U5 hm5 hq5 N4 g4
  go_wp2_with fail
  refine (remove_any N5.out.dk (N5.out.ok.sm (by omega)) nmK).mono ?_
  rintro e w6 ⟨q6, m6, T6, rfl, D6, U6, hF6⟩
  have N6 : Hid (Nd w1 w6 d m6 T6 44) := N5.out.next (s := nmK) (t := ByteArray.empty) D6 U6 (tu_rmv hF6)
  have F6 : Hid (Fr m6 ∧ m6.files.atKey (key nmK) .nil = .nil) := F5.out.rmv N5.out.dk hF6
  clear D6 U6 hF6 N5 F5
  go_wp2_with fail
  refine (create_any N6.out.dk (N6.out.ok.sm (by omega)) nmK).mono ?_
  rintro e w7 ⟨q7, m7, T7, rfl, D7, U7, hC7⟩
  have N7 : Hid (Nd w1 w7 d m7 T7 45) := N6.out.next (s := nmK) (t := ByteArray.empty) D7 U7 (tu_cr hC7)
  obtain ⟨hq7, g, S7⟩ := F6.out.1.crt N6.out.dk F6.out.2 hC7
  subst hq7
  replace S7 := hide S7
  have HB7 := hide (HB.out.kept (B1.out.trans (N7.out.bl.mono B1.out.size)) (Nat.le_refl _))
  clear D7 U7 hC7 N6 F6
  go_wp2_with fail
  refine (append_any N7.out.dk (N7.out.ok.sm (by omega)) nmK HB7.out (by omega) (fun hp k hk ht => by have := HB.out.bound hp hk; have := N7.out.tt k ht; have := B1.out.size; omega)).mono ?_
  rintro e w8 ⟨q8, m8, T8, rfl, D8, U8, hF8⟩
  have N8 : Hid (Nd w1 w8 d m8 T8 46) := N7.out.next (s := nmK) (t := ByteArray.empty) D8 U8 (N7.out.ok.app hbl.out hF8)
  obtain ⟨hq8, S8⟩ := S7.out.app N7.out.ok (by omega) hbl.out hF8
  subst hq8
  replace S8 := hide S8
  clear D8 U8 hF8 N7 S7 HB7
  go_wp2_with fail
  refine (sync_any N8.out.dk (N8.out.ok.sm (by omega)) nmK).mono ?_
  rintro e w9 ⟨q9, m9, T9, rfl, D9, U9, hF9⟩
  have N9 : Hid (Nd w1 w9 d m9 T9 47) := N8.out.next (s := nmK) (t := ByteArray.empty) D9 U9 (tu_syn hF9)
  obtain ⟨hq9, S9⟩ := S8.out.syn hF9
  subst hq9
  replace S9 := hide S9
  clear D9 U9 hF9 N8 S8
  go_wp2_with fail
  refine (syncDir_any N9.out.dk (N9.out.ok.sm (by omega))).mono ?_
  rintro e wA ⟨qA, mA, TA, rfl, DA, UA, hFA⟩
  have NA : Hid (Nd w1 wA d mA TA 48) := N9.out.next (s := nmK) (t := ByteArray.empty) DA UA (tu_sdr hFA)
  obtain ⟨hqA, KA⟩ := S9.out.sdr hFA
  subst hqA
  have L0 : Hid (Lp w1 (wA.alloc (.cells #[.int .i64 0, .int .i64 0, .int .i64 0, .int .i64 0] 28)) d wA.heap.size g b 48) := ⟨mA, TA, NA.out.below ((Below.refl _ wA).alloc (Nat.le_refl _) _), KA, Bx.new wA 28 _, fun e => by have := NA.out.dk.lt _ e; omega⟩
  obtain ⟨ba, hba⟩ : ∃ ba, wA.heap.size = ba := ⟨_, rfl⟩
  clear DA UA hFA KA N9 S9
  rw [hba] at L0
  obtain ⟨wB, hwB⟩ : ∃ x, wA.alloc (.cells #[.int .i64 0, .int .i64 0, .int .i64 0, .int .i64 0] 28) = x := ⟨_, rfl⟩
  rw [hwB] at L0
  go_wp2_with fail
  try rw [hwB]
  clear hwB hba NA
  clear wA
  go_loopw [11] (fun i wr => ∃ k : Nat, k ≤ 20 ∧ i = .int .i64 (k : Int) ∧ Hid (Lp w1 wr d ba g b (48 + k))) (fun i _ => 20 - (RowKit.intOf i).toNat)
  case atStart => exact ⟨0, by omega, rfl, L0⟩
  case round =>
    clear L0
    obtain ⟨k, hk, rfl, hL⟩ := hrel
    by_cases hlt : k < len1 ∧ k < 20
    · have i1 : (k : Int) < (len1 : Int) := by omega
      have i2 : (k : Int) < 20 := by omega
      obtain ⟨m, T, hN, hK, hX, hT⟩ := hL.out
      have Bw : Below w.heap.size w wr := B1.out.trans (hN.bl.mono B1.out.size)
      have hTw : Hid (∀ x, T x → w.heap.size ≤ x) := fun x hx => Nat.le_trans B1.out.size (hN.tt x hx)
      have H1 := h1.out.kept Bw
      have hIw : IsAc w (A1 k) := by
        obtain ⟨_, _, _, _, hc⟩ := h1.out.cells (by omega)
        exact (hc k hlt.1).2
      obtain ⟨b1, off, ea, hbl1, hc⟩ := H1.cells (by omega)
      subst ea
      obtain ⟨⟨c0, c1, c2, c3, c4, c5⟩, _⟩ := hc k hlt.1
      generalize A1 k = c at c0 c1 c2 c3 c4 c5 hIw
      obtain ⟨dO, n, sN, sT, aB, lB, cB, aP, lP, cP⟩ := c
      simp only at c0 c1 c2 c3 c4 c5
      obtain ⟨q, hq⟩ : ∃ q, wr.heap.size = q := ⟨_, rfl⟩
      obtain ⟨wa, hwa⟩ : ∃ x, wr.alloc (.cells #[.int .i64 dO, .int .i64 n, .string sN, .string sT, .slice aB lB cB, .slice aP lP cP] 36) = x := ⟨_, rfl⟩
      have Xa : Bx wa q 36 (actV dO n sN sT aB lB cB aP lP cP) := by rw [← hwa, ← hq]; exact Bx.new wr 36 _
      have k2 : wa.cell? ⟨q, 2, none⟩ = some (.string sN) := Xa.cell 2
      have k3 : wa.cell? ⟨q, 3, none⟩ = some (.string sT) := Xa.cell 3
      have Ba : Below wr.heap.size wr wa := by rw [← hwa]; exact (Below.refl _ wr).alloc (Nat.le_refl _) _
      have Ls : Hid (Lp w1 wa d ba g b (48 + k + 1)) := ⟨m, T, ⟨(hN.below Ba).dk, hN.ok.mono (by omega), (hN.below Ba).bl, hN.tt⟩, hK, hX.below Ba, hT⟩
      replace hN := hide hN
      replace hK := hide hK
      replace hX := hide hX
      replace hT := hide hT
      replace Xa := hide Xa
      replace Ba := hide Ba
      replace Bw := hide Bw
      replace hIw := hide hIw
      have PN := hide (name_any sN wa)
      have PT := hide (name_any sT wa)
      obtain ⟨sn, hsn⟩ : ∃ s, nam sN = s := ⟨_, rfl⟩
      obtain ⟨st, hst⟩ : ∃ s, nam sT = s := ⟨_, rfl⟩
      rw [hsn] at PN
      rw [hst] at PT
      replace hsn := hide hsn
      replace hst := hide hst
      clear H1 hc hL hbl1
      go_wp2_with fail
      try rw [hwa]
      clear hwa c0 c1 c2 c3 c4 c5
      refine PN.out.mono ?_
      rintro e w' ⟨rfl, hw'⟩; replace hw' := hw'.symm; subst hw'
      by_cases e1 : sn = nmK
      · have f1 : ByteArray.toList sn = [107, 101, 112, 116] := by rw [e1]; exact nmK_list
        have f1b : (ByteArray.toList sn == [107, 101, 112, 116]) = true := by rw [f1]; rfl
        replace e1 := hide e1
        go_wp2_with fail
        go_roundw
        case rel => exact ⟨k + 1, by omega, by go_num, Ls⟩
        case measure => simp [RowKit.intOf]; omega
      · have f1 : ¬ (ByteArray.toList sn = [107, 101, 112, 116]) := fun h => e1 ((toList_inj _ _).1 (h.trans nmK_list.symm))
        have f1b : (ByteArray.toList sn == [107, 101, 112, 116]) = false := beq_eq_false_iff_ne.2 f1
        replace e1 := hide e1
        go_wp2_with fail
        refine PT.out.mono ?_
        rintro e w' ⟨rfl, hw'⟩; replace hw' := hw'.symm; subst hw'
        by_cases e2 : st = nmK
        · have f2 : ByteArray.toList st = [107, 101, 112, 116] := by rw [e2]; exact nmK_list
          have f2b : (ByteArray.toList st == [107, 101, 112, 116]) = true := by rw [f2]; rfl
          replace e2 := hide e2
          go_wp2_with fail
          go_roundw
          case rel => exact ⟨k + 1, by omega, by go_num, Ls⟩
          case measure => simp [RowKit.intOf]; omega
        · have f2 : ¬ (ByteArray.toList st = [107, 101, 112, 116]) := fun h => e2 ((toList_inj _ _).1 (h.trans nmK_list.symm))
          have f2b : (ByteArray.toList st == [107, 101, 112, 116]) = false := beq_eq_false_iff_ne.2 f2
          replace e2 := hide e2
          go_wp2_with fail
          refine (rmake_any wa 1 (by omega) (by omega)).mono ?_
          rintro e wx ⟨y, rfl, Fy, By, hy⟩
          have Xx := Xa.out.below By
          have j0 : wx.cell? ⟨q, 0, none⟩ = some (.int .i64 dO) := Xx.cell 0
          have j1 : wx.cell? ⟨q, 1, none⟩ = some (.int .i64 n) := Xx.cell 1
          have j2 : wx.cell? ⟨q, 2, none⟩ = some (.string sN) := Xx.cell 2
          have j3 : wx.cell? ⟨q, 3, none⟩ = some (.string sT) := Xx.cell 3
          have j4 : wx.cell? ⟨q, 4, none⟩ = some (.slice aB lB cB) := Xx.cell 4
          have j5 : wx.cell? ⟨q, 5, none⟩ = some (.slice aP lP cP) := Xx.cell 5
          have Bx1 : Below wr.heap.size wr wx := Ba.out.trans (By.mono Ba.out.size)
          have hyr : wr.heap.size ≤ y := Nat.le_trans Ba.out.size hy
          have SS : St wx d y m (r0 1) (48 + k) T (fun x => x = y) := ⟨(hN.out.below Bx1).dk, Fy, hN.out.ok, ⟨Nat.zero_le _, Nat.zero_le _, Nat.zero_le _, by show (0 : Int) ≤ 0 ∧ (0 : Int) ≤ _; omega, by show (-1 : Int) ≤ _; omega⟩, fun x hx e => by have := hN.out.dk.lt x hx; omega⟩
          have DO := hide (do_any SS (by omega) dO n hIw.out.d hIw.out.n sN sT (hIw.out.into (Bw.out.trans (Bx1.mono Bw.out.size)) hTw.out (fun x e => by have := Bw.out.size; omega)))
          rw [hsn.out, hst.out] at DO
          replace Bx1 := hide Bx1
          clear Fy By Xx SS hy k2 k3
          go_wp2_with fail
          refine DO.out.mono ?_
          rintro e w5 ⟨bb, rfl, hF⟩
          have LN : Hid (Lp w1 w5 d ba g b (48 + k + 1)) := Lp.act hN.out hK.out hX.out hT.out Bx1.out (fun x e => by omega) hF e1.out e2.out
          clear hF DO j0 j1 j2 j3 j4 j5
          go_wp2_with fail
          go_roundw
          case rel => exact ⟨k + 1, by omega, by go_num, LN⟩
          case measure => simp [RowKit.intOf]; omega
    · have Lx : Hid (∃ m T, Nd w1 wr d m T 68 ∧ Kpt m nmK g b ∧ Bx wr ba 28 #[.int .i64 0, .int .i64 0, .int .i64 0, .int .i64 0] ∧ ¬ T ba) := by
        obtain ⟨m, T, hN, hK, hX, hT⟩ := hL.out
        exact ⟨m, T, ⟨hN.dk, hN.ok.mono (by omega), hN.bl, hN.tt⟩, hK, hX, hT⟩
      clear hL
      by_cases i1 : (k : Int) < (len1 : Int)
      · have i2 : ¬ ((k : Int) < 20) := by omega
        replace hlt := hide hlt
        obtain ⟨m, T, hN, hK, hX, hT⟩ := Lx.out
        have Bw : Below w.heap.size w wr := B1.out.trans (hN.bl.mono B1.out.size)
        have HPr := Hi.kept HP.out Bw (Nat.le_refl _)
        have IN := hide (ints_any wr a3 mp cap3 ps HPr (by omega))
        replace hN := hide hN
        replace hK := hide hK
        replace hX := hide hX
        replace hT := hide hT
        clear HPr Lx Bw
        go_wp2_with fail
        refine IN.out.mono ?_
        rintro e wx ⟨a4, n4, c4, rfl, H4, Bx1, O4⟩
        have Nx := hide (hN.out.below Bx1)
        have CR := hide (crash_disk Nx.out.dk (Nx.out.ok.sm (by omega)) Nx.out.ok.gs H4 (fun _ kk hkk ht => by have := O4 kk hkk; have := hN.out.dk.lt kk ht; omega))
        have Xx : Hid (Bx wx ba 28 #[.int .i64 0, .int .i64 0, .int .i64 0, .int .i64 0]) := hX.out.below Bx1
        clear IN H4 O4 Bx1
        go_wp2_with fail
        refine CR.out.mono ?_
        rintro e wC ⟨qC, mC, TC, rfl, DC, UC, hqC, hmC⟩
        have NC : Hid (Nd w1 wC d mC TC 69) := Nx.out.next (s := ByteArray.empty) (t := ByteArray.empty) DC UC (by rw [hmC]; exact .crs ps)
        have KC : Hid (Kpt mC nmK g b) := hK.out.next (s := ByteArray.empty) (t := ByteArray.empty) Nx.out.dk (by rw [hmC]; exact .crs ps) emp_ne emp_ne
        have PC : Hid (Tw mC ∧ mC.files = mC.sure ∧ mC.gone = false) := by rw [hmC]; exact ⟨tw_mcr _ _, rfl, rfl⟩
        have XC : Hid (Bx wC ba 28 #[.int .i64 0, .int .i64 0, .int .i64 0, .int .i64 0] ∧ ¬ TC ba) := ⟨Xx.out.but UC.but hT.out, fun e => by
          rcases UC.own ba e with e | e
          · exact hT.out e
          · have := Xx.out.lt; omega⟩
        clear CR DC UC hqC hmC Nx Xx hN hK hX hT
        have RD := hide (read_any NC.out.dk (NC.out.ok.sm (by omega)) nmK)
        go_wp2_with fail
        refine RD.out.mono ?_
        rintro e wD hR
        obtain ⟨ax, nx, cx, rfl, Hx, BD, Ox⟩ := KC.out.read name_K PC.out.2.2 hR
        have ND := hide (NC.out.below BD)
        have NM := hide (names_disk ND.out.dk (by have := ND.out.ok.n; omega) PC.out.2.2)
        have hzl : (nms mC.files).length ≤ 69 := by
          obtain ⟨bf, bs, V, hd⟩ := ND.out.dk
          exact Nat.le_trans (nms_length hd.mf) ND.out.ok.n
        have hheld := hide (names_held ND.out.dk ND.out.ok.gf)
        obtain ⟨zs, hzs⟩ : ∃ zs, nms mC.files = zs := ⟨_, rfl⟩
        rw [hzs] at NM hzl hheld
        obtain ⟨n, hn⟩ : ∃ n, zs.length = n := ⟨_, rfl⟩
        rw [hn] at NM hzl
        replace hzs := hide hzs
        replace hn := hide hn
        replace Hx := hide Hx
        replace BD := hide BD
        replace Ox := hide Ox
        clear hR RD
        go_wp2_with fail
        refine NM.out.mono ?_
        rintro e wE ⟨aS, cS, rfl, HS, BE, OS⟩
        have NE := hide (ND.out.below BE)
        have hTC : Hid (∀ x, TC x → x < wC.heap.size) := fun x hx => NC.out.dk.lt x hx
        have FE : Hid (Fx wE TC ba aS n cS zs ax nx cx b) := ⟨HS, fun hp j hj e => by have := OS j hj; have := hTC.out j e; have := BD.out.size; omega, Hx.out.kept BE (Nat.le_refl _), fun hp j hj e => by have := Ox.out j hj; have := hTC.out j e; omega, (XC.out.1.below BD.out).below BE, XC.out.2⟩
        have hTE : Hid (∀ x, TC x → x < wE.heap.size) := fun x hx => NE.out.dk.lt x hx
        have I0 := hide (img_nil wE)
        have BI : Hid (Below wE.heap.size wE (wE.alloc (.cells #[] 23))) := (Below.refl _ wE).alloc (Nat.le_refl _) _
        obtain ⟨wI, hwI⟩ : ∃ x, wE.alloc (.cells #[] 23) = x := ⟨_, rfl⟩
        rw [hwI] at I0 BI
        obtain ⟨E, hE⟩ : ∃ E, wE.heap.size = E := ⟨_, rfl⟩
        rw [hE] at I0 BI hTE
        clear NM HS BE OS NC ND Hx BD Ox XC hTC
        go_wp2_with fail
        try rw [hwI]
        clear hwI
        replace hE := hide hE
        go_loopw [18, 19] (fun vv i wr => ∃ (k : Nat) (aI : Option Addr) (cI : Nat), k ≤ n ∧ vv = .slice aI k cI ∧ i = .int .i64 (k : Int) ∧ Hid (Img wr E (.slice aI k cI) ((zs.take k).map (cont mC))) ∧ Hid (Below E wE wr)) (fun _ i _ => n - (RowKit.intOf i).toNat)
        case atStart => exact ⟨0, _, _, Nat.zero_le _, rfl, rfl, I0, BI⟩
        case round =>
          clear I0 BI
          obtain ⟨k, aI, cI, hk, rfl, rfl, hI, hB⟩ := hrel
          have Bk : Hid (Below wE.heap.size wE wr) := by rw [hE.out]; exact hB.out
          have Nk := hide (NE.out.below Bk.out)
          have Fk := hide (FE.out.below Bk.out)
          by_cases hkn : k < n
          · have i1 : (k : Int) < (n : Int) := by omega
            obtain ⟨bS, oS, eS, _, hcS⟩ := Fk.out.s.cells (by omega)
            subst eS
            have c0 := hcS k hkn
            have hzk : Hid (zs.take (k + 1) = zs.take k ++ [zs.getD k []]) := by
              show zs.take (k + 1) = zs.take k ++ [zs.getD k []]
              rw [List.take_add_one, List.getD_eq_getElem?_getD, List.getElem?_eq_getElem (by have := hn.out; omega)]
              rfl
            obtain ⟨gz, hgz⟩ := hheld.out (zs.getD k []) (by
              rw [List.getD_eq_getElem?_getD, List.getElem?_eq_getElem (by have := hn.out; omega)]
              exact List.getElem_mem _)
            generalize zs.getD k [] = z at c0 hzk hgz
            have RD := hide (read_any Nk.out.dk (Nk.out.ok.sm (by omega)) ⟨z.toArray⟩)
            replace hgz := hide hgz
            have hcl : Hid (((zs.take k).map (cont mC)).length = k) := by
              show ((zs.take k).map (cont mC)).length = k
              rw [List.length_map, List.length_take]
              have := hn.out
              omega
            clear hcS
            go_wp2_with fail
            refine RD.out.mono ?_
            rintro e w6 hR
            obtain ⟨ap, np, cp, rp, rfl, Hp, B6, O6⟩ := read_cont hgz.out PC.out.2.2 hR
            have BQ : Hid (Below w6.heap.size w6 (w6.alloc (.cells #[.slice ap np cp] 23))) := (Below.refl _ w6).alloc (Nat.le_refl _) _
            have IQ : Hid (Img (w6.alloc (.cells #[.slice ap np cp] 23)) E (.slice aI k cI) ((zs.take k).map (cont mC))) := (hI.out.kept (But.of_below B6 (fun _ => False)) (fun _ f => f.elim)).kept (But.of_below BQ.out (fun _ => False)) (fun _ f => f.elim)
            have HQ := hide (Hp.kept BQ.out (Nat.le_refl _))
            have cq : Hid ((w6.alloc (.cells #[.slice ap np cp] 23)).cell? ⟨w6.heap.size, 0, none⟩ = some (.slice ap np cp)) := (Bx.new w6 23 #[.slice ap np cp]).cell 0
            have hrk : Hid (∀ j, (Value.slice aI k cI).ownBlock = some j → E ≤ j ∧ j < wr.heap.size) := fun j hj => by
              obtain ⟨vs, hO, _⟩ := hI.out
              exact hO.lt j hj
            have B6E : Hid (Below E wE (w6.alloc (.cells #[.slice ap np cp] 23)) ∧ E ≤ wr.heap.size ∧ wr.heap.size ≤ w6.heap.size) := by
              have h1 := hB.out.size
              have h2 := hE.out
              refine ⟨(hB.out.trans (B6.mono (by omega))).trans (BQ.out.mono (by have := B6.size; omega)), by omega, B6.size⟩
            replace Hp := hide Hp
            replace O6 := hide O6
            clear hR RD B6
            go_wp2_with (first
              | (refine wpList_img rfl (.tmp 117) (.tmp 119) rfl E _ _ rfl IQ.out (by rw [hcl.out]; omega) w6.heap.size 1 ap np cp (cont mC z) rfl cq.out HQ.out (fun j hp hj => ⟨by have := O6.out j hj; have := B6E.out; omega, fun e => by have := (hrk.out j e).2; have := O6.out j hj; omega⟩) (by have := B6E.out.1.size; have := hE.out; omega) ?_
                 rw [hcl.out]
                 rintro v8 w8 ⟨a8, c8, e8⟩ I8 G8 hb8
                 subst e8
                 have I9 : Hid (Img w8 E (.slice a8 (k + 1) c8) ((zs.take (k + 1)).map (cont mC))) := by
                   rw [hzk.out, List.map_append]
                   exact I8
                 have B9 : Hid (Below E wE w8) := B6E.out.1.grown G8 (by have := B6E.out.1.size; have := hE.out; omega) hb8
                 clear I8 G8 hb8))
            go_roundw
            case rel => exact ⟨k + 1, a8, c8, by omega, rfl, by go_num, I9, B9⟩
            case measure => simp [RowKit.intOf]; omega
          · have i1 : ¬ ((k : Int) < (n : Int)) := by omega
            obtain rfl : k = n := by omega
            have hzt : zs.take k = zs := List.take_of_length_le (by have := hn.out; omega)
            rw [hzt] at hI
            have BwE : Below w.heap.size w wr := B1.out.trans (Nk.out.bl.mono B1.out.size)
            have IN := hide (ints_any wr a3 mp cap3 ps (Hi.kept HP.out BwE (Nat.le_refl _)) (by omega))
            clear BwE hzt
            go_wp2_with fail
            refine IN.out.mono ?_
            rintro e wy ⟨a5, n5, c5, rfl, H5, By1, O5⟩
            have Ny := hide (Nk.out.below By1)
            have Fy := hide (Fk.out.below By1)
            have Iy := hide (hI.out.kept (But.of_below By1 (fun _ => False)) (fun _ f => f.elim))
            have CR := hide (crash_disk Ny.out.dk (Ny.out.ok.sm (by omega)) Ny.out.ok.gs H5 (fun _ kk hkk ht => by have := O5 kk hkk; have := Nk.out.dk.lt kk ht; omega))
            clear IN H5 O5 By1
            go_wp2_with fail
            refine CR.out.mono ?_
            rintro e wG ⟨qG, mG, TG, rfl, DG, UG, hqG, hmG⟩
            have NG : Hid (Nd w1 wG d mG TG 70) := Ny.out.next (s := ByteArray.empty) (t := ByteArray.empty) DG UG (by rw [hmG]; exact .crs ps)
            have FG := hide (Fy.out.but UG.but UG.own)
            have IG := hide (Iy.out.kept UG.but hTE.out)
            have hnG : nms mG.files = zs := by rw [hmG]; show nms mC.sure = zs; rw [← PC.out.2.1]; exact hzs.out
            have hcG : Hid (∀ z ∈ zs, cont mG z = cont mC z) := fun z hz => by rw [hmG]; exact cont_mcr PC.out.1 PC.out.2.1 ps z (by rw [hzs.out]; exact hz)
            have hgG : Hid (mG.gone = false) := by rw [hmG]; rfl
            have hhG : Hid (∀ z ∈ zs, ∃ g, mG.files.atKey (.string z) .nil = .held g) := by
              have := names_held NG.out.dk NG.out.ok.gf
              rw [hnG] at this
              exact this
            have NM := hide (names_disk NG.out.dk (by have := NG.out.ok.n; omega) hgG.out)
            rw [hnG, hn.out] at NM
            clear CR DG UG hqG hmG Ny Fy Iy hnG
            go_wp2_with fail
            refine NM.out.mono ?_
            rintro e wH ⟨aT, cT, rfl, HT, BH, _⟩
            have NH := hide (NG.out.below BH)
            have FH := hide (FG.out.below BH)
            have IH := hide (IG.out.kept (But.of_below BH (fun _ => False)) (fun _ f => f.elim))
            have ST := hide (sameTexts_any HT FH.out.s (by omega))
            clear NM HT BH
            go_wp2_with fail
            refine ST.out.mono ?_
            rintro e wJ ⟨rfl, mm, hwJ⟩
            have BJ : Below wH.heap.size wH wJ := by rw [hwJ]; exact belowN (Below.refl _ wH) mm
            have NJ := hide (NH.out.below BJ)
            have FJ := hide (FH.out.below BJ)
            have IJ := hide (IH.out.kept (But.of_below BJ (fun _ => False)) (fun _ f => f.elim))
            clear hwJ ST BJ NH FH IH NG FG IG Nk Fk hI hB Bk
            go_wp2_with fail
            go_loopw [22] (fun i wr => ∃ k2 : Nat, k2 ≤ k ∧ i = .int .i64 (k2 : Int) ∧ Hid (Below wJ.heap.size wJ wr)) (fun i _ => k - (RowKit.intOf i).toNat)
            case atStart => exact ⟨0, Nat.zero_le _, rfl, Below.refl _ _⟩
            case round =>
              obtain ⟨k2, hk2, rfl, hB2⟩ := hrel
              have N2 := hide (NJ.out.below hB2.out)
              have F2 := hide (FJ.out.below hB2.out)
              have I2 := hide (IJ.out.kept (But.of_below hB2.out (fun _ => False)) (fun _ f => f.elim))
              by_cases hkn2 : k2 < k
              · have i2 : (k2 : Int) < (k : Int) := by omega
                obtain ⟨bS, oS, eS, _, hcS⟩ := F2.out.s.cells (by omega)
                subst eS
                have c0 := hcS k2 hkn2
                have hzm : zs.getD k2 [] ∈ zs := by
                  rw [List.getD_eq_getElem?_getD, List.getElem?_eq_getElem (by have := hn.out; omega)]
                  exact List.getElem_mem _
                obtain ⟨gz, hgz⟩ := hhG.out _ hzm
                have hcz := hide (hcG.out _ hzm)
                obtain ⟨gI, capI, ai, ni, ci, eI, ci0, Hi0⟩ := I2.out.at (i := k2) (by rw [List.length_map, hn.out]; exact hkn2)
                rw [List.length_map, hn.out] at eI
                have hge : (zs.map (cont mC)).getD k2 [] = cont mC (zs.getD k2 []) := by
                  simp [List.getD, List.getElem?_eq_getElem (show k2 < zs.length by have := hn.out; omega)]
                rw [hge] at Hi0
                cases eI
                clear hge
                generalize zs.getD k2 [] = z at c0 hgz hcz Hi0
                have RD := hide (read_any N2.out.dk (N2.out.ok.sm (by omega)) ⟨z.toArray⟩)
                replace hgz := hide hgz
                replace Hi0 := hide Hi0
                have cil : Hid (gI < wr.heap.size) := World.block_lt_of_cell? wr _ ci0
                clear hcS hzm
                go_wp2_with fail
                refine RD.out.mono ?_
                rintro e w6 hR
                obtain ⟨ap, np, cp, rp, rfl, Hp, B6, O6⟩ := read_cont hgz.out hgG.out hR
                have c6 : w6.cell? ⟨gI, k2, none⟩ = some (.slice ai ni ci) := (B6.cell (p := ⟨gI, k2, none⟩) cil.out).trans ci0
                have SB := hide (same_any w6 ap ai np ni cp ci _ _ Hp (Hi0.out.kept B6 (Nat.le_refl _)))
                rw [hcz.out, decide_eq_true (rfl : cont mC z = cont mC z)] at SB
                have B7 : Hid (Below wJ.heap.size wJ w6) := hB2.out.trans (B6.mono hB2.out.size)
                clear hR RD B6 O6 Hp c0 ci0
                go_wp2_with fail
                refine SB.out.mono ?_
                rintro e w' ⟨rfl, hw'⟩; replace hw' := hw'.symm; subst hw'
                clear SB c6
                go_wp2_with fail
                go_roundw
                case rel => exact ⟨k2 + 1, by omega, by go_num, B7⟩
                case measure => simp [RowKit.intOf]; omega
              · have i2 : ¬ ((k2 : Int) < (k : Int)) := by omega
                have d0 : wr.cell? ⟨ba, 0, none⟩ = some (.int .i64 0) := F2.out.a.cell 0
                have d1 : wr.cell? ⟨ba, 1, none⟩ = some (.int .i64 0) := F2.out.a.cell 1
                have d2 : wr.cell? ⟨ba, 2, none⟩ = some (.int .i64 0) := F2.out.a.cell 2
                have d3 : wr.cell? ⟨ba, 3, none⟩ = some (.int .i64 0) := F2.out.a.cell 3
                have Bfin : Below w.heap.size w wr := B1.out.trans (N2.out.bl.mono B1.out.size)
                have SB := hide (same_any wr ax a2 nx mb cx cap2 _ _ F2.out.x (HB.out.kept Bfin (Nat.le_refl _)))
                rw [decide_eq_true (rfl : b = b)] at SB
                replace Bfin := hide Bfin
                clear hB2
                go_wp2_with fail
                rename World => wK
                go_loopw [25] (fun i wr => ∃ k3 : Nat, k3 ≤ 4 ∧ i = .int .i64 (k3 : Int) ∧ wr = wK) (fun i _ => 4 - (RowKit.intOf i).toNat)
                case atStart => exact ⟨0, Nat.zero_le _, rfl, rfl⟩
                case round =>
                  obtain ⟨k3, hk3, rfl, rfl⟩ := hrel
                  by_cases hk4 : k3 < 4
                  · have i3 : (k3 : Int) < 4 := by omega
                    have dk : wr.cell? ⟨ba, k3, none⟩ = some (.int .i64 0) := by
                      obtain rfl | rfl | rfl | rfl : k3 = 0 ∨ k3 = 1 ∨ k3 = 2 ∨ k3 = 3 := by omega
                      · exact d0
                      · exact d1
                      · exact d2
                      · exact d3
                    go_wp2_with fail
                    go_roundw
                    case rel => exact ⟨k3 + 1, by omega, by go_num, (by first | trivial | rfl)⟩
                    case measure => simp [RowKit.intOf]; omega
                  · have i3 : ¬ ((k3 : Int) < 4) := by omega
                    go_wp2_with fail
                    refine SB.out.mono ?_
                    rintro e w' ⟨rfl, hw'⟩; replace hw' := hw'.symm; subst hw'
                    go_wp2_with fail
                    go_ret
                    exact ⟨rfl, Bfin.out⟩
      · replace hlt := hide hlt
        obtain ⟨m, T, hN, hK, hX, hT⟩ := Lx.out
        have Bw : Below w.heap.size w wr := B1.out.trans (hN.bl.mono B1.out.size)
        have HPr := Hi.kept HP.out Bw (Nat.le_refl _)
        have IN := hide (ints_any wr a3 mp cap3 ps HPr (by omega))
        replace hN := hide hN
        replace hK := hide hK
        replace hX := hide hX
        replace hT := hide hT
        clear HPr Lx Bw
        go_wp2_with fail
        refine IN.out.mono ?_
        rintro e wx ⟨a4, n4, c4, rfl, H4, Bx1, O4⟩
        have Nx := hide (hN.out.below Bx1)
        have CR := hide (crash_disk Nx.out.dk (Nx.out.ok.sm (by omega)) Nx.out.ok.gs H4 (fun _ kk hkk ht => by have := O4 kk hkk; have := hN.out.dk.lt kk ht; omega))
        have Xx : Hid (Bx wx ba 28 #[.int .i64 0, .int .i64 0, .int .i64 0, .int .i64 0]) := hX.out.below Bx1
        clear IN H4 O4 Bx1
        go_wp2_with fail
        refine CR.out.mono ?_
        rintro e wC ⟨qC, mC, TC, rfl, DC, UC, hqC, hmC⟩
        have NC : Hid (Nd w1 wC d mC TC 69) := Nx.out.next (s := ByteArray.empty) (t := ByteArray.empty) DC UC (by rw [hmC]; exact .crs ps)
        have KC : Hid (Kpt mC nmK g b) := hK.out.next (s := ByteArray.empty) (t := ByteArray.empty) Nx.out.dk (by rw [hmC]; exact .crs ps) emp_ne emp_ne
        have PC : Hid (Tw mC ∧ mC.files = mC.sure ∧ mC.gone = false) := by rw [hmC]; exact ⟨tw_mcr _ _, rfl, rfl⟩
        have XC : Hid (Bx wC ba 28 #[.int .i64 0, .int .i64 0, .int .i64 0, .int .i64 0] ∧ ¬ TC ba) := ⟨Xx.out.but UC.but hT.out, fun e => by
          rcases UC.own ba e with e | e
          · exact hT.out e
          · have := Xx.out.lt; omega⟩
        clear CR DC UC hqC hmC Nx Xx hN hK hX hT
        have RD := hide (read_any NC.out.dk (NC.out.ok.sm (by omega)) nmK)
        go_wp2_with fail
        refine RD.out.mono ?_
        rintro e wD hR
        obtain ⟨ax, nx, cx, rfl, Hx, BD, Ox⟩ := KC.out.read name_K PC.out.2.2 hR
        have ND := hide (NC.out.below BD)
        have NM := hide (names_disk ND.out.dk (by have := ND.out.ok.n; omega) PC.out.2.2)
        have hzl : (nms mC.files).length ≤ 69 := by
          obtain ⟨bf, bs, V, hd⟩ := ND.out.dk
          exact Nat.le_trans (nms_length hd.mf) ND.out.ok.n
        have hheld := hide (names_held ND.out.dk ND.out.ok.gf)
        obtain ⟨zs, hzs⟩ : ∃ zs, nms mC.files = zs := ⟨_, rfl⟩
        rw [hzs] at NM hzl hheld
        obtain ⟨n, hn⟩ : ∃ n, zs.length = n := ⟨_, rfl⟩
        rw [hn] at NM hzl
        replace hzs := hide hzs
        replace hn := hide hn
        replace Hx := hide Hx
        replace BD := hide BD
        replace Ox := hide Ox
        clear hR RD
        go_wp2_with fail
        refine NM.out.mono ?_
        rintro e wE ⟨aS, cS, rfl, HS, BE, OS⟩
        have NE := hide (ND.out.below BE)
        have hTC : Hid (∀ x, TC x → x < wC.heap.size) := fun x hx => NC.out.dk.lt x hx
        have FE : Hid (Fx wE TC ba aS n cS zs ax nx cx b) := ⟨HS, fun hp j hj e => by have := OS j hj; have := hTC.out j e; have := BD.out.size; omega, Hx.out.kept BE (Nat.le_refl _), fun hp j hj e => by have := Ox.out j hj; have := hTC.out j e; omega, (XC.out.1.below BD.out).below BE, XC.out.2⟩
        have hTE : Hid (∀ x, TC x → x < wE.heap.size) := fun x hx => NE.out.dk.lt x hx
        have I0 := hide (img_nil wE)
        have BI : Hid (Below wE.heap.size wE (wE.alloc (.cells #[] 23))) := (Below.refl _ wE).alloc (Nat.le_refl _) _
        obtain ⟨wI, hwI⟩ : ∃ x, wE.alloc (.cells #[] 23) = x := ⟨_, rfl⟩
        rw [hwI] at I0 BI
        obtain ⟨E, hE⟩ : ∃ E, wE.heap.size = E := ⟨_, rfl⟩
        rw [hE] at I0 BI hTE
        clear NM HS BE OS NC ND Hx BD Ox XC hTC
        go_wp2_with fail
        try rw [hwI]
        clear hwI
        replace hE := hide hE
        go_loopw [18, 19] (fun vv i wr => ∃ (k : Nat) (aI : Option Addr) (cI : Nat), k ≤ n ∧ vv = .slice aI k cI ∧ i = .int .i64 (k : Int) ∧ Hid (Img wr E (.slice aI k cI) ((zs.take k).map (cont mC))) ∧ Hid (Below E wE wr)) (fun _ i _ => n - (RowKit.intOf i).toNat)
        case atStart => exact ⟨0, _, _, Nat.zero_le _, rfl, rfl, I0, BI⟩
        case round =>
          clear I0 BI
          obtain ⟨k, aI, cI, hk, rfl, rfl, hI, hB⟩ := hrel
          have Bk : Hid (Below wE.heap.size wE wr) := by rw [hE.out]; exact hB.out
          have Nk := hide (NE.out.below Bk.out)
          have Fk := hide (FE.out.below Bk.out)
          by_cases hkn : k < n
          · have i1 : (k : Int) < (n : Int) := by omega
            obtain ⟨bS, oS, eS, _, hcS⟩ := Fk.out.s.cells (by omega)
            subst eS
            have c0 := hcS k hkn
            have hzk : Hid (zs.take (k + 1) = zs.take k ++ [zs.getD k []]) := by
              show zs.take (k + 1) = zs.take k ++ [zs.getD k []]
              rw [List.take_add_one, List.getD_eq_getElem?_getD, List.getElem?_eq_getElem (by have := hn.out; omega)]
              rfl
            obtain ⟨gz, hgz⟩ := hheld.out (zs.getD k []) (by
              rw [List.getD_eq_getElem?_getD, List.getElem?_eq_getElem (by have := hn.out; omega)]
              exact List.getElem_mem _)
            generalize zs.getD k [] = z at c0 hzk hgz
            have RD := hide (read_any Nk.out.dk (Nk.out.ok.sm (by omega)) ⟨z.toArray⟩)
            replace hgz := hide hgz
            have hcl : Hid (((zs.take k).map (cont mC)).length = k) := by
              show ((zs.take k).map (cont mC)).length = k
              rw [List.length_map, List.length_take]
              have := hn.out
              omega
            clear hcS
            go_wp2_with fail
            refine RD.out.mono ?_
            rintro e w6 hR
            obtain ⟨ap, np, cp, rp, rfl, Hp, B6, O6⟩ := read_cont hgz.out PC.out.2.2 hR
            have BQ : Hid (Below w6.heap.size w6 (w6.alloc (.cells #[.slice ap np cp] 23))) := (Below.refl _ w6).alloc (Nat.le_refl _) _
            have IQ : Hid (Img (w6.alloc (.cells #[.slice ap np cp] 23)) E (.slice aI k cI) ((zs.take k).map (cont mC))) := (hI.out.kept (But.of_below B6 (fun _ => False)) (fun _ f => f.elim)).kept (But.of_below BQ.out (fun _ => False)) (fun _ f => f.elim)
            have HQ := hide (Hp.kept BQ.out (Nat.le_refl _))
            have cq : Hid ((w6.alloc (.cells #[.slice ap np cp] 23)).cell? ⟨w6.heap.size, 0, none⟩ = some (.slice ap np cp)) := (Bx.new w6 23 #[.slice ap np cp]).cell 0
            have hrk : Hid (∀ j, (Value.slice aI k cI).ownBlock = some j → E ≤ j ∧ j < wr.heap.size) := fun j hj => by
              obtain ⟨vs, hO, _⟩ := hI.out
              exact hO.lt j hj
            have B6E : Hid (Below E wE (w6.alloc (.cells #[.slice ap np cp] 23)) ∧ E ≤ wr.heap.size ∧ wr.heap.size ≤ w6.heap.size) := by
              have h1 := hB.out.size
              have h2 := hE.out
              refine ⟨(hB.out.trans (B6.mono (by omega))).trans (BQ.out.mono (by have := B6.size; omega)), by omega, B6.size⟩
            replace Hp := hide Hp
            replace O6 := hide O6
            clear hR RD B6
            go_wp2_with (first
              | (refine wpList_img rfl (.tmp 117) (.tmp 119) rfl E _ _ rfl IQ.out (by rw [hcl.out]; omega) w6.heap.size 1 ap np cp (cont mC z) rfl cq.out HQ.out (fun j hp hj => ⟨by have := O6.out j hj; have := B6E.out; omega, fun e => by have := (hrk.out j e).2; have := O6.out j hj; omega⟩) (by have := B6E.out.1.size; have := hE.out; omega) ?_
                 rw [hcl.out]
                 rintro v8 w8 ⟨a8, c8, e8⟩ I8 G8 hb8
                 subst e8
                 have I9 : Hid (Img w8 E (.slice a8 (k + 1) c8) ((zs.take (k + 1)).map (cont mC))) := by
                   rw [hzk.out, List.map_append]
                   exact I8
                 have B9 : Hid (Below E wE w8) := B6E.out.1.grown G8 (by have := B6E.out.1.size; have := hE.out; omega) hb8
                 clear I8 G8 hb8))
            go_roundw
            case rel => exact ⟨k + 1, a8, c8, by omega, rfl, by go_num, I9, B9⟩
            case measure => simp [RowKit.intOf]; omega
          · have i1 : ¬ ((k : Int) < (n : Int)) := by omega
            obtain rfl : k = n := by omega
            have hzt : zs.take k = zs := List.take_of_length_le (by have := hn.out; omega)
            rw [hzt] at hI
            have BwE : Below w.heap.size w wr := B1.out.trans (Nk.out.bl.mono B1.out.size)
            have IN := hide (ints_any wr a3 mp cap3 ps (Hi.kept HP.out BwE (Nat.le_refl _)) (by omega))
            clear BwE hzt
            go_wp2_with fail
            refine IN.out.mono ?_
            rintro e wy ⟨a5, n5, c5, rfl, H5, By1, O5⟩
            have Ny := hide (Nk.out.below By1)
            have Fy := hide (Fk.out.below By1)
            have Iy := hide (hI.out.kept (But.of_below By1 (fun _ => False)) (fun _ f => f.elim))
            have CR := hide (crash_disk Ny.out.dk (Ny.out.ok.sm (by omega)) Ny.out.ok.gs H5 (fun _ kk hkk ht => by have := O5 kk hkk; have := Nk.out.dk.lt kk ht; omega))
            clear IN H5 O5 By1
            go_wp2_with fail
            refine CR.out.mono ?_
            rintro e wG ⟨qG, mG, TG, rfl, DG, UG, hqG, hmG⟩
            have NG : Hid (Nd w1 wG d mG TG 70) := Ny.out.next (s := ByteArray.empty) (t := ByteArray.empty) DG UG (by rw [hmG]; exact .crs ps)
            have FG := hide (Fy.out.but UG.but UG.own)
            have IG := hide (Iy.out.kept UG.but hTE.out)
            have hnG : nms mG.files = zs := by rw [hmG]; show nms mC.sure = zs; rw [← PC.out.2.1]; exact hzs.out
            have hcG : Hid (∀ z ∈ zs, cont mG z = cont mC z) := fun z hz => by rw [hmG]; exact cont_mcr PC.out.1 PC.out.2.1 ps z (by rw [hzs.out]; exact hz)
            have hgG : Hid (mG.gone = false) := by rw [hmG]; rfl
            have hhG : Hid (∀ z ∈ zs, ∃ g, mG.files.atKey (.string z) .nil = .held g) := by
              have := names_held NG.out.dk NG.out.ok.gf
              rw [hnG] at this
              exact this
            have NM := hide (names_disk NG.out.dk (by have := NG.out.ok.n; omega) hgG.out)
            rw [hnG, hn.out] at NM
            clear CR DG UG hqG hmG Ny Fy Iy hnG
            go_wp2_with fail
            refine NM.out.mono ?_
            rintro e wH ⟨aT, cT, rfl, HT, BH, _⟩
            have NH := hide (NG.out.below BH)
            have FH := hide (FG.out.below BH)
            have IH := hide (IG.out.kept (But.of_below BH (fun _ => False)) (fun _ f => f.elim))
            have ST := hide (sameTexts_any HT FH.out.s (by omega))
            clear NM HT BH
            go_wp2_with fail
            refine ST.out.mono ?_
            rintro e wJ ⟨rfl, mm, hwJ⟩
            have BJ : Below wH.heap.size wH wJ := by rw [hwJ]; exact belowN (Below.refl _ wH) mm
            have NJ := hide (NH.out.below BJ)
            have FJ := hide (FH.out.below BJ)
            have IJ := hide (IH.out.kept (But.of_below BJ (fun _ => False)) (fun _ f => f.elim))
            clear hwJ ST BJ NH FH IH NG FG IG Nk Fk hI hB Bk
            go_wp2_with fail
            go_loopw [22] (fun i wr => ∃ k2 : Nat, k2 ≤ k ∧ i = .int .i64 (k2 : Int) ∧ Hid (Below wJ.heap.size wJ wr)) (fun i _ => k - (RowKit.intOf i).toNat)
            case atStart => exact ⟨0, Nat.zero_le _, rfl, Below.refl _ _⟩
            case round =>
              obtain ⟨k2, hk2, rfl, hB2⟩ := hrel
              have N2 := hide (NJ.out.below hB2.out)
              have F2 := hide (FJ.out.below hB2.out)
              have I2 := hide (IJ.out.kept (But.of_below hB2.out (fun _ => False)) (fun _ f => f.elim))
              by_cases hkn2 : k2 < k
              · have i2 : (k2 : Int) < (k : Int) := by omega
                obtain ⟨bS, oS, eS, _, hcS⟩ := F2.out.s.cells (by omega)
                subst eS
                have c0 := hcS k2 hkn2
                have hzm : zs.getD k2 [] ∈ zs := by
                  rw [List.getD_eq_getElem?_getD, List.getElem?_eq_getElem (by have := hn.out; omega)]
                  exact List.getElem_mem _
                obtain ⟨gz, hgz⟩ := hhG.out _ hzm
                have hcz := hide (hcG.out _ hzm)
                obtain ⟨gI, capI, ai, ni, ci, eI, ci0, Hi0⟩ := I2.out.at (i := k2) (by rw [List.length_map, hn.out]; exact hkn2)
                rw [List.length_map, hn.out] at eI
                have hge : (zs.map (cont mC)).getD k2 [] = cont mC (zs.getD k2 []) := by
                  simp [List.getD, List.getElem?_eq_getElem (show k2 < zs.length by have := hn.out; omega)]
                rw [hge] at Hi0
                cases eI
                clear hge
                generalize zs.getD k2 [] = z at c0 hgz hcz Hi0
                have RD := hide (read_any N2.out.dk (N2.out.ok.sm (by omega)) ⟨z.toArray⟩)
                replace hgz := hide hgz
                replace Hi0 := hide Hi0
                have cil : Hid (gI < wr.heap.size) := World.block_lt_of_cell? wr _ ci0
                clear hcS hzm
                go_wp2_with fail
                refine RD.out.mono ?_
                rintro e w6 hR
                obtain ⟨ap, np, cp, rp, rfl, Hp, B6, O6⟩ := read_cont hgz.out hgG.out hR
                have c6 : w6.cell? ⟨gI, k2, none⟩ = some (.slice ai ni ci) := (B6.cell (p := ⟨gI, k2, none⟩) cil.out).trans ci0
                have SB := hide (same_any w6 ap ai np ni cp ci _ _ Hp (Hi0.out.kept B6 (Nat.le_refl _)))
                rw [hcz.out, decide_eq_true (rfl : cont mC z = cont mC z)] at SB
                have B7 : Hid (Below wJ.heap.size wJ w6) := hB2.out.trans (B6.mono hB2.out.size)
                clear hR RD B6 O6 Hp c0 ci0
                go_wp2_with fail
                refine SB.out.mono ?_
                rintro e w' ⟨rfl, hw'⟩; replace hw' := hw'.symm; subst hw'
                clear SB c6
                go_wp2_with fail
                go_roundw
                case rel => exact ⟨k2 + 1, by omega, by go_num, B7⟩
                case measure => simp [RowKit.intOf]; omega
              · have i2 : ¬ ((k2 : Int) < (k : Int)) := by omega
                have d0 : wr.cell? ⟨ba, 0, none⟩ = some (.int .i64 0) := F2.out.a.cell 0
                have d1 : wr.cell? ⟨ba, 1, none⟩ = some (.int .i64 0) := F2.out.a.cell 1
                have d2 : wr.cell? ⟨ba, 2, none⟩ = some (.int .i64 0) := F2.out.a.cell 2
                have d3 : wr.cell? ⟨ba, 3, none⟩ = some (.int .i64 0) := F2.out.a.cell 3
                have Bfin : Below w.heap.size w wr := B1.out.trans (N2.out.bl.mono B1.out.size)
                have SB := hide (same_any wr ax a2 nx mb cx cap2 _ _ F2.out.x (HB.out.kept Bfin (Nat.le_refl _)))
                rw [decide_eq_true (rfl : b = b)] at SB
                replace Bfin := hide Bfin
                clear hB2
                go_wp2_with fail
                rename World => wK
                go_loopw [25] (fun i wr => ∃ k3 : Nat, k3 ≤ 4 ∧ i = .int .i64 (k3 : Int) ∧ wr = wK) (fun i _ => 4 - (RowKit.intOf i).toNat)
                case atStart => exact ⟨0, Nat.zero_le _, rfl, rfl⟩
                case round =>
                  obtain ⟨k3, hk3, rfl, rfl⟩ := hrel
                  by_cases hk4 : k3 < 4
                  · have i3 : (k3 : Int) < 4 := by omega
                    have dk : wr.cell? ⟨ba, k3, none⟩ = some (.int .i64 0) := by
                      obtain rfl | rfl | rfl | rfl : k3 = 0 ∨ k3 = 1 ∨ k3 = 2 ∨ k3 = 3 := by omega
                      · exact d0
                      · exact d1
                      · exact d2
                      · exact d3
                    go_wp2_with fail
                    go_roundw
                    case rel => exact ⟨k3 + 1, by omega, by go_num, (by first | trivial | rfl)⟩
                    case measure => simp [RowKit.intOf]; omega
                  · have i3 : ¬ ((k3 : Int) < 4) := by omega
                    go_wp2_with fail
                    refine SB.out.mono ?_
                    rintro e w' ⟨rfl, hw'⟩; replace hw' := hw'.symm; subst hw'
                    go_wp2_with fail
                    go_ret
                    exact ⟨rfl, Bfin.out⟩
end Go.Proofs.Ytgbijkdfhkkieaa.diskSure
