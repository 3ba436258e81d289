/-
  DiskFuses: the walk.
-/
import Derived.Test.YtgbijkdfhkkieaaTH
import Derived.Laws.Tables
namespace Go.Proofs.Ytgbijkdfhkkieaa.diskFuses
open Go.RowKit Go.Maps Go.Lib
set_option linter.unusedVariables false
set_option linter.unusedSimpArgs false
theorem info36 : (Try.prog.info? 36).map (·.size) = some 6 := by kernel_rfl
/-- Between two rounds. -/
def Rd (w0 wr : World) (d : Nat) (k : Nat) (was f : Int) (g : Bool) : Prop := ∃ m T, Nd w0 wr d m T k ∧ Fz m was f g
set_option maxHeartbeats 16000000 in
set_option maxRecDepth 100000 in
theorem walk (a0 : Option Addr) (len0 cap0 : Nat) (A0 : Nat → Ac) (a1 : Option Addr) (len1 cap1 : Nat) (A1 : Nat → Ac) (x2 : Int) (w : World)
    (h0 : HasA w a0 len0 cap0 A0) (h1 : HasA w a1 len1 cap1 A1) (hx : (Lit.int .i64 x2).wf = true) :
    Calls Try.prog 5 #[.slice a0 len0 cap0, .slice a1 len1 cap1, .int .i64 x2] w fun e w' => e = .returned (.bool true) ∧ Below w.heap.size w w' := by
  have hx2 : -9223372036854775808 ≤ x2 ∧ x2 ≤ 9223372036854775807 := by
    simp [Lit.wf, IntKind.min, IntKind.max, IntKind.signed, IntKind.bits] at hx; omega
  replace h0 := hide h0
  replace h1 := hide h1
  clear hx
  go_enter Try.func5, Try.ntmps5
  go_wp2_with fail
  refine (works_any w).mono ?_
  rintro e w1 ⟨rfl, B1⟩
  have H0 := hide (h0.out.kept B1)
  replace B1 := hide B1
  go_wp2_with fail
  refine (played_any H0.out).mono ?_
  rintro e w2 ⟨d, rfl, m2, T2, D2, O2, B2, hT2⟩
  have N2 : Hid (Nd w1 w2 d m2 T2 41) := ⟨D2, O2, B2, hT2⟩
  clear D2 O2 B2 hT2 h0 H0
  show _
  go_wp2_with fail
  refine (crash_disk N2.out.dk (N2.out.ok.sm (by omega)) N2.out.ok.gs (hi_nil w2) (fun h => by omega)).mono ?_
  rintro e w3 ⟨q3, m3, T3, rfl, D3, U3, hq3, hm3⟩
  have N3 : Hid (Nd w1 w3 d m3 T3 42) := N2.out.next (s := ByteArray.empty) (t := ByteArray.empty) D3 U3 (by rw [hm3]; exact .crs [])
  have g3 : Hid (m3.gone = false ∧ m3.left = -1) := by rw [hm3]; exact ⟨rfl, rfl⟩
  clear D3 U3 hm3 hq3 N2
  have AM : Hid (∀ w : World, Calls Try.prog 26 #[.int .i64 x2, .int .i64 20] w fun e w' => e = .returned (.int .i64 (amg x2 20 : Int)) ∧ w' = w) := among_any x2 20 hx2 (by omega) (by omega)
  have hf := amg_lt x2 20 (by omega)
  generalize amg x2 20 = f at AM hf
  go_wp2_with fail
  refine (AM.out _).mono ?_
  rintro e w' ⟨rfl, hw'⟩; replace hw' := hw'.symm; subst hw'
  clear AM
  have ST := hide (steps_disk N3.out.dk)
  have hs3 := N3.out.ok.s
  obtain ⟨was, hwas⟩ : ∃ was, m3.steps = was := ⟨_, rfl⟩
  rw [hwas] at ST hs3
  replace hwas := hide hwas
  go_wp2_with fail
  refine ST.out.mono ?_
  rintro e w' ⟨rfl, hw'⟩; replace hw' := hw'.symm; subst hw'
  clear ST
  go_wp2_with fail
  refine (fuse_disk N3.out.dk (f : Int)).mono ?_
  rintro e w4 ⟨q4, m4, T4, rfl, D4, U4, hq4, hm4⟩
  have R4 : Hid (Rd w1 w4 d 43 was (f : Int) false) := by
    refine ⟨m4, T4, N3.out.next (s := ByteArray.empty) (t := ByteArray.empty) D4 U4 (by rw [hm4]; exact .fus _ (by omega)), .inl ⟨rfl, ?_, ?_, ?_⟩⟩
    · rw [hm4]; exact g3.out.1
    · rw [hm4]; show (0 : Int) ≤ (f : Int); omega
    · rw [hm4]; show (f : Int) + m3.steps = _; have := hwas.out; omega
  clear D4 U4 hm4 hq4 N3 g3 hwas
  go_wp2_with fail
  go_loopw [9, 10] (fun gg i wr => ∃ (k : Nat) (g : Bool), k ≤ 40 ∧ gg = .bool g ∧ i = .int .i64 (k : Int) ∧ Hid (Rd w1 wr d (43 + k) was (f : Int) g)) (fun _ i _ => 40 - (RowKit.intOf i).toNat)
  case atStart => exact ⟨0, false, by omega, rfl, rfl, R4⟩
  case round =>
    clear R4
    obtain ⟨k, g, hk, rfl, rfl, hR⟩ := hrel
    by_cases hlt : k < len1 ∧ k < 40
    · have i1 : (k : Int) < (len1 : Int) := by omega
      have i2 : (k : Int) < 40 := by omega
      obtain ⟨m, T, hN, hF⟩ := hR.out
      have Bw : Below w.heap.size w wr := B1.out.trans (hN.bl.mono B1.out.size)
      have H1 := h1.out.kept Bw
      obtain ⟨b, off, ea, hbl, hc⟩ := H1.cells (by omega)
      subst ea
      obtain ⟨⟨c0, c1, c2, c3, c4, c5⟩, hI⟩ := hc k hlt.1
      have hdO := hI.d
      generalize A1 k = c at c0 c1 c2 c3 c4 c5 hdO
      obtain ⟨dO, n, sN, sT, aB, lB, cB, aP, lP, cP⟩ := c
      simp only at c0 c1 c2 c3 c4 c5 hdO
      obtain ⟨q, hq⟩ : ∃ q, wr.heap.size = q := ⟨_, rfl⟩
      obtain ⟨wa, hwa⟩ : ∃ x, wr.alloc (.cells #[.int .i64 dO, .int .i64 n, .string sN, .string sT, .slice aB lB cB, .slice aP lP cP] 36) = x := ⟨_, rfl⟩
      have Xa : Bx wa q 36 (actV dO n sN sT aB lB cB aP lP cP) := by rw [← hwa, ← hq]; exact Bx.new wr 36 _
      have k0 : wa.cell? ⟨q, 0, none⟩ = some (.int .i64 dO) := Xa.cell 0
      have Ba : Below wr.heap.size wr wa := by rw [← hwa]; exact (Below.refl _ wr).alloc (Nat.le_refl _) _
      replace hN := hide hN
      replace hF := hide hF
      replace Ba := hide Ba
      clear H1 hc hI Bw hR hbl Xa
      have AM : Hid (∀ w : World, Calls Try.prog 26 #[.int .i64 dO, .int .i64 12] w fun e w' => e = .returned (.int .i64 (amg dO 12 : Int)) ∧ w' = w) := among_any dO 12 hdO (by omega) (by omega)
      have hj := amg_lt dO 12 (by omega)
      generalize amg dO 12 = j at AM hj
      go_wp2_with fail
      try rw [hwa]
      have Na := hide (hN.out.below Ba.out)
      clear hwa c0 c1 c2 c3 c4 c5 k0
      refine (AM.out _).mono ?_
      rintro e w' ⟨rfl, hw'⟩; replace hw' := hw'.symm; subst hw'
      clear AM
      by_cases h9 : 9 ≤ j
      · have i9 : (9 : Int) ≤ (j : Int) := by omega
        go_wp2_with fail
        go_roundw
        case rel => exact ⟨k + 1, g, by omega, rfl, by go_num, ⟨m, T, ⟨Na.out.dk, Na.out.ok.mono (by omega), Na.out.bl, Na.out.tt⟩, hF.out⟩⟩
        case measure => simp [RowKit.intOf]; omega
      · have i9 : ¬ ((9 : Int) ≤ (j : Int)) := by omega
        go_wp2_with fail
        refine (itoa_any wa k (by omega)).mono ?_
        rintro e w5 ⟨s, rfl, hs1, hs2, B5⟩
        have N5 := hide (Na.out.below B5)
        have hz1 : ¬ (9223372036854775807 < 1 + s.size) := by omega
        have hz2 : 1 + s.size ≤ 9223372036854775807 := by omega
        have hnm := hide (name_x hs1 hs2)
        have CR := hide (create_any N5.out.dk (N5.out.ok.sm (by omega)) (⟨#[120]⟩ ++ s))
        replace hs1 := hide hs1
        clear B5 Na Ba
        go_wp2_with fail
        refine CR.out.mono ?_
        rintro e w6 ⟨r6, m6, T6, rfl, D6, U6, hC⟩
        have N6 := hide (N5.out.next (s := ⟨#[120]⟩ ++ s) (t := ByteArray.empty) D6 U6 (tu_cr hC))
        clear CR D6 U6
        rcases hF.out.create hnm.out hC with ⟨rfl, F6⟩ | ⟨rfl, rfl | rfl, F6⟩
        · replace F6 := hide F6
          clear hC
          cases g with
          | false =>
            have sx : Hid (∃ sx, m6.steps = sx ∧ sx - was = (f : Int)) := by
              rcases F6.out with ⟨h, _⟩ | ⟨_, _, hst⟩
              · cases h
              · exact ⟨_, rfl, by omega⟩
            obtain ⟨sv, hsv, hsw⟩ := sx.out
            have ST := hide (steps_disk N6.out.dk)
            rw [hsv] at ST
            have hsr : 0 ≤ sv ∧ sv ≤ 1000 := by have := N6.out.ok.s; omega
            replace hsv := hide hsv
            clear sx
            go_wp2_with fail
            refine ST.out.mono ?_
            rintro e w' ⟨rfl, hw'⟩; replace hw' := hw'.symm; subst hw'
            clear ST
            go_wp2_with fail
            go_roundw
            case rel => exact ⟨k + 1, true, by omega, rfl, by go_num, ⟨m6, T6, N6.out, F6.out⟩⟩
            case measure => simp [RowKit.intOf]; omega
          | true =>
            have sx : Hid (∃ sx, m6.steps = sx ∧ sx - was = (f : Int)) := by
              rcases F6.out with ⟨h, _⟩ | ⟨_, _, hst⟩
              · cases h
              · exact ⟨_, rfl, by omega⟩
            obtain ⟨sv, hsv, hsw⟩ := sx.out
            have ST := hide (steps_disk N6.out.dk)
            rw [hsv] at ST
            have hsr : 0 ≤ sv ∧ sv ≤ 1000 := by have := N6.out.ok.s; omega
            replace hsv := hide hsv
            clear sx
            go_wp2_with fail
            refine ST.out.mono ?_
            rintro e w' ⟨rfl, hw'⟩; replace hw' := hw'.symm; subst hw'
            clear ST
            go_wp2_with fail
            go_roundw
            case rel => exact ⟨k + 1, true, by omega, rfl, by go_num, ⟨m6, T6, N6.out, F6.out⟩⟩
            case measure => simp [RowKit.intOf]; omega
        · replace F6 := hide F6
          clear hC
          go_wp2_with fail
          go_roundw
          case rel => exact ⟨k + 1, false, by omega, rfl, by go_num, ⟨m6, T6, N6.out, F6.out⟩⟩
          case measure => simp [RowKit.intOf]; omega
        · replace F6 := hide F6
          clear hC
          go_wp2_with fail
          go_roundw
          case rel => exact ⟨k + 1, false, by omega, rfl, by go_num, ⟨m6, T6, N6.out, F6.out⟩⟩
          case measure => simp [RowKit.intOf]; omega
    · obtain ⟨m, T, hN, hF⟩ := hR.out
      have ST := hide (steps_disk hN.dk)
      have hBw : Hid (Below w.heap.size w wr) := B1.out.trans (hN.bl.mono B1.out.size)
      have hsr := hN.ok.s
      obtain ⟨sv, hsv⟩ : ∃ sv, m.steps = sv := ⟨_, rfl⟩
      rw [hsv] at ST hsr
      cases g with
      | false =>
        have hle : sv - was ≤ (f : Int) := by
          rcases hF with ⟨_, _, hl, hst⟩ | ⟨h, _⟩
          · omega
          · cases h
        replace hsv := hide hsv
        replace hF := hide hF
        replace hN := hide hN
        clear hR
        by_cases i1 : (k : Int) < (len1 : Int)
        · have i2 : ¬ ((k : Int) < 40) := by omega
          go_wp2_with fail
          refine ST.out.mono ?_
          rintro e w' ⟨rfl, hw'⟩; replace hw' := hw'.symm; subst hw'
          clear ST
          go_wp2_with fail
          go_ret
          exact ⟨rfl, hBw.out⟩
        · go_wp2_with fail
          refine ST.out.mono ?_
          rintro e w' ⟨rfl, hw'⟩; replace hw' := hw'.symm; subst hw'
          clear ST
          go_wp2_with fail
          go_ret
          exact ⟨rfl, hBw.out⟩
      | true =>
        have hle : sv - was = (f : Int) := by
          rcases hF with ⟨h, _⟩ | ⟨_, _, hst⟩
          · cases h
          · omega
        have hg : m.gone = true := by
          rcases hF with ⟨h, _⟩ | ⟨_, hg, _⟩
          · cases h
          · exact hg
        have NM := hide (names_gone hN.dk hg)
        have SD := hide (syncDir_any hN.dk (hN.ok.sm (by omega)))
        have hgp : Hid ((pw m).gone = true) := by show (pw m).gone = true; unfold pw; split <;> first | rfl | exact hg
        replace hsv := hide hsv
        replace hF := hide hF
        replace hN := hide hN
        replace hg := hide hg
        clear hR
        by_cases i1 : (k : Int) < (len1 : Int)
        · have i2 : ¬ ((k : Int) < 40) := by omega
          go_wp2_with fail
          refine ST.out.mono ?_
          rintro e w' ⟨rfl, hw'⟩; replace hw' := hw'.symm; subst hw'
          go_wp2_with fail
          refine ST.out.mono ?_
          rintro e w' ⟨rfl, hw'⟩; replace hw' := hw'.symm; subst hw'
          go_wp2_with fail
          refine NM.out.mono ?_
          rintro e w' ⟨rfl, hw'⟩; replace hw' := hw'.symm; subst hw'
          go_wp2_with fail
          refine SD.out.mono ?_
          rintro e w7 ⟨r7, m7, T7, rfl, D7, U7, h7⟩
          have hr7 : r7 = 8 := by
            rcases h7 with ⟨_, h, _⟩ | ⟨h, _⟩
            · exact h
            · rw [hgp.out] at h; cases h
          subst hr7
          have B7 : Hid (Below w.heap.size w w7) := hBw.out.trans ⟨U7.but.os, U7.but.tape, U7.but.output, U7.but.size, fun i hi => U7.but.block i (Nat.lt_of_lt_of_le hi hBw.out.size) (fun e => by have := hN.out.tt i e; have := B1.out.size; omega)⟩
          clear h7 D7 U7 ST NM SD
          go_wp2_with fail
          go_ret
          exact ⟨rfl, B7.out⟩
        · go_wp2_with fail
          refine ST.out.mono ?_
          rintro e w' ⟨rfl, hw'⟩; replace hw' := hw'.symm; subst hw'
          go_wp2_with fail
          refine ST.out.mono ?_
          rintro e w' ⟨rfl, hw'⟩; replace hw' := hw'.symm; subst hw'
          go_wp2_with fail
          refine NM.out.mono ?_
          rintro e w' ⟨rfl, hw'⟩; replace hw' := hw'.symm; subst hw'
          go_wp2_with fail
          refine SD.out.mono ?_
          rintro e w7 ⟨r7, m7, T7, rfl, D7, U7, h7⟩
          have hr7 : r7 = 8 := by
            rcases h7 with ⟨_, h, _⟩ | ⟨h, _⟩
            · exact h
            · rw [hgp.out] at h; cases h
          subst hr7
          have B7 : Hid (Below w.heap.size w w7) := hBw.out.trans ⟨U7.but.os, U7.but.tape, U7.but.output, U7.but.size, fun i hi => U7.but.block i (Nat.lt_of_lt_of_le hi hBw.out.size) (fun e => by have := hN.out.tt i e; have := B1.out.size; omega)⟩
          clear h7 D7 U7 ST NM SD
          go_wp2_with fail
          go_ret
          exact ⟨rfl, B7.out⟩
end Go.Proofs.Ytgbijkdfhkkieaa.diskFuses
