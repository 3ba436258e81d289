/-
  The walk of StampOnce.
-/
import Derived.Test.YtpopkoedeckfoaaDoorSU
import Derived.Deep.Cut
import Derived.Deep.RegionHeld3
namespace Go.Proofs.YtpopkoedeckfoaaDoor
open Go.RowKit
set_option linter.unusedVariables false
set_option linter.unusedSimpArgs false

theorem rd_go {V N P k X : Nat} (h : P + k ≤ 8 * N) (hX : rd V N P k = X) : rd V N 0 P * 2 ^ k + X = rd V N 0 (P + k) := by
  have := rd_more V N 0 P k (by omega)
  rw [Nat.zero_add, hX] at this
  exact this.symm

set_option maxRecDepth 100000 in
set_option maxHeartbeats 8000000 in
theorem once_walk0 (a0 : Option Addr) (len0 cap0 nb : Nat) (lb : List Int) (w : World) (ht : Tab w) (HB : Has w a0 nb cap0 lb) (hnb : nb ≤ 100) (hle0 : len0 ≤ cap0) (hcb0 : cap0 ≤ maxLen) (ek : (if (100 : Int) < (len0 : Int) then 100 else (len0 : Int)) = (nb : Int)) :
    Calls Tryd.prog 7 #[.slice a0 len0 cap0] w fun e w' => e = .returned (.bool true) ∧ Below w.heap.size w w' := by
  have hle1 : (nb : Int) ≤ (cap0 : Int) := by have := HB.le; omega
  have hnb2 : (nb : Int) ≤ 100 := by omega
  unfold maxLen at hcb0
  have hpos := hide ht.pos
  have hlb : Hid (lb.length = nb) := HB.hlen
  have hz23 := zero23
  have KW := hide (works_any w ht)
  replace HB := hide HB
  replace ht := hide ht
  go_enter Tryd.func7, Tryd.ntmps7
  go_wp2_with fail
  refine KW.out.mono ?_
  rintro e w1 ⟨rfl, b1⟩
  have N1 := hide (newRd w1 w.heap.size b1.size a0 nb cap0 lb (HB.out.kept b1 (Nat.le_refl _)) (by omega))
  replace b1 := hide b1
  clear KW
  go_wp2_with fail
  refine N1.out.mono ?_
  rintro e w2 ⟨q, vq, rfl, b2, R2, -⟩
  have b2' := hide (b1.out.trans (b2.mono b1.out.size))
  have N2 := hide (newWr w2 w.heap.size b2'.out.size)
  replace R2 := hide R2
  clear N1 b2 b1
  go_wp2_with fail
  refine N2.out.mono ?_
  rintro e w3 ⟨p, rfl, b3, W3, hn3⟩
  have b3' := hide (b2'.out.trans (b3.mono b2'.out.size))
  have D3 := hide (R2.out.dis hn3)
  have E0 := hide (OM.start (R2.out.below b3 (Nat.le_refl _)) W3 D3.out (ht.out.kept b3'.out hpos.out) b3'.out hpos.out (.int .i64 0) (.int .i64 0) (.int .i64 0))
  clear N2 R2 b3 W3 hn3 D3 b2'
  go_wp2_with fail
  generalize w3.heap.size = g5 at *
  obtain ⟨g6, hg6⟩ : ∃ g6, g5 + 1 = g6 := ⟨_, rfl⟩
  simp only [hg6] at *
  clear hg6
  go_loopw [7] (fun iv wr => ∃ (i P L D A : Nat) (v : Value), i ≤ 100 ∧ iv = .int .i64 (i : Int) ∧ P ≤ 8 * nb ∧ Hid (OkS i L D) ∧ Hid (A = rd (num lb) nb 0 P) ∧ Hid (OM w wr w.heap.size q vq lb P p v A P g5 g6 (.int .i64 (i : Int)) (.int .i64 (L : Int)) (.int .i64 (D : Int)))) (fun iv _ => 100 - (intOf iv).toNat)
  case atStart => exact ⟨0, 0, 0, 0, 0, _, Nat.zero_le _, rfl, Nat.zero_le _, ⟨by decide, by decide, by decide⟩, (rd_zero _ _ _).symm, E0⟩
  case round =>
    clear E0
    obtain ⟨i, P, L, D, A, v, hi, rfl, hP8, hs, hA, E⟩ := hrel
    by_cases hlt : i < 100
    · have j1 : (i : Int) < 100 := by omega
      have GE := hide (getS E.out.rd E.out.t hpos.out hs.out)
      have s0 := E.out.s5.c0
      have s1 := E.out.s5.c1
      have s2 := E.out.s5.c2
      go_wp2_with fail
      refine GE.out.mono ?_
      rintro e w4 ⟨er, t, k, hg, her, h0, h1, b4⟩
      rw [hlb.out] at hg
      by_cases her0 : er = 0
      · subst her0
        obtain ⟨rfl, R4⟩ := h0 rfl
        obtain ⟨hT, hk, hroom, hX⟩ := gtm_ok hg
        subst hk
        have E4 := hide ((E.out.get b4 R4).below ((Below.refl w4.heap.size w4).alloc (Nat.le_refl _) (.cells #[.int .i64 ((i + 1 : Nat) : Int), .int .i64 (t : Int), .int .i64 ((dl i L t : Nat) : Int)] 23)))
        have X4 := hide (Box3.new w4 (.int .i64 ((i + 1 : Nat) : Int)) (.int .i64 (t : Int)) (.int .i64 ((dl i L t : Nat) : Int)) 23)
        have f4 : Hid (¬ fp p v w4.heap.size) := fun hf => by
          have hh := (E.out.get b4 R4).wr.not (Nat.le_refl _) hf
          exact hh
        have PU := hide (putS E4.out.wr E4.out.t hpos.out hs.out hT (by omega))
        have hs' := hide (ok_next hs.out hT (by omega))
        have hA' : Hid (A * 2 ^ cdN i L D t + cdX i L D t = rd (num lb) nb 0 (P + cdN i L D t)) := by
          show _ = _
          rw [hA.out]
          exact rd_go hroom hX
        have nn4 : Hid (g5 < w4.heap.size ∧ g6 < w4.heap.size) := by have h1 := E.out.s5.lt; have h2 := E.out.s6.lt; have h3 := b4.size; exact ⟨by omega, by omega⟩
        clear GE h0 h1 b4 R4 E s0 s1 s2 hg hX her
        replace hT := hide hT
        obtain ⟨Y, hY⟩ : ∃ Y, cdN i L D t = Y := ⟨_, rfl⟩
        obtain ⟨q1, hq1⟩ : ∃ q1, dl i L t = q1 := ⟨_, rfl⟩
        obtain ⟨i1, hi1⟩ : ∃ i1, i + 1 = i1 := ⟨_, rfl⟩
        obtain ⟨A1, hA1⟩ : ∃ A1, A * 2 ^ Y + cdX i L D t = A1 := ⟨_, rfl⟩
        obtain ⟨P1, hP1⟩ : ∃ P1, P + Y = P1 := ⟨_, rfl⟩
        rw [hY, hA1, hP1] at hA' PU
        rw [hY, hP1] at hroom E4
        rw [hq1, hi1] at PU X4 E4
        rw [hq1] at hs'
        rw [hi1] at hs'
        rw [hi1, hq1]
        have j2 : (i : Int) + 1 = (i1 : Int) := by omega
        have j3 : i1 ≤ 100 := by omega
        have j4 : (P1 : Int) ≤ 800 := by omega
        replace hY := hide hY
        replace hq1 := hide hq1
        replace hi1 := hide hi1
        replace hA1 := hide hA1
        replace hP1 := hide hP1
        have s0 := E4.out.s6.c0
        have s1 := E4.out.s6.c1
        have s2 := E4.out.s6.c2
        go_wp2_with fail
        refine PU.out.mono ?_
        rintro e w5 ⟨rfl, v5, W5, D5⟩
        have E5 := hide ((E4.out.put D5 W5).below ((Below.refl w5.heap.size w5).alloc (Nat.le_refl _) (.cells #[.int .i64 (i1 : Int), .int .i64 (t : Int), .int .i64 (q1 : Int)] 23)))
        have X5 := hide ((X4.out.did D5 f4.out).kept ((Below.refl w5.heap.size w5).alloc (Nat.le_refl _) (.cells #[.int .i64 (i1 : Int), .int .i64 (t : Int), .int .i64 (q1 : Int)] 23)) (Nat.lt_of_lt_of_le X4.out.lt D5.bel.size))
        have Y5 := hide (Box3.new w5 (.int .i64 (i1 : Int)) (.int .i64 (t : Int)) (.int .i64 (q1 : Int)) 23)
        have n85 : Hid (w4.heap.size ≠ g5 ∧ w4.heap.size ≠ g6 ∧ w5.heap.size ≠ g5 ∧ w5.heap.size ≠ g6) := by
          have h1 := nn4.out.1; have h2 := nn4.out.2; have h3 := D5.bel.size
          simp only [World.size_alloc] at h3
          refine ⟨?_, ?_, ?_, ?_⟩ <;> omega
        clear PU W5 D5 E4 X4 s0 s1 s2 f4
        have hneq : ∀ w, (binOp .neq 23 (.agg #[.int .i64 (i1 : Int), .int .i64 (t : Int), .int .i64 (q1 : Int)]) (.agg #[.int .i64 (i1 : Int), .int .i64 (t : Int), .int .i64 (q1 : Int)])).run Tryd.prog w = .ok (.bool false) w := fun w => by rw [run_neq23]; simp
        have LE := hide (lenWr E5.out.wr)
        have AT := hide (atRd E5.out.rd)
        have x0 := X5.out.c0
        have x1 := X5.out.c1
        have x2 := X5.out.c2
        have y0 := Y5.out.c0
        have y1 := Y5.out.c1
        have y2 := Y5.out.c2
        go_upto_region 14 with (first | (go_at_call 18; refine LE.out.mono ?_; rintro e wq ⟨rfl, rfl⟩) | (go_at_call 25; refine AT.out.mono ?_; rintro e wq ⟨rfl, rfl⟩))
        obtain ⟨g8, hg8⟩ : ∃ g8, w4.heap.size = g8 := ⟨_, rfl⟩
        obtain ⟨g11, hg11⟩ : ∃ g11, w5.heap.size = g11 := ⟨_, rfl⟩
        simp only [hg8, hg11] at *
        generalize w5.alloc (.cells #[.int .i64 (i1 : Int), .int .i64 (t : Int), .int .i64 (q1 : Int)] 23) = w6 at *
        have XA := hide (X5.out.but (but3 w6 g5 (.int .i64 (i1 : Int)) (.int .i64 (t : Int)) (.int .i64 (q1 : Int))) n85.out.1)
        have YA := hide (Y5.out.but (but3 w6 g5 (.int .i64 (i1 : Int)) (.int .i64 (t : Int)) (.int .i64 (q1 : Int))) n85.out.2.2.1)
        have XB := hide (X5.out.but (but3 w6 g6 (.int .i64 (i1 : Int)) (.int .i64 (t : Int)) (.int .i64 (q1 : Int))) n85.out.2.1)
        have YB := hide (Y5.out.but (but3 w6 g6 (.int .i64 (i1 : Int)) (.int .i64 (t : Int)) (.int .i64 (q1 : Int))) n85.out.2.2.2)
        have XC := hide (XA.out.but (but3 _ g6 (.int .i64 (i1 : Int)) (.int .i64 (t : Int)) (.int .i64 (q1 : Int))) n85.out.2.1)
        have YC := hide (YA.out.but (but3 _ g6 (.int .i64 (i1 : Int)) (.int .i64 (t : Int)) (.int .i64 (q1 : Int))) n85.out.2.2.2)
        have XD := hide (XB.out.but (but3 _ g5 (.int .i64 (i1 : Int)) (.int .i64 (t : Int)) (.int .i64 (q1 : Int))) n85.out.1)
        have YD := hide (YB.out.but (but3 _ g5 (.int .i64 (i1 : Int)) (.int .i64 (t : Int)) (.int .i64 (q1 : Int))) n85.out.2.2.1)
        have F1 := hide (E5.out.set56 (.int .i64 (i1 : Int)) (.int .i64 (t : Int)) (.int .i64 (q1 : Int)))
        have F2 := hide (E5.out.set65 (.int .i64 (i1 : Int)) (.int .i64 (t : Int)) (.int .i64 (q1 : Int)))
        have Z5 := hide (E5.out.s5.but (but3 w6 g6 (.int .i64 (i1 : Int)) (.int .i64 (t : Int)) (.int .i64 (q1 : Int))) E5.out.ne)
        have Z6 := hide (E5.out.s6.but (but3 w6 g5 (.int .i64 (i1 : Int)) (.int .i64 (t : Int)) (.int .i64 (q1 : Int))) (fun e => E5.out.ne e.symm))
        refine wp_region_noPanic ?_
        refine wp_region_held_drew (S := fun w' => Box3 w' g8 (.int .i64 (i1 : Int)) (.int .i64 (t : Int)) (.int .i64 (q1 : Int)) ∧ Box3 w' g11 (.int .i64 (i1 : Int)) (.int .i64 (t : Int)) (.int .i64 (q1 : Int))) (by kernel_rfl) ⟨X5.out.drew, Y5.out.drew⟩ (fun hH0 => ?_)
        refine wpAnyH_take (i := 0) (oi := { dst := some 66, op := Op.load 23 (Operand.tmp 8), type := 23, pos := "law.go:96", after := #[], guard := none }) (v := ?_) rfl (by kernel_rfl) (by kernel_rfl) (by kernel_rfl) (fun _ _ _ h => h) (Or.inl ⟨by rfl, ?_⟩) hH0 ?_
        rotate_left
        · intro w' hw'
          obtain ⟨⟨s0, s1, s2, -, -, -, -⟩, ⟨t0, t1, t2, -, -, -, -⟩⟩ := hw'
          go_simp
          try with_reducible rfl
        try simp only [Act.put, List.setIfInBounds_toArray, List.set_cons_zero, List.set_cons_succ]
        refine wpAnyH_take (i := 1) (oi := { dst := some 67, op := Op.load 23 (Operand.tmp 11), type := 23, pos := "law.go:96", after := #[{ on := 2, ground := Ground.gcOnly Departure.lateStores }], guard := none }) (v := ?_) rfl (by kernel_rfl) (by kernel_rfl) (by kernel_rfl) (fun _ _ _ h => h) (Or.inl ⟨by rfl, ?_⟩) hH0 ?_
        rotate_left
        · intro w' hw'
          obtain ⟨⟨s0, s1, s2, -, -, -, -⟩, ⟨t0, t1, t2, -, -, -, -⟩⟩ := hw'
          go_simp
          try with_reducible rfl
        try simp only [Act.put, List.setIfInBounds_toArray, List.set_cons_zero, List.set_cons_succ]
        clear x0 x1 x2 y0 y1 y2 hneq LE AT
        refine wpAnyH_ready (rs := [2]) (by kernel_rfl) (by simp) ?_
        refine AllReadyH.cons (o := { dst := none, op := Op.store 23 (Operand.tmp 5) (Operand.tmp 66), type := 0, pos := "law.go:96", after := #[{ on := 0, ground := Ground.data }, { on := 0, ground := Ground.phase }, { on := 1, ground := Ground.textOnly Departure.lateStores }], guard := none }) rfl (fun K hK => ?_) AllReadyH.nil
        · have e5 := E5.out.s5
          have r7 := Box3.o1 e5
          have r8 := Box3.o2 e5
          obtain ⟨r0, r1, r2, r3, r4, r5, r6⟩ := e5
          go_simp
          refine hK.out _ _ ⟨XA.out.drew, YA.out.drew⟩ (fun hH1 => ?_)
          clear hK r0 r1 r2 r3 r4 r5 r6 r7 r8
          try simp only [Act.put, List.setIfInBounds_toArray, List.set_cons_zero, List.set_cons_succ]
          refine wpAnyH_ready (rs := [3]) (by kernel_rfl) (by simp) ?_
          refine AllReadyH.cons (o := { dst := none, op := Op.store 23 (Operand.tmp 6) (Operand.tmp 67), type := 0, pos := "law.go:96", after := #[{ on := 1, ground := Ground.data }, { on := 2, ground := Ground.chain }, { on := 0, ground := Ground.phase }, { on := 1, ground := Ground.phase }, { on := 2, ground := Ground.phase }], guard := none }) rfl (fun K hK => ?_) AllReadyH.nil
          have e6 := Z6.out
          have r7 := Box3.o1 e6
          have r8 := Box3.o2 e6
          obtain ⟨r0, r1, r2, r3, r4, r5, r6⟩ := e6
          go_simp
          refine hK.out _ _ ⟨XC.out.drew, YC.out.drew⟩ (fun hH2 => ?_)
          clear hK r0 r1 r2 r3 r4 r5 r6 r7 r8
          try simp only [Act.put, List.setIfInBounds_toArray, List.set_cons_zero, List.set_cons_succ]
          refine wpAnyH_done (by kernel_rfl) ?_ _
          refine NoPanic.normal ?_
          go_wp2_with fail
          go_roundw
          case rel => exact ⟨i1, P1, t, q1, A1, v5, j3, by go_num, hroom, hs', hA', F1.out.drew⟩
          case measure => simp [intOf]; omega
      · obtain ⟨rfl, R4⟩ := h1 her0
        have E4 := hide ((E.out.get b4 R4).below ((Below.refl w4.heap.size w4).alloc (Nat.le_refl _) (.cells #[.int .i64 0, .int .i64 0, .int .i64 0] 23)))
        have j3 : ((er : Int) != 0) = true := by rw [bne_iff_ne]; omega
        clear GE h0 h1 b4 R4 E s0 s1 s2 hg her
        replace her0 := hide her0
        generalize (er : Int) = ei at *
        have HX := hide (HB.out.kept E4.out.bel (Nat.le_refl _))
        have NX := hide (newRd _ w.heap.size E4.out.bel.size a0 nb cap0 lb HX.out (by omega))
        have hWE := hide E4.out.wr
        have bWE := hide E4.out.bel
        clear E4
        go_wp2_with fail
        refine NX.out.mono ?_
        rintro e w5 ⟨qx, vx, rfl, b5, RX, hnx⟩
        have W5 := hide (hWE.out.below b5 (Nat.le_refl _))
        have B5 := hide (bWE.out.trans (b5.mono bWE.out.size))
        have dx := hide (hWE.out.dis hnx)
        obtain ⟨lw, Hw⟩ := W5.out.holds
        replace Hw := hide Hw
        have BY := hide (bytesWr W5.out (by omega) lw Hw.out)
        replace RX := hide RX
        clear NX HX hWE bWE b5 hnx
        go_wp2_with fail
        refine BY.out.mono ?_
        rintro e w6 ⟨a6, n6, c6, rfl, H6, b6, -⟩
        have W6 := hide (W5.out.below b6 (Nat.le_refl _))
        have B6 := hide (B5.out.trans (b6.mono B5.out.size))
        have RX6 := hide (RX.out.below b6 (Nat.le_refl _))
        have hn6 : n6 ≤ 1000 := by have h1 := H6.hlen; have h2 := Hw.out.hi; omega
        have NY := hide (newRd w6 w.heap.size B6.out.size a6 n6 c6 lw H6 (by omega))
        clear BY H6 b6 W5 B5 RX hn6
        go_wp2_with fail
        refine NY.out.mono ?_
        rintro e w7 ⟨qy, vy, rfl, b7, RY, hny⟩
        have W7 := hide (W6.out.below b7 (Nat.le_refl _))
        have B7 := hide (B6.out.trans (b7.mono B6.out.size))
        have RX7 := hide (RX6.out.below b7 (Nat.le_refl _))
        have dy := hide (W6.out.dis hny)
        have dxy := hide (RX6.out.dis hny)
        replace RY := hide RY
        clear NY W6 B6 RX6 b7 hny
        go_wp2_with fail
        go_loopw [15] (fun iv w8 => ∃ i : Nat, i ≤ P ∧ iv = .int .i64 (i : Int) ∧ Hid (Rd w8 w.heap.size qx vx lb i) ∧ Hid (Rd w8 w.heap.size qy vy lw i) ∧ Hid (Wr w8 w.heap.size p v A P) ∧ Hid (Below w.heap.size w w8)) (fun iv _ => P - (intOf iv).toNat)
        case atStart => exact ⟨0, Nat.zero_le _, rfl, RX7, RY, W7, B7⟩
        case round =>
          clear RX7 RY W7 B7
          obtain ⟨i, hi, rfl, X, Y, W, B⟩ := hrel
          have LE := hide (lenWr W.out)
          have k1 : (P : Int) ≤ 800 := by omega
          by_cases hlt : i < P
          · have j1 : (i : Int) < (P : Int) := by omega
            have hsame := bits_same hA.out hP8 hlt Hw.out
            have hPlo := Hw.out.lo
            obtain ⟨x, hx⟩ : ∃ x, rd (num lb) nb i 1 = x := ⟨_, rfl⟩
            rw [hx] at hsame
            have hx' : rd (num lb) lb.length i 1 = x := by rw [hlb.out]; exact hx
            have PX := hide (getR X.out 1 (ni := 1) (xi := (x : Int)) rfl hx' rfl (by decide) (by rw [hlb.out]; omega))
            have PY := hide (fun (wx : World) (h : Rd wx w.heap.size qy vy lw i) => getR h 1 (ni := 1) (xi := (x : Int)) rfl hsame rfl (by decide) (by omega))
            replace hx := hide hx
            replace hx' := hide hx'
            replace hsame := hide hsame
            replace hPlo := hide hPlo
            have k2 : i + 1 ≤ P := by omega
            go_wp2_with (go_at_call 18; refine LE.out.mono ?_; rintro e wq ⟨rfl, rfl⟩)
            refine PX.out.mono ?_
            rintro e w9 ⟨rfl, X9, b9⟩
            have Y9 := hide (Y.out.but b9 (fun h => dxy.out qx (.inl rfl) h))
            have W9 := hide (W.out.but b9 (fun h => dx.out qx h (.inl rfl)))
            have B9 := hide (B.out.trans (X.out.1.belR b9))
            replace X9 := hide X9
            have PY' := hide (PY.out _ Y9.out)
            clear PX PY b9 LE
            go_wp2_with fail
            refine PY'.out.mono ?_
            rintro e w10 ⟨rfl, Y10, b10⟩
            have X10 := hide (X9.out.but b10 (fun h => dxy.out qy h (.inl rfl)))
            have W10 := hide (W9.out.but b10 (fun h => dy.out qy h (.inl rfl)))
            have B10 := hide (B9.out.trans (Y9.out.1.belR b10))
            replace Y10 := hide Y10
            clear PY' b10
            go_wp2_with fail
            go_roundw
            case rel => exact ⟨i + 1, k2, by go_num, X10, Y10, W10, B10⟩
            case measure => simp [intOf]; omega
          · have j1 : ¬ (i : Int) < (P : Int) := by omega
            go_wp2_with (go_at_call 18; refine LE.out.mono ?_; rintro e wq ⟨rfl, rfl⟩)
            go_ret
            exact ⟨rfl, B.out⟩
    · have j1 : ¬ (i : Int) < 100 := by omega
      have HX := hide (HB.out.kept E.out.bel (Nat.le_refl _))
      have NX := hide (newRd wr w.heap.size E.out.bel.size a0 nb cap0 lb HX.out (by omega))
      have hWE := hide E.out.wr
      have bWE := hide E.out.bel
      clear E
      go_wp2_with fail
      refine NX.out.mono ?_
      rintro e w5 ⟨qx, vx, rfl, b5, RX, hnx⟩
      have W5 := hide (hWE.out.below b5 (Nat.le_refl _))
      have B5 := hide (bWE.out.trans (b5.mono bWE.out.size))
      have dx := hide (hWE.out.dis hnx)
      obtain ⟨lw, Hw⟩ := W5.out.holds
      replace Hw := hide Hw
      have BY := hide (bytesWr W5.out (by omega) lw Hw.out)
      replace RX := hide RX
      clear NX HX hWE bWE b5 hnx
      go_wp2_with fail
      refine BY.out.mono ?_
      rintro e w6 ⟨a6, n6, c6, rfl, H6, b6, -⟩
      have W6 := hide (W5.out.below b6 (Nat.le_refl _))
      have B6 := hide (B5.out.trans (b6.mono B5.out.size))
      have RX6 := hide (RX.out.below b6 (Nat.le_refl _))
      have hn6 : n6 ≤ 1000 := by have h1 := H6.hlen; have h2 := Hw.out.hi; omega
      have NY := hide (newRd w6 w.heap.size B6.out.size a6 n6 c6 lw H6 (by omega))
      clear BY H6 b6 W5 B5 RX hn6
      go_wp2_with fail
      refine NY.out.mono ?_
      rintro e w7 ⟨qy, vy, rfl, b7, RY, hny⟩
      have W7 := hide (W6.out.below b7 (Nat.le_refl _))
      have B7 := hide (B6.out.trans (b7.mono B6.out.size))
      have RX7 := hide (RX6.out.below b7 (Nat.le_refl _))
      have dy := hide (W6.out.dis hny)
      have dxy := hide (RX6.out.dis hny)
      replace RY := hide RY
      clear NY W6 B6 RX6 b7 hny
      go_wp2_with fail
      go_loopw [15] (fun iv w8 => ∃ i : Nat, i ≤ P ∧ iv = .int .i64 (i : Int) ∧ Hid (Rd w8 w.heap.size qx vx lb i) ∧ Hid (Rd w8 w.heap.size qy vy lw i) ∧ Hid (Wr w8 w.heap.size p v A P) ∧ Hid (Below w.heap.size w w8)) (fun iv _ => P - (intOf iv).toNat)
      case atStart => exact ⟨0, Nat.zero_le _, rfl, RX7, RY, W7, B7⟩
      case round =>
        clear RX7 RY W7 B7
        obtain ⟨i, hi, rfl, X, Y, W, B⟩ := hrel
        have LE := hide (lenWr W.out)
        have k1 : (P : Int) ≤ 800 := by omega
        by_cases hlt : i < P
        · have j1 : (i : Int) < (P : Int) := by omega
          have hsame := bits_same hA.out hP8 hlt Hw.out
          have hPlo := Hw.out.lo
          obtain ⟨x, hx⟩ : ∃ x, rd (num lb) nb i 1 = x := ⟨_, rfl⟩
          rw [hx] at hsame
          have hx' : rd (num lb) lb.length i 1 = x := by rw [hlb.out]; exact hx
          have PX := hide (getR X.out 1 (ni := 1) (xi := (x : Int)) rfl hx' rfl (by decide) (by rw [hlb.out]; omega))
          have PY := hide (fun (wx : World) (h : Rd wx w.heap.size qy vy lw i) => getR h 1 (ni := 1) (xi := (x : Int)) rfl hsame rfl (by decide) (by omega))
          replace hx := hide hx
          replace hx' := hide hx'
          replace hsame := hide hsame
          replace hPlo := hide hPlo
          have k2 : i + 1 ≤ P := by omega
          go_wp2_with (go_at_call 18; refine LE.out.mono ?_; rintro e wq ⟨rfl, rfl⟩)
          refine PX.out.mono ?_
          rintro e w9 ⟨rfl, X9, b9⟩
          have Y9 := hide (Y.out.but b9 (fun h => dxy.out qx (.inl rfl) h))
          have W9 := hide (W.out.but b9 (fun h => dx.out qx h (.inl rfl)))
          have B9 := hide (B.out.trans (X.out.1.belR b9))
          replace X9 := hide X9
          have PY' := hide (PY.out _ Y9.out)
          clear PX PY b9 LE
          go_wp2_with fail
          refine PY'.out.mono ?_
          rintro e w10 ⟨rfl, Y10, b10⟩
          have X10 := hide (X9.out.but b10 (fun h => dxy.out qy h (.inl rfl)))
          have W10 := hide (W9.out.but b10 (fun h => dy.out qy h (.inl rfl)))
          have B10 := hide (B9.out.trans (Y9.out.1.belR b10))
          replace Y10 := hide Y10
          clear PY' b10
          go_wp2_with fail
          go_roundw
          case rel => exact ⟨i + 1, k2, by go_num, X10, Y10, W10, B10⟩
          case measure => simp [intOf]; omega
        · have j1 : ¬ (i : Int) < (P : Int) := by omega
          go_wp2_with (go_at_call 18; refine LE.out.mono ?_; rintro e wq ⟨rfl, rfl⟩)
          go_ret
          exact ⟨rfl, B.out⟩
end Go.Proofs.YtpopkoedeckfoaaDoor
