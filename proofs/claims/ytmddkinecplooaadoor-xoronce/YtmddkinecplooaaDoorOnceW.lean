/-
  The walk of XorOnce.
-/
import Derived.Test.YtmddkinecplooaaDoorXT
import Derived.Deep.Cut
import Derived.Deep.RegionHeld3
namespace Go.Proofs.YtmddkinecplooaaDoor
open Go.RowKit
set_option linter.unusedVariables false
set_option linter.unusedSimpArgs false

set_option maxRecDepth 100000 in
set_option maxHeartbeats 8000000 in
theorem once_walk0 (a0 : Option Addr) (len0 cap0 nb : Nat) (lb : List Int) (w : World) (ht : Tab w) (HB : Has w a0 nb cap0 lb) (hnb : nb ≤ 150) (hle0 : len0 ≤ cap0) (hcb0 : cap0 ≤ maxLen) (ek : (if (150 : Int) < (len0 : Int) then 150 else (len0 : Int)) = (nb : Int)) :
    Calls Tryd.prog 6 #[.slice a0 len0 cap0] w fun e w' => e = .returned (.bool true) ∧ Below w.heap.size w w' := by
  have hle1 : (nb : Int) ≤ (cap0 : Int) := by have := HB.le; omega
  have hnb2 : (nb : Int) ≤ 150 := by omega
  unfold maxLen at hcb0
  have hpos := hide ht.pos
  have hlb : Hid (lb.length = nb) := HB.hlen
  have hz24 := zero24
  have KW := hide (works_any w ht)
  replace HB := hide HB
  replace ht := hide ht
  go_enter Tryd.func6, Tryd.ntmps6
  go_wp2_with fail
  refine KW.out.mono ?_
  rintro e w1 ⟨rfl, b1⟩
  have N1 := hide (newRd w1 w.heap.size b1.size a0 nb cap0 lb (HB.out.kept b1 (Nat.le_refl _)) (by omega))
  replace b1 := hide b1
  clear KW
  go_wp2_with fail
  refine N1.out.mono ?_
  rintro e w2 ⟨q, vq, rfl, b2, R2, -⟩
  have b2' := hide (b1.out.trans (b2.mono b1.out.size))
  have N2 := hide (newWr w2 w.heap.size b2'.out.size)
  replace R2 := hide R2
  clear N1 b2 b1
  go_wp2_with fail
  refine N2.out.mono ?_
  rintro e w3 ⟨p, rfl, b3, W3, hn3⟩
  have b3' := hide (b2'.out.trans (b3.mono b2'.out.size))
  have D3 := hide (R2.out.dis hn3)
  have R3 := hide (R2.out.below b3 (Nat.le_refl _))
  replace W3 := hide W3
  clear N2 R2 b3 hn3 b2'
  go_wp2_with fail
  refine (begin_any _).mono ?_
  rintro e w4 ⟨rfl, b4⟩
  have b4' := hide (b3'.out.trans (b4.mono b3'.out.size))
  have R4 := hide (R3.out.below b4 (Nat.le_refl _))
  have W4 := hide (W3.out.below b4 (Nat.le_refl _))
  clear b3' R3 W3 b4
  go_wp2_with fail
  refine (begin_any _).mono ?_
  rintro e w5 ⟨rfl, b5⟩
  have b5' := hide (b4'.out.trans (b5.mono b4'.out.size))
  have R5 := hide (R4.out.below b5 (Nat.le_refl _))
  have W5 := hide (W4.out.below b5 (Nat.le_refl _))
  clear b4' R4 W4 b5
  have E0 := hide (OM.start R5.out W5.out D3.out (ht.out.kept b5'.out hpos.out) b5'.out hpos.out (.int .i64 0) (.int .u64 0) (.int .i64 64) (.int .i64 0))
  go_wp2_with fail
  clear R5 W5 b5' D3
  generalize w5.heap.size = g5 at *
  obtain ⟨g6, hg6⟩ : ∃ g6, g5 + 1 = g6 := ⟨_, rfl⟩
  simp only [hg6] at *
  clear hg6
  go_loopw [7] (fun iv wr => ∃ (i P L a b A : Nat) (v : Value), i ≤ 100 ∧ iv = .int .i64 (i : Int) ∧ P ≤ 8 * nb ∧ Hid (OkS i a b) ∧ Hid (L < 18446744073709551616) ∧ Hid (A = rd (num lb) nb 0 P) ∧ Hid (OM w wr w.heap.size q vq lb P p v A P g5 g6 (.int .i64 (i : Int)) (.int .u64 (L : Int)) (.int .i64 (a : Int)) (.int .i64 (b : Int)))) (fun iv _ => 100 - (intOf iv).toNat)
  case atStart => exact ⟨0, 0, 0, 64, 0, 0, _, Nat.zero_le _, rfl, Nat.zero_le _, ⟨by decide, .inl ⟨rfl, rfl⟩⟩, by show _ < _; decide, (rd_zero _ _ _).symm, E0⟩
  case round =>
    clear E0
    obtain ⟨i, P, L, a, b, A, v, hi, rfl, hP8, hs, hL, hA, E⟩ := hrel
    by_cases hlt : i < 100
    · have j1 : (i : Int) < 100 := by omega
      have s0 := E.out.s5.st4.c0
      have s1 := E.out.s5.st4.c1
      have s2 := E.out.s5.st4.c2
      have s3 := E.out.s5.st4.c3
      cases hg : gX i L a b (num lb) nb P with
      | some qq =>
        obtain ⟨t, k, a1, b1⟩ := qq
        have GE := hide (getX_ok E.out.rd E.out.t hpos.out hs.out hL.out (by rw [hlb.out]; exact hg))
        obtain ⟨ht64, hk, ha1, hb1, hroom, hX⟩ := gX_ok hs.out.w hL.out hg
        have hs' := hide (ok_next (L := L) (v := t) hs.out hL.out ht64 (by omega))
        rw [← ha1, ← hb1] at hs'
        obtain ⟨X, hXe⟩ : ∃ X, cX i L a b t = X := ⟨_, rfl⟩
        rw [hXe] at hX
        have PU := hide (fun wx (h : Wr wx w.heap.size p v A P) (ht : Tab wx) => putXi (n := i) (L := L) (a := a) (b := b) (V := t) (a' := a1) (b' := b1) (ni' := ((i + 1 : Nat) : Int)) h ht hpos.out hs.out hL.out ht64 (by omega) rfl rfl rfl rfl rfl rfl ha1.symm rfl hb1.symm rfl hk.symm hXe)
        have hA' : Hid (A * 2 ^ k + X = rd (num lb) nb 0 (P + k)) := by
          show _ = _
          rw [hA.out]
          exact rd_go hroom hX
        clear hg hX
        obtain ⟨i1, hi1⟩ : ∃ i1, i + 1 = i1 := ⟨_, rfl⟩
        obtain ⟨A1, hA1⟩ : ∃ A1, A * 2 ^ k + X = A1 := ⟨_, rfl⟩
        obtain ⟨P1, hP1⟩ : ∃ P1, P + k = P1 := ⟨_, rfl⟩
        rw [hA1, hP1] at hA'
        rw [hP1] at hroom
        simp only [hA1, hP1, hi1] at PU
        rw [hi1] at hs' GE
        rw [hP1] at GE
        have j2 : (i : Int) + 1 = (i1 : Int) := by omega
        have j3 : i1 ≤ 100 := by omega
        have j4 : (P1 : Int) ≤ 1200 := by omega
        replace hi1 := hide hi1
        replace hA1 := hide hA1
        replace hP1 := hide hP1
        replace hk := hide hk
        replace ha1 := hide ha1
        replace hb1 := hide hb1
        replace hXe := hide hXe
        replace ht64 := hide ht64
        replace hroom := hide hroom
        replace PU := hide PU
        go_wp2_with fail
        refine GE.out.mono ?_
        rintro e w4 ⟨rfl, R4, D4⟩
        have E4' := E.out.get D4 R4
        have X4 := hide (Bx.new w4 24 #[.int .i64 (i1 : Int), .int .u64 (t : Int), .int .i64 (a1 : Int), .int .i64 (b1 : Int)])
        have f4 := hide (E4'.wr.not (Nat.le_refl _))
        have nn4 : Hid (g5 < w4.heap.size ∧ g6 < w4.heap.size) := ⟨E4'.s5.lt, E4'.s6.lt⟩
        have E4 := hide (E4'.alloc (.cells #[.int .i64 (i1 : Int), .int .u64 (t : Int), .int .i64 (a1 : Int), .int .i64 (b1 : Int)] 24))
        clear GE D4 R4 E E4' s0 s1 s2 s3
        have s0 := E4.out.s6.st4.c0
        have s1 := E4.out.s6.st4.c1
        have s2 := E4.out.s6.st4.c2
        have s3 := E4.out.s6.st4.c3
        go_wp2_with fail
        refine (PU.out.out _ E4.out.wr E4.out.t).mono ?_
        rintro e w5 ⟨rfl, v5, W5, D5⟩
        have E5' := E4.out.put D5 W5
        have X5 := hide ((X4.out.did D5 f4.out).alloc (.cells #[.int .i64 (i1 : Int), .int .u64 (t : Int), .int .i64 (a1 : Int), .int .i64 (b1 : Int)] 24))
        have Y5 := hide (Bx.new w5 24 #[.int .i64 (i1 : Int), .int .u64 (t : Int), .int .i64 (a1 : Int), .int .i64 (b1 : Int)])
        have E5 := hide (E5'.alloc (.cells #[.int .i64 (i1 : Int), .int .u64 (t : Int), .int .i64 (a1 : Int), .int .i64 (b1 : Int)] 24))
        have n85 : Hid (w4.heap.size ≠ g5 ∧ w4.heap.size ≠ g6 ∧ w5.heap.size ≠ g5 ∧ w5.heap.size ≠ g6) := by
          have h1 := nn4.out.1; have h2 := nn4.out.2; have h3 := D5.bel.size
          simp only [World.size_alloc] at h3
          refine ⟨?_, ?_, ?_, ?_⟩ <;> omega
        clear PU W5 D5 E4 E5' X4 s0 s1 s2 s3 f4
        have hneq : ∀ w, (binOp .neq 24 (.agg #[.int .i64 (i1 : Int), .int .u64 (t : Int), .int .i64 (a1 : Int), .int .i64 (b1 : Int)]) (.agg #[.int .i64 (i1 : Int), .int .u64 (t : Int), .int .i64 (a1 : Int), .int .i64 (b1 : Int)])).run Tryd.prog w = .ok (.bool false) w := fun w => by rw [run_neq24]; simp
        have LE := hide (lenWr E5.out.wr)
        have AT := hide (atRd E5.out.rd)
        have x0 := X5.out.st4.c0
        have x1 := X5.out.st4.c1
        have x2 := X5.out.st4.c2
        have x3 := X5.out.st4.c3
        have y0 := Y5.out.st4.c0
        have y1 := Y5.out.st4.c1
        have y2 := Y5.out.st4.c2
        have y3 := Y5.out.st4.c3
        go_upto_region 14 with (first | (go_at_call 18; refine LE.out.mono ?_; rintro e wq ⟨rfl, rfl⟩) | (go_at_call 27; refine AT.out.mono ?_; rintro e wq ⟨rfl, rfl⟩))
        obtain ⟨g8, hg8⟩ : ∃ g8, w4.heap.size = g8 := ⟨_, rfl⟩
        obtain ⟨g11, hg11⟩ : ∃ g11, w5.heap.size = g11 := ⟨_, rfl⟩
        obtain ⟨w6, hw6⟩ : ∃ w6, w5.alloc (.cells #[.int .i64 (i1 : Int), .int .u64 (t : Int), .int .i64 (a1 : Int), .int .i64 (b1 : Int)] 24) = w6 := ⟨_, rfl⟩
        simp only [hg8, hg11, hw6] at E5 X5 Y5 n85 ⊢
        clear hg8 hg11 hw6 x0 x1 x2 x3 y0 y1 y2 y3 hneq LE AT
        have XA := hide (X5.out.but (but_set4 w6 g5 (.int .i64 (i1 : Int)) (.int .u64 (t : Int)) (.int .i64 (a1 : Int)) (.int .i64 (b1 : Int))) n85.out.1)
        have YA := hide (Y5.out.but (but_set4 w6 g5 (.int .i64 (i1 : Int)) (.int .u64 (t : Int)) (.int .i64 (a1 : Int)) (.int .i64 (b1 : Int))) n85.out.2.2.1)
        have XC := hide (XA.out.but (but_set4 _ g6 (.int .i64 (i1 : Int)) (.int .u64 (t : Int)) (.int .i64 (a1 : Int)) (.int .i64 (b1 : Int))) n85.out.2.1)
        have YC := hide (YA.out.but (but_set4 _ g6 (.int .i64 (i1 : Int)) (.int .u64 (t : Int)) (.int .i64 (a1 : Int)) (.int .i64 (b1 : Int))) n85.out.2.2.2)
        have F1 := hide (E5.out.set56 (.int .i64 (i1 : Int)) (.int .u64 (t : Int)) (.int .i64 (a1 : Int)) (.int .i64 (b1 : Int)))
        have Z6 := hide (E5.out.s6.but (but_set4 w6 g5 (.int .i64 (i1 : Int)) (.int .u64 (t : Int)) (.int .i64 (a1 : Int)) (.int .i64 (b1 : Int))) (fun e => E5.out.ne e.symm))
        refine wp_region_noPanic ?_
        refine wp_region_held_drew (S := (fun w' => St4 w' g8 (.int .i64 (i1 : Int)) (.int .u64 (t : Int)) (.int .i64 (a1 : Int)) (.int .i64 (b1 : Int)) ∧ St4 w' g11 (.int .i64 (i1 : Int)) (.int .u64 (t : Int)) (.int .i64 (a1 : Int)) (.int .i64 (b1 : Int)))) (by kernel_rfl) ⟨X5.out.drew.st4, Y5.out.drew.st4⟩ (fun hH0 => ?_)
        refine wpAnyH_take (i := 0) (oi := { dst := some 66, op := Op.load 24 (Operand.tmp 8), type := 24, pos := "law.go:92", after := #[], guard := none }) (v := ?_) rfl (by kernel_rfl) (by kernel_rfl) (by kernel_rfl) (fun _ _ _ h => h) (Or.inl ⟨by rfl, ?_⟩) hH0 ?_
        rotate_left
        · intro w' hw'
          obtain ⟨⟨s0, s1, s2, s3, -, -, -, -, -, -, -⟩, ⟨t0, t1, t2, t3, -, -, -, -, -, -, -⟩⟩ := hw'
          go_simp
          try with_reducible rfl
        try simp only [Act.put, List.setIfInBounds_toArray, List.set_cons_zero, List.set_cons_succ]
        refine wpAnyH_take (i := 1) (oi := { dst := some 67, op := Op.load 24 (Operand.tmp 11), type := 24, pos := "law.go:92", after := #[{ on := 2, ground := Ground.gcOnly Departure.lateStores }], guard := none }) (v := ?_) rfl (by kernel_rfl) (by kernel_rfl) (by kernel_rfl) (fun _ _ _ h => h) (Or.inl ⟨by rfl, ?_⟩) hH0 ?_
        rotate_left
        · intro w' hw'
          obtain ⟨⟨s0, s1, s2, s3, -, -, -, -, -, -, -⟩, ⟨t0, t1, t2, t3, -, -, -, -, -, -, -⟩⟩ := hw'
          go_simp
          try with_reducible rfl
        try simp only [Act.put, List.setIfInBounds_toArray, List.set_cons_zero, List.set_cons_succ]
        obtain ⟨r0, r1, r2, r3, r4, r5, r6, r7, r8, r9, r10⟩ := E5.out.s5.st4
        refine wpAnyH_ready (rs := [2]) (by kernel_rfl) (by simp) ?_
        refine AllReadyH.cons (o := { dst := none, op := Op.store 24 (Operand.tmp 5) (Operand.tmp 66), type := 0, pos := "law.go:92", after := #[{ on := 0, ground := Ground.data }, { on := 0, ground := Ground.phase }, { on := 1, ground := Ground.textOnly Departure.lateStores }], guard := none }) rfl (fun K hK => ?_) AllReadyH.nil
        go_simp
        refine hK.out _ _ ⟨XA.out.drew.st4, YA.out.drew.st4⟩ (fun hH1 => ?_)
        clear hK
        try simp only [Act.put, List.setIfInBounds_toArray, List.set_cons_zero, List.set_cons_succ]
        clear r0 r1 r2 r3 r4 r5 r6 r7 r8 r9 r10
        obtain ⟨r0, r1, r2, r3, r4, r5, r6, r7, r8, r9, r10⟩ := Z6.out.st4
        refine wpAnyH_ready (rs := [3]) (by kernel_rfl) (by simp) ?_
        refine AllReadyH.cons (o := { dst := none, op := Op.store 24 (Operand.tmp 6) (Operand.tmp 67), type := 0, pos := "law.go:92", after := #[{ on := 1, ground := Ground.data }, { on := 2, ground := Ground.chain }, { on := 0, ground := Ground.phase }, { on := 1, ground := Ground.phase }, { on := 2, ground := Ground.phase }], guard := none }) rfl (fun K hK => ?_) AllReadyH.nil
        go_simp
        refine hK.out _ _ ⟨XC.out.drew.st4, YC.out.drew.st4⟩ (fun hH2 => ?_)
        clear hK
        try simp only [Act.put, List.setIfInBounds_toArray, List.set_cons_zero, List.set_cons_succ]
        clear r0 r1 r2 r3 r4 r5 r6 r7 r8 r9 r10
        refine wpAnyH_done (by kernel_rfl) ?_ _
        refine NoPanic.normal ?_
        go_wp2_with fail
        go_roundw
        case rel => exact ⟨i1, P1, t, a1, b1, A1, v5, j3, by go_num, hroom.out, hs', ht64, hA', F1.out.drew⟩
        case measure => simp [intOf]; omega
      | none =>
        have GE := hide (getX_no (L := L) E.out.rd E.out.t hpos.out hs.out (by rw [hlb.out]; exact hg))
        clear hg
        go_wp2_with fail
        refine GE.out.mono ?_
        rintro e w4 ⟨rfl, D4⟩
        have hWx := hide ((D4.wr (dis_nul E.out.dis) E.out.wr).1.below ((Below.refl w4.heap.size w4).alloc (Nat.le_refl _) (.cells #[.int .i64 0, .int .u64 0, .int .i64 0, .int .i64 0] 24)) (Nat.le_refl _))
        have hBy := E.out.bel.trans D4.bel
        have hBx := hide (hBy.alloc hBy.size (.cells #[.int .i64 0, .int .u64 0, .int .i64 0, .int .i64 0] 24))
        clear GE D4 E hBy s0 s1 s2 s3
        have HX := hide (HB.out.kept hBx.out (Nat.le_refl _))
        have NX := hide (newRd _ w.heap.size hBx.out.size a0 nb cap0 lb HX.out (by omega))
        have hWE := hWx
        have bWE := hBx
        clear hWx hBx
        go_wp2_with fail
        refine NX.out.mono ?_
        rintro e w5 ⟨qx, vx, rfl, b5, RX, hnx⟩
        have W5 := hide (hWE.out.below b5 (Nat.le_refl _))
        have B5 := hide (bWE.out.trans (b5.mono bWE.out.size))
        have dx := hide (hWE.out.dis hnx)
        obtain ⟨lw, Hw⟩ := W5.out.holds
        replace Hw := hide Hw
        have BY := hide (bytesWr W5.out (by omega) lw Hw.out)
        replace RX := hide RX
        clear NX HX hWE bWE b5 hnx
        go_wp2_with fail
        refine BY.out.mono ?_
        rintro e w6 ⟨a6, n6, c6, rfl, H6, b6, -⟩
        have W6 := hide (W5.out.below b6 (Nat.le_refl _))
        have B6 := hide (B5.out.trans (b6.mono B5.out.size))
        have RX6 := hide (RX.out.below b6 (Nat.le_refl _))
        have hn6 : n6 ≤ 1000 := by have h1 := H6.hlen; have h2 := Hw.out.hi; omega
        have NY := hide (newRd w6 w.heap.size B6.out.size a6 n6 c6 lw H6 (by omega))
        clear BY H6 b6 W5 B5 RX hn6
        go_wp2_with fail
        refine NY.out.mono ?_
        rintro e w7 ⟨qy, vy, rfl, b7, RY, hny⟩
        have W7 := hide (W6.out.below b7 (Nat.le_refl _))
        have B7 := hide (B6.out.trans (b7.mono B6.out.size))
        have RX7 := hide (RX6.out.below b7 (Nat.le_refl _))
        have dy := hide (W6.out.dis hny)
        have dxy := hide (RX6.out.dis hny)
        replace RY := hide RY
        clear NY W6 B6 RX6 b7 hny
        go_wp2_with fail
        go_loopw [15] (fun iv w8 => ∃ i : Nat, i ≤ P ∧ iv = .int .i64 (i : Int) ∧ Hid (Rd w8 w.heap.size qx vx lb i) ∧ Hid (Rd w8 w.heap.size qy vy lw i) ∧ Hid (Wr w8 w.heap.size p v A P) ∧ Hid (Below w.heap.size w w8)) (fun iv _ => P - (intOf iv).toNat)
        case atStart => exact ⟨0, Nat.zero_le _, rfl, RX7, RY, W7, B7⟩
        case round =>
          clear RX7 RY W7 B7
          obtain ⟨i, hi, rfl, X, Y, W, B⟩ := hrel
          have LE := hide (lenWr W.out)
          have k1 : (P : Int) ≤ 1200 := by omega
          by_cases hlt : i < P
          · have j1 : (i : Int) < (P : Int) := by omega
            have hsame := bits_same hA.out hP8 hlt Hw.out
            have hPlo := Hw.out.lo
            obtain ⟨x, hx⟩ : ∃ x, rd (num lb) nb i 1 = x := ⟨_, rfl⟩
            rw [hx] at hsame
            have hx' : rd (num lb) lb.length i 1 = x := by rw [hlb.out]; exact hx
            have PX := hide (getG X.out 1 (ni := 1) (xi := (x : Int)) rfl hx' rfl (by decide) (by rw [hlb.out]; omega))
            have PY := hide (fun (wx : World) (h : Rd wx w.heap.size qy vy lw i) => getG h 1 (ni := 1) (xi := (x : Int)) rfl hsame rfl (by decide) (by omega))
            replace hx := hide hx
            replace hx' := hide hx'
            replace hsame := hide hsame
            replace hPlo := hide hPlo
            have k2 : i + 1 ≤ P := by omega
            go_wp2_with fail
            refine LE.out.mono ?_
            rintro e wq ⟨rfl, hwq⟩
            rw [hwq]
            clear hwq
            go_wp2_with fail
            refine PX.out.mono ?_
            rintro e w9 ⟨rfl, X9, b9⟩
            have Y9 := hide (b9.rd (dis_nul dxy.out) Y.out).1
            have W9 := hide (b9.wr (dis_nul dx.out.symm) W.out).1
            have B9 := hide (B.out.trans b9.bel)
            replace X9 := hide X9
            have PY' := hide (PY.out _ Y9.out)
            clear PX PY b9 LE
            go_wp2_with fail
            refine PY'.out.mono ?_
            rintro e w10 ⟨rfl, Y10, b10⟩
            have X10 := hide (b10.rd (dis_nul dxy.out.symm) X9.out).1
            have W10 := hide (b10.wr (dis_nul dy.out.symm) W9.out).1
            have B10 := hide (B9.out.trans b10.bel)
            replace Y10 := hide Y10
            clear PY' b10
            go_wp2_with fail
            go_roundw
            case rel => exact ⟨i + 1, k2, by go_num, X10, Y10, W10, B10⟩
            case measure => simp [intOf]; omega
          · have j1 : ¬ (i : Int) < (P : Int) := by omega
            go_wp2_with fail
            refine LE.out.mono ?_
            rintro e wq ⟨rfl, hwq⟩
            rw [hwq]
            clear hwq
            go_wp2_with fail
            go_ret
            exact ⟨rfl, B.out⟩
    · have j1 : ¬ (i : Int) < 100 := by omega
      have hWx := hide E.out.wr
      have hBx := hide E.out.bel
      clear E
      have HX := hide (HB.out.kept hBx.out (Nat.le_refl _))
      have NX := hide (newRd wr w.heap.size hBx.out.size a0 nb cap0 lb HX.out (by omega))
      have hWE := hWx
      have bWE := hBx
      clear hWx hBx
      go_wp2_with fail
      refine NX.out.mono ?_
      rintro e w5 ⟨qx, vx, rfl, b5, RX, hnx⟩
      have W5 := hide (hWE.out.below b5 (Nat.le_refl _))
      have B5 := hide (bWE.out.trans (b5.mono bWE.out.size))
      have dx := hide (hWE.out.dis hnx)
      obtain ⟨lw, Hw⟩ := W5.out.holds
      replace Hw := hide Hw
      have BY := hide (bytesWr W5.out (by omega) lw Hw.out)
      replace RX := hide RX
      clear NX HX hWE bWE b5 hnx
      go_wp2_with fail
      refine BY.out.mono ?_
      rintro e w6 ⟨a6, n6, c6, rfl, H6, b6, -⟩
      have W6 := hide (W5.out.below b6 (Nat.le_refl _))
      have B6 := hide (B5.out.trans (b6.mono B5.out.size))
      have RX6 := hide (RX.out.below b6 (Nat.le_refl _))
      have hn6 : n6 ≤ 1000 := by have h1 := H6.hlen; have h2 := Hw.out.hi; omega
      have NY := hide (newRd w6 w.heap.size B6.out.size a6 n6 c6 lw H6 (by omega))
      clear BY H6 b6 W5 B5 RX hn6
      go_wp2_with fail
      refine NY.out.mono ?_
      rintro e w7 ⟨qy, vy, rfl, b7, RY, hny⟩
      have W7 := hide (W6.out.below b7 (Nat.le_refl _))
      have B7 := hide (B6.out.trans (b7.mono B6.out.size))
      have RX7 := hide (RX6.out.below b7 (Nat.le_refl _))
      have dy := hide (W6.out.dis hny)
      have dxy := hide (RX6.out.dis hny)
      replace RY := hide RY
      clear NY W6 B6 RX6 b7 hny
      go_wp2_with fail
      go_loopw [15] (fun iv w8 => ∃ i : Nat, i ≤ P ∧ iv = .int .i64 (i : Int) ∧ Hid (Rd w8 w.heap.size qx vx lb i) ∧ Hid (Rd w8 w.heap.size qy vy lw i) ∧ Hid (Wr w8 w.heap.size p v A P) ∧ Hid (Below w.heap.size w w8)) (fun iv _ => P - (intOf iv).toNat)
      case atStart => exact ⟨0, Nat.zero_le _, rfl, RX7, RY, W7, B7⟩
      case round =>
        clear RX7 RY W7 B7
        obtain ⟨i, hi, rfl, X, Y, W, B⟩ := hrel
        have LE := hide (lenWr W.out)
        have k1 : (P : Int) ≤ 1200 := by omega
        by_cases hlt : i < P
        · have j1 : (i : Int) < (P : Int) := by omega
          have hsame := bits_same hA.out hP8 hlt Hw.out
          have hPlo := Hw.out.lo
          obtain ⟨x, hx⟩ : ∃ x, rd (num lb) nb i 1 = x := ⟨_, rfl⟩
          rw [hx] at hsame
          have hx' : rd (num lb) lb.length i 1 = x := by rw [hlb.out]; exact hx
          have PX := hide (getG X.out 1 (ni := 1) (xi := (x : Int)) rfl hx' rfl (by decide) (by rw [hlb.out]; omega))
          have PY := hide (fun (wx : World) (h : Rd wx w.heap.size qy vy lw i) => getG h 1 (ni := 1) (xi := (x : Int)) rfl hsame rfl (by decide) (by omega))
          replace hx := hide hx
          replace hx' := hide hx'
          replace hsame := hide hsame
          replace hPlo := hide hPlo
          have k2 : i + 1 ≤ P := by omega
          go_wp2_with fail
          refine LE.out.mono ?_
          rintro e wq ⟨rfl, hwq⟩
          rw [hwq]
          clear hwq
          go_wp2_with fail
          refine PX.out.mono ?_
          rintro e w9 ⟨rfl, X9, b9⟩
          have Y9 := hide (b9.rd (dis_nul dxy.out) Y.out).1
          have W9 := hide (b9.wr (dis_nul dx.out.symm) W.out).1
          have B9 := hide (B.out.trans b9.bel)
          replace X9 := hide X9
          have PY' := hide (PY.out _ Y9.out)
          clear PX PY b9 LE
          go_wp2_with fail
          refine PY'.out.mono ?_
          rintro e w10 ⟨rfl, Y10, b10⟩
          have X10 := hide (b10.rd (dis_nul dxy.out.symm) X9.out).1
          have W10 := hide (b10.wr (dis_nul dy.out.symm) W9.out).1
          have B10 := hide (B9.out.trans b10.bel)
          replace Y10 := hide Y10
          clear PY' b10
          go_wp2_with fail
          go_roundw
          case rel => exact ⟨i + 1, k2, by go_num, X10, Y10, W10, B10⟩
          case measure => simp [intOf]; omega
        · have j1 : ¬ (i : Int) < (P : Int) := by omega
          go_wp2_with fail
          refine LE.out.mono ?_
          rintro e wq ⟨rfl, hwq⟩
          rw [hwq]
          clear hwq
          go_wp2_with fail
          go_ret
          exact ⟨rfl, B.out⟩

theorem once_walk (a0 : Option Addr) (len0 cap0 : Nat) (l0 : List Int) (w : World) (ht : Tab w) (H : Has w a0 len0 cap0 l0) :
    Calls Tryd.prog 6 #[.slice a0 len0 cap0] w fun e w' => e = .returned (.bool true) ∧ Below w.heap.size w w' :=
  once_walk0 a0 len0 cap0 (min len0 150) (l0.take (min len0 150)) w ht (H.front _ (by omega)) (by omega) H.le H.capb (by split <;> omega)
end Go.Proofs.YtmddkinecplooaaDoor
