/-
  DiskEither: the walk.
-/
import Derived.Test.YtgbijkdfhkkieaaEA
namespace Go.Proofs.Ytgbijkdfhkkieaa.diskEither
open Go.RowKit Go.Maps
set_option linter.unusedVariables false
set_option linter.unusedSimpArgs false

theorem own_lt {w : World} {a : Option Addr} {n c : Nat} {l : List Int} (h : Has w a n c l) (hp : 0 < n) {k : Nat} (hk : (Value.slice a n c).ownBlock = some k) : k < w.heap.size := by
  obtain ⟨b, off, e1, e2, _⟩ := h.cells hp
  rw [e1] at hk
  have : b = k := by simpa [Value.ownBlock] using hk
  omega
set_option maxHeartbeats 16000000 in
set_option maxRecDepth 100000 in
theorem walk (a0 : Option Addr) (len0 cap0 : Nat) (l0 : List Int) (a1 : Option Addr) (len1 cap1 : Nat) (l1 : List Int) (x2 : Int) (a3 : Option Addr) (len3 cap3 : Nat) (l3 : List Int) (w : World)
    (h0 : Has w a0 len0 cap0 l0) (h1 : Has w a1 len1 cap1 l1) (hx : (Lit.int .i64 x2).wf = true) (h3 : Hi w a3 len3 cap3 l3) :
    Calls Try.prog 4 #[.slice a0 len0 cap0, .slice a1 len1 cap1, .int .i64 x2, .slice a3 len3 cap3] w fun e w' => e = .returned (.bool true) ∧ Below w.heap.size w w' := by
  obtain ⟨ma, hma⟩ : ∃ ma, min len0 1500 = ma := ⟨_, rfl⟩
  obtain ⟨mb, hmb⟩ : ∃ mb, min len1 1500 = mb := ⟨_, rfl⟩
  have p1 : (if (len0 : Int) < 1500 then (len0 : Int) else 1500) = (ma : Int) := by rw [← hma]; split <;> omega
  have p2 : (if (1500 : Int) < (len0 : Int) then 1500 else (len0 : Int)) = (ma : Int) := by rw [← hma]; split <;> omega
  have p3 : min (len0 : Int) 1500 = (ma : Int) := by rw [← hma]; omega
  have q1 : (if (len1 : Int) < 1500 then (len1 : Int) else 1500) = (mb : Int) := by rw [← hmb]; split <;> omega
  have q2 : (if (1500 : Int) < (len1 : Int) then 1500 else (len1 : Int)) = (mb : Int) := by rw [← hmb]; split <;> omega
  have q3 : min (len1 : Int) 1500 = (mb : Int) := by rw [← hmb]; omega
  have hma1 : ma ≤ len0 := by omega
  have hmb1 : mb ≤ len1 := by omega
  have hma2 : ma ≤ 1500 := by omega
  have hmb2 : mb ≤ 1500 := by omega
  have ra := fun w => run_h w a0 len0 cap0 ma (Nat.le_trans hma1 h0.le)
  have rb := fun w => run_h w a1 len1 cap1 mb (Nat.le_trans hmb1 h1.le)
  have HA := hide (h0.front ma hma1)
  have HB := hide (h1.front mb hmb1)
  obtain ⟨A, hA⟩ : ∃ A, l0.take ma = A := ⟨_, rfl⟩
  obtain ⟨B, hB⟩ : ∃ B, l1.take mb = B := ⟨_, rfl⟩
  rw [hA] at HA
  rw [hB] at HB
  have hAl : A.length = ma := HA.out.hlen
  have hBl : B.length = mb := HB.out.hlen
  obtain ⟨mp, hmp⟩ : ∃ mp, min len3 40 = mp := ⟨_, rfl⟩
  have s1 : (if (len3 : Int) < 40 then (len3 : Int) else 40) = (mp : Int) := by rw [← hmp]; split <;> omega
  have s2 : (if (40 : Int) < (len3 : Int) then 40 else (len3 : Int)) = (mp : Int) := by rw [← hmp]; split <;> omega
  have s3 : min (len3 : Int) 40 = (mp : Int) := by rw [← hmp]; omega
  have hmp1 : mp ≤ len3 := by omega
  have rp := fun w => run_h24 w a3 len3 cap3 mp (Nat.le_trans hmp1 h3.le)
  have HP := hide (h3.front mp hmp1)
  obtain ⟨ps, hps⟩ : ∃ ps, l3.take mp = ps := ⟨_, rfl⟩
  rw [hps] at HP
  have hx2 : -9223372036854775808 ≤ x2 ∧ x2 ≤ 9223372036854775807 := by
    simp [Lit.wf, IntKind.min, IntKind.max, IntKind.signed, IntKind.bits] at hx; omega
  have hmp2 : mp ≤ 40 := by omega
  clear h0 h1 h3 hA hB hps hx
  replace hma := hide hma
  replace hmb := hide hmb
  replace hmp := hide hmp
  replace hAl := hide hAl
  replace hBl := hide hBl
  replace ra := hide ra
  replace rb := hide rb
  replace p1 := hide p1; replace p2 := hide p2; replace p3 := hide p3; replace q1 := hide q1; replace q2 := hide q2; replace q3 := hide q3
  go_enter Try.func4, Try.ntmps4
  go_wp2_with fail
  refine (works_any w).mono ?_
  rintro e w1 ⟨rfl, B1⟩
  replace B1 := hide B1
  go_wp2_with fail
  refine (make_any w1 99 (by decide)).mono ?_
  rintro e w2 ⟨d, T1, rfl, hD1, B2, hT1⟩
  have R1 : Hid (Run w w2 d (m0 99) T1) := ⟨hD1, B1.out.trans (B2.mono B1.out.size), fun x hx => Nat.le_trans B1.out.size (hT1 x hx)⟩
  clear hD1 B2 hT1 B1
  go_wp2_with fail
  refine reg4_6 w2 a0 a1 len0 len1 cap0 cap1 ma mb p1.out p2.out p3.out q1.out q2.out q3.out ra.out rb.out _ _ _ _ _ _ _ _ _ _ _ _ _ _ _ _ _ _ _ _ _ _ _ _ _ _ _ _ _ _ _ _ _ _ _ _ _ _ _ _ _ _ _ _ _ _ _ _ _ _ _ _ _ _ _ _ _ _ _ _ _ _ _ _ _ _ _ _ _ _ _ _ _ _ _ _ _ _ _ _ _ _ _ _ _ _ _ _ _ _ _ _ _ _ _ _ _ _ _ _ _ _ _ _ _ _ _ _ _ _ _ _ _ _ _ _ _ _ _ _ _ _ _ _ _ _ _ _ _ _ _ _ _ _ _ _ _ _ ?_
  have R1d : Hid (Run w w2.drew d (m0 99) T1) := ⟨by obtain ⟨_, _, _, hd⟩ := R1.out.1; exact ⟨_, _, _, hd.drew⟩, R1.out.2.1.drew, R1.out.2.2⟩
  obtain ⟨w3, hw3⟩ : ∃ w3, w2.drew = w3 := ⟨_, rfl⟩
  rw [hw3] at R1d
  rw [hw3]
  clear R1 hw3 p1 p2 p3 q1 q2 q3 ra rb
  go_wp2_with fail
  refine (create_any R1d.out.1 (by exact ⟨by decide, by decide, by decide, by decide, fun g hg => by cases hg⟩) ⟨#[102]⟩).mono ?_
  rintro e w4 ⟨r4, m4, T4, rfl, hD4, u4, hC4⟩
  obtain ⟨g, hr4, _, O4⟩ := One.cr name_f hC4
  have R4 := hide (R1d.out.up hD4 u4)
  subst hr4
  replace O4 := hide O4
  clear hD4 u4 hC4 R1d
  have HA4 := hide (HA.out.kept R4.out.2.1 (Nat.le_refl _))
  have nT : ∀ (w' : World) (m' : M) (T' : Nat → Prop), Run w w' d m' T' → ∀ (a : Option Addr) (n c : Nat) (l : List Int), Has w a n c l → 0 < n → ∀ k, (Value.slice a n c).ownBlock = some k → ¬ T' k := fun _ _ _ hR _ _ _ _ hH hp k hk e => by
    have := own_lt hH hp hk
    have := hR.2.2 k e
    omega
  replace nT := hide nT
  go_wp2_with fail
  refine (append_any R4.out.1 O4.out.sm ⟨#[102]⟩ HA4.out (by omega) (nT.out _ _ _ R4.out _ _ _ _ HA.out)).mono ?_
  rintro e w5 ⟨r5, m5, T5, rfl, hD5, u5, hP5⟩
  obtain ⟨hr5, O5⟩ := O4.out.app name_f hP5 (by simp [hAl.out]; omega) (by simp [hAl.out, sec]; omega) (by decide)
  rw [List.nil_append] at O5
  have R5 := hide (R4.out.up hD5 u5)
  subst hr5
  replace O5 := hide O5
  clear hD5 u5 hP5 R4 O4 HA4
  go_wp2_with fail
  refine (sync_any R5.out.1 O5.out.sm ⟨#[102]⟩).mono ?_
  rintro e w6 ⟨r6, m6, T6, rfl, hD6, u6, hP6⟩
  obtain ⟨hr6, O6⟩ := O5.out.syn name_f hP6 (by decide)
  have R6 := hide (R5.out.up hD6 u6)
  subst hr6
  replace O6 := hide O6
  clear hD6 u6 hP6 R5 O5
  go_wp2_with fail
  refine (syncDir_any R6.out.1 O6.out.sm).mono ?_
  rintro e w7 ⟨r7, m7, T7, rfl, hD7, u7, hP7⟩
  obtain ⟨hr7, O7⟩ := O6.out.sdr hP7 (by decide)
  have R7 := hide (R6.out.up hD7 u7)
  subst hr7
  replace O7 := hide O7
  clear hD7 u7 hP7 R6 O6
  have v1 : (ma : Int) + 1 = ((ma + 1 : Nat) : Int) := by omega
  obtain ⟨m1, hm1⟩ : ∃ m1, ma + 1 = m1 := ⟨_, rfl⟩
  rw [hm1] at v1
  have AM := hide (among_any x2 m1 hx2 (by omega) (by omega) w7)
  obtain ⟨pp, hpp⟩ : ∃ pp, amg x2 m1 = pp := ⟨_, rfl⟩
  have hpl : pp ≤ ma := by have := amg_lt x2 m1 (by omega); omega
  rw [hpp] at AM
  replace hm1 := hide hm1
  replace hpp := hide hpp
  go_wp2_with fail
  refine AM.out.mono ?_
  rintro e w' ⟨rfl, hw⟩; replace hw := hw.symm; subst hw
  have HB7 := hide (HB.out.kept R7.out.2.1 (Nat.le_refl _))
  clear AM
  go_wp2_with fail
  refine (write_any R7.out.1 O7.out.sm ⟨#[102]⟩ (pp : Int) HB7.out (by omega) (nT.out _ _ _ R7.out _ _ _ _ HB.out)).mono ?_
  rintro e w8 ⟨r8, m8, T8, rfl, hD8, u8, hP8⟩
  have hwl : (wr A pp B).length = max ma (pp + mb) := by rw [wr_length B (by rw [hAl.out]; exact hpl), hAl.out, hBl.out]
  obtain ⟨hr8, O8⟩ : r8 = 0 ∧ One m8 99 ⟨#[102]⟩ g (wr A pp B) A true 5 := by
    have hP := O7.out.fs name_f hP8
    have hpA : pp ≤ A.length := by rw [hAl.out]; exact hpl
    have e7 : ((pw m7).ct g).1.length = A.length := by rw [O7.out.pw, O7.out.ct]
    rcases hP with ⟨hno, _⟩ | ⟨p', hp', _, hPt⟩
    · exact (hno ⟨by omega, by rw [e7]; omega⟩).elim
    · have : p' = pp := by omega
      subst this
      exact O7.out.put hpA hPt (by rw [hwl]; omega) (by rw [hwl]; unfold sec; omega) (by decide)
  have R8 := hide (R7.out.up hD8 u8)
  subst hr8
  obtain ⟨Nw, hNw⟩ : ∃ Nw, wr A pp B = Nw := ⟨_, rfl⟩
  rw [hNw] at O8 hwl
  replace O8 := hide O8
  clear hD8 u8 hP8 R7 O7 HB7 hNw
  go_wp2_with fail
  refine (read_any R8.out.1 O8.out.sm ⟨#[102]⟩).mono ?_
  rintro e w9 hR9
  obtain ⟨B9, an, ln, cn, rfl, H9, j9⟩ := O8.out.rd name_f hR9
  have R9 := hide (R8.out.below B9)
  have k9 : Hid (∀ k, (Value.slice an ln cn).ownBlock = some k → ¬ T8 k) := fun k hk => R8.out.new (j9 k hk)
  have hln : Nw.length = ln := H9.hlen
  replace H9 := hide H9
  clear hR9 B9 j9 R8
  have HP9 := hide (HP.out.kept R9.out.2.1 (Nat.le_refl _))
  go_wp2_with fail
  refine (ints_any w9 a3 mp cap3 ps HP9.out (by omega)).mono ?_
  rintro e wA ⟨aq, nq, cq, rfl, HQ, BA, jq⟩
  have RA := hide (R9.out.below BA)
  have H9A := hide (H9.out.kept BA (Nat.le_refl _))
  have nqT : Hid (∀ k, (Value.slice aq nq cq).ownBlock = some k → ¬ T8 k) := fun k hk => R9.out.new (jq k hk)
  replace HQ := hide HQ
  clear BA jq H9 HP9 R9
  go_wp2_with fail
  refine (crash_disk RA.out.1 O8.out.sm O8.out.gd HQ.out (fun _ => nqT.out)).mono ?_
  rintro e wB ⟨rB, mB, TB, rfl, hDB, uB, hrB, hmB⟩
  have OB := O8.out.crs ps
  rw [← hmB] at OB
  have hcl := crF_length Nw A ps
  have hcs := crSz_le Nw A ps
  have hce := crF_either Nw A ps
  obtain ⟨O, hO⟩ : ∃ O, (crF Nw A ps).1 = O := ⟨_, rfl⟩
  rw [hO] at OB hcl hce
  have RB := hide (RA.out.up hDB uB)
  have H9B := hide (H9A.out.but2 uB.but (fun _ => k9.out))
  subst hrB
  replace OB := hide OB
  replace hce := hide hce
  clear hDB uB hmB RA HQ nqT O8 H9A k9 hO
  go_wp2_with fail
  refine (read_any RB.out.1 OB.out.sm ⟨#[102]⟩).mono ?_
  rintro e wC hRC
  obtain ⟨BC, ax, lx, cx, rfl, HX, jx⟩ := OB.out.rd name_f hRC
  have RC := hide (RB.out.below BC)
  have HN := hide (H9B.out.kept BC (Nat.le_refl _))
  have HAC := hide (HA.out.kept RC.out.2.1 (Nat.le_refl _))
  have hlx : O.length = lx := HX.hlen
  replace HX := hide HX
  clear hRC BC jx RB OB H9B
  have g1 : ma ≤ ln := by omega
  have g2 : ma ≤ lx := by rw [hAl.out] at hcs; omega
  have g3 : lx ≤ ln := by rw [hAl.out] at hcs; omega
  have g4 : ln ≤ 3000 := by omega
  have z1 : (if (ma : Int) < (ln : Int) then (ma : Int) else (ln : Int)) = (ma : Int) := by split <;> omega
  have z2 : (if (ln : Int) < (ma : Int) then (ln : Int) else (ma : Int)) = (ma : Int) := by split <;> omega
  have z3 : min (ma : Int) (ln : Int) = (ma : Int) := by omega
  have z4 : (if (ma : Int) < (ln : Int) then (ln : Int) else (ma : Int)) = (ln : Int) := by split <;> omega
  have z5 : (if (ln : Int) < (ma : Int) then (ma : Int) else (ln : Int)) = (ln : Int) := by split <;> omega
  have z6 : max (ma : Int) (ln : Int) = (ln : Int) := by omega
  have z7 : ¬ ((lx : Int) < (ma : Int)) := by omega
  have z8 : ¬ ((ln : Int) < (lx : Int)) := by omega
  replace hwl := hide hwl
  replace hcl := hide hcl
  replace hcs := hide hcs
  replace hlx := hide hlx
  replace hln := hide hln
  clear v1
  go_wp2_with fail
  clear z1 z2 z3 z4 z5 z6 z7 z8 s1 s2 s3 rp
  generalize decide (lx < ma) = t1
  generalize decide (ln < lx) = t2
  generalize (t1 || t2) = t3
  go_loopw [17] (fun i wr => ∃ k : Nat, k ≤ lx ∧ i = .int .i64 k ∧ Hid (Has wr ax lx cx O ∧ Has wr an ln cn Nw ∧ Has wr a0 ma cap0 A ∧ Below w.heap.size w wr)) (fun i _ => lx - (RowKit.intOf i).toNat)
  case atStart => exact ⟨0, Nat.zero_le _, rfl, ⟨HX.out, HN.out, HAC.out, RC.out.2.1⟩⟩
  case round =>
    obtain ⟨k, hk, rfl, hH⟩ := hrel
    by_cases hlt : k < lx
    · have i1 : (k : Int) < (lx : Int) := by omega
      obtain ⟨bx, ox, ex, _, cx1⟩ := hH.out.1.cells (by omega)
      have c1 := cx1 k hlt
      clear cx1
      subst ex
      have hei := hce.out k (by rw [hlx.out]; exact hlt)
      obtain ⟨xv, hxv⟩ : ∃ xv, O.getD k 0 = xv := ⟨_, rfl⟩
      rw [hxv] at c1 hei
      obtain ⟨sv, hsv⟩ : ∃ sv, A.getD k 0 = sv := ⟨_, rfl⟩
      rw [hsv] at hei
      have hnext : Hid (∀ wr' : World, wr' = wr.drew → (Has wr' (some ⟨bx, ox, none⟩) lx cx O ∧ Has wr' an ln cn Nw ∧ Has wr' a0 ma cap0 A ∧ Below w.heap.size w wr')) := fun wr' e => by
        subst e
        have bb : Below wr.heap.size wr wr.drew := (Below.refl _ _).drew
        exact ⟨hH.out.1.kept bb (Nat.le_refl _), hH.out.2.1.kept bb (Nat.le_refl _), hH.out.2.2.1.kept bb (Nat.le_refl _), hH.out.2.2.2.drew⟩
      by_cases hka : k < ma
      · have i2 : (k : Int) < (ma : Int) := by omega
        obtain ⟨ba, oa, ea, _, ca1⟩ := hH.out.2.2.1.cells (by omega)
        have c2 := ca1 k hka
        clear ca1
        rw [hsv] at c2
        replace hsv := hide hsv
        replace hxv := hide hxv
        subst ea
        by_cases hxs : xv = sv
        · subst hxs
          go_wp2_with fail
          refine reg4_23a wr an bx ox lx cx ln cn k xv hlt (by omega) c1 _ _ _ _ _ _ _ _ _ _ _ _ _ _ _ _ _ _ _ _ _ _ _ _ _ _ _ _ _ _ _ _ _ _ _ _ _ _ _ _ _ _ _ _ _ _ _ _ _ _ _ _ _ _ _ _ _ _ _ _ _ _ _ _ _ _ _ _ _ _ _ _ _ _ _ _ _ _ _ _ _ _ _ _ _ _ _ _ _ _ _ _ _ _ _ _ _ _ _ _ _ _ _ _ _ _ _ _ _ _ _ _ _ _ _ _ _ _ _ _ _ _ _ _ _ _ _ _ _ _ _ _ _ _ _ _ ?_
          go_wp2_with fail
          go_roundw
          case rel => exact ⟨k + 1, by omega, by go_num, hnext.out _ rfl⟩
          case measure => simp [RowKit.intOf]; omega
        · have hnv : xv = Nw.getD k 0 := hei.resolve_left hxs
          obtain ⟨bn, on, en, _, cn1⟩ := hH.out.2.1.cells (by omega)
          have c3 := cn1 k (by omega)
          rw [← hnv] at c3
          subst en
          replace hei := hide hei
          replace hnv := hide hnv
          go_wp2_with fail
          refine reg4_23b wr bx ox lx cx bn on ln cn k sv xv hlt (by omega) (by omega) (by omega) hxs c1 c3 _ _ _ _ _ _ _ _ _ _ _ _ _ _ _ _ _ _ _ _ _ _ _ _ _ _ _ _ _ _ _ _ _ _ _ _ _ _ _ _ _ _ _ _ _ _ _ _ _ _ _ _ _ _ _ _ _ _ _ _ _ _ _ _ _ _ _ _ _ _ _ _ _ _ _ _ _ _ _ _ _ _ _ _ _ _ _ _ _ _ _ _ _ _ _ _ _ _ _ _ _ _ _ _ _ _ _ _ _ _ _ _ _ _ _ _ _ _ _ _ _ _ _ _ _ _ _ _ _ _ _ _ _ _ _ _ ?_
          go_wp2_with fail
          go_roundw
          case rel => exact ⟨k + 1, by omega, by go_num, hnext.out _ rfl⟩
          case measure => simp [RowKit.intOf]; omega
      · have i2 : ¬ ((k : Int) < (ma : Int)) := by omega
        have hs0 : sv = 0 := by
          rw [← hsv, List.getD_eq_getElem?_getD, List.getElem?_eq_none (by rw [hAl.out]; omega)]
          rfl
        subst hs0
        by_cases hxs : xv = 0
        · subst hxs
          go_wp2_with fail
          refine reg4_23a wr an bx ox lx cx ln cn k 0 hlt (by omega) c1 _ _ _ _ _ _ _ _ _ _ _ _ _ _ _ _ _ _ _ _ _ _ _ _ _ _ _ _ _ _ _ _ _ _ _ _ _ _ _ _ _ _ _ _ _ _ _ _ _ _ _ _ _ _ _ _ _ _ _ _ _ _ _ _ _ _ _ _ _ _ _ _ _ _ _ _ _ _ _ _ _ _ _ _ _ _ _ _ _ _ _ _ _ _ _ _ _ _ _ _ _ _ _ _ _ _ _ _ _ _ _ _ _ _ _ _ _ _ _ _ _ _ _ _ _ _ _ _ _ _ _ _ _ _ _ _ ?_
          go_wp2_with fail
          go_roundw
          case rel => exact ⟨k + 1, by omega, by go_num, hnext.out _ rfl⟩
          case measure => simp [RowKit.intOf]; omega
        · have hnv : xv = Nw.getD k 0 := hei.resolve_left hxs
          obtain ⟨bn, on, en, _, cn1⟩ := hH.out.2.1.cells (by omega)
          have c3 := cn1 k (by omega)
          rw [← hnv] at c3
          subst en
          replace hei := hide hei
          replace hnv := hide hnv
          go_wp2_with fail
          refine reg4_23b wr bx ox lx cx bn on ln cn k 0 xv hlt (by omega) (by omega) (by omega) hxs c1 c3 _ _ _ _ _ _ _ _ _ _ _ _ _ _ _ _ _ _ _ _ _ _ _ _ _ _ _ _ _ _ _ _ _ _ _ _ _ _ _ _ _ _ _ _ _ _ _ _ _ _ _ _ _ _ _ _ _ _ _ _ _ _ _ _ _ _ _ _ _ _ _ _ _ _ _ _ _ _ _ _ _ _ _ _ _ _ _ _ _ _ _ _ _ _ _ _ _ _ _ _ _ _ _ _ _ _ _ _ _ _ _ _ _ _ _ _ _ _ _ _ _ _ _ _ _ _ _ _ _ _ _ _ _ _ _ _ ?_
          go_wp2_with fail
          go_roundw
          case rel => exact ⟨k + 1, by omega, by go_num, hnext.out _ rfl⟩
          case measure => simp [RowKit.intOf]; omega
    · have i1 : ¬ ((k : Int) < (lx : Int)) := by omega
      go_wp2_with fail
      go_ret
      exact ⟨rfl, hH.out.2.2.2⟩
end Go.Proofs.Ytgbijkdfhkkieaa.diskEither
