/-
  The walk of ChunkPuts.
-/
import Derived.Test.YtmjjedbdedemcaaGreatDoorPD
namespace Go.Proofs.YtmjjedbdedemcaaGreatDoor
open Go.RowKit
set_option linter.unusedVariables false
set_option linter.unusedSimpArgs false

set_option maxHeartbeats 8000000 in
set_option maxRecDepth 100000 in
theorem puts_walk (a0 : Option Addr) (len0 cap0 : Nat) (L0 : List Smp) (w : World) (hT : Tabs w) (H0 : HasS w a0 len0 cap0 L0) :
    Calls Tryz.prog 3 #[.slice a0 len0 cap0] w fun e w' => e = .returned (.bool true) ∧ Below w.heap.size w w' := by
  have hcap0 := H0.capb
  unfold maxLen at hcap0
  have FW := hide (few_any w a0 len0 cap0 L0 H0 (by omega))
  have hl0 := H0.hlen
  have hL2 : (L0.take (min len0 300)).length ≤ 300 := by simp; omega
  have hv : Hid (∀ s ∈ L0.take (min len0 300), s.2 < 18446744073709551616) := fun s hs => H0.vb s (List.mem_of_mem_take hs)
  generalize L0.take (min len0 300) = L at *
  obtain ⟨n, hn⟩ : ∃ n, L.length = n := ⟨_, rfl⟩
  obtain ⟨er, P, hP, PC, PR⟩ := puts_both n L hn hv.out
  rw [hn] at hL2
  replace hP := hide hP
  replace PC := hide PC
  replace PR := hide PR
  replace hT := hide hT
  replace hn := hide hn
  clear H0 hl0
  go_enter Tryz.func3, Tryz.ntmps3
  go_wp2_with fail
  refine FW.out.mono ?_
  rintro e w1 ⟨a1, c1, rfl, H1, b1, -⟩
  rw [hn.out] at H1 ⊢
  have hc1 := H1.capb
  unfold maxLen at hc1
  have FW2 := few_any w1 a1 n c1 L H1 (by omega)
  rw [show min n 300 = n by omega, List.take_of_length_le (by rw [hn.out]; exact Nat.le_refl _)] at FW2
  replace FW2 := hide FW2
  replace b1 := hide b1
  replace H1 := hide H1
  clear FW
  go_wp2_with fail
  refine FW2.out.mono ?_
  rintro e w2 ⟨a2, c2, rfl, H2, b12, -⟩
  rw [hn.out] at H2 ⊢
  have b2 := hide (b1.out.trans (b12.mono b1.out.size))
  have H12 := hide (H1.out.kept b12 (Nat.le_refl _))
  have PU := hide (PC.out w2 a2 c2 H2 (hT.out.below b2.out))
  clear FW2 b12 H1 PC H2 b1
  go_wp2_with fail
  refine PU.out.mono ?_
  rintro e w3 ⟨bx, ax, nx, cx, hPx, rfl, Hx, b23⟩
  have b3 := hide (b2.out.trans (b23.mono b2.out.size))
  have H13 := hide (H12.out.kept b23 (Nat.le_refl _))
  have RP := hide (PR.out w3 a1 c1 H13.out)
  replace Hx := hide Hx
  replace hPx := hide hPx
  clear PU b23 H12 PR b2
  go_wp2_with fail
  refine RP.out.mono ?_
  rintro e w4 ⟨by_, ay, ny, cy, hPy, rfl, Hy, b34⟩
  have b4 := hide (b3.out.trans (b34.mono b3.out.size))
  have H14 := hide (H13.out.kept b34 (Nat.le_refl _))
  have SB := same_any w4 ax ay nx ny cx cy bx by_ (Hx.out.kept b34 (Nat.le_refl _)) Hy
  rw [decide_eq_true (hP.out bx by_ hPx.out hPy)] at SB
  replace SB := hide SB
  clear RP b34 H13 b3 Hy Hx hPx hPy hP
  go_wp2_with fail
  refine SB.out.mono ?_
  rintro e w6 ⟨rfl, rfl⟩
  clear SB
  have NW := hide (new_any w6 w6.heap.size (Nat.le_refl _))
  have hT6 := hide (hT.out.below b4.out)
  have hb6 : 2 < w6.heap.size := hT6.out.pos
  go_wp2_with fail
  refine NW.out.mono ?_
  rintro e w7 ⟨q, p, rfl, b7, B7, hq, -⟩
  have I0 : Hid (PI w6 q p [] (some ⟨w7.heap.size, 0, none⟩) 0 0 (.slice none 0 0) (w7.alloc (.cells #[] 33))) := (⟨B7.below ((Below.refl _ w7).alloc (Nat.le_refl _) _), trivial, rfl, by omega, ownsS_nil w7 w6.heap.size b7.size, b7.alloc b7.size _⟩ : PI w6 q p [] _ 0 0 _ _)
  clear NW b7 B7 hq
  go_wp2_with fail
  go_loopw [8, 9, 10, 11] (fun ov iv _ _ wr => ∃ (i m : Nat) (acc : List Sm) (ai : Option Addr) (ci : Nat) (v : Value), i ≤ n ∧ m ≤ i ∧ ov = .slice ai m ci ∧ iv = .int .i64 (i : Int) ∧ Hid (PI w6 q p acc ai m ci v wr)) (fun _ iv _ _ _ => n - (intOf iv).toNat)
  case atStart => exact ⟨0, 0, [], _, _, _, Nat.zero_le _, Nat.zero_le _, rfl, rfl, I0⟩
  case round =>
    obtain ⟨i, m, acc, ai, ci, v, hin, hmi, rfl, rfl, hI⟩ := hrel
    clear I0
    by_cases hil : i < n
    · have j1 : (i : Int) < (n : Int) := by omega
      obtain ⟨bL, oL, rfl, hbL, hcs⟩ := H14.out.cells (by omega)
      obtain ⟨c0, c1⟩ := hcs i hil
      have hx64 := vb_getD hv.out i
      generalize L.getD i noSmp = s at *
      obtain ⟨t, x⟩ := s
      simp only at c0 c1 hx64
      have e0 := (hI.out.bel.cell (p := ⟨bL, oL + i * 2, none⟩) hbL).trans c0
      have e1 := (hI.out.bel.cell (p := ⟨bL, oL + i * 2 + 1, none⟩) hbL).trans c1
      have hmn := hI.out.n
      have hml := hI.out.le
      have hTr := hide (hT6.out.kept hI.out.bel hb6)
      clear hcs
      by_cases hm : m < 120
      · have j2 : (m : Int) < 120 := by omega
        have hal := hI.out.len
        have hN := eN_le acc z0 ok_z0 hI.out.ok (by simp [z0]; omega)
        cases hok : okTI (m : Int) ((fin z0 acc).L : Int) t with
        | false =>
          have AF := hide (add_no (t := t) (x := x) hI.out.bd hTr.out hb6 (by rw [hmn]; exact hok) (by omega) (by omega))
          have AN : ∀ w2, (∃ v', Bd w2 w6.heap.size q p v' (fin z0 acc) (eX z0 acc) (eN z0 acc) ∧ DidB wr w2 w6.heap.size q p v v') → ∃ v2, PI w6 q p acc ai m ci v2 w2 := fun w2 ⟨v', hB, d⟩ => ⟨v', hI.out.no hB d⟩
          replace AN := hide AN
          unfold okTI isTim at hok
          by_cases k1 : t < 0
          · replace hI := hide hI
            clear hmn hok hN hal c0 c1 hTr
            go_wp2_with fail
            refine AF.out.mono ?_
            rintro e w2 ⟨rfl, PP⟩
            obtain ⟨v2, I2⟩ := AN.out w2 PP
            have LN := hide (len_any I2.bd)
            rw [I2.n] at LN
            replace I2 := hide I2
            clear AN AF PP
            go_wp2_with fail
            refine LN.out.mono ?_
            rintro e wx ⟨rfl, rfl⟩
            clear LN
            go_wp2_with fail
            go_roundw
            case rel => exact ⟨i + 1, m, acc, ai, ci, v2, by omega, by omega, rfl, by go_num, I2⟩
            case measure => simp [intOf]; omega
          · by_cases k2 : t ≤ 35184372088832
            · have k0 : 0 ≤ t := by omega
              have hm0 : 0 < m ∧ t ≤ ((fin z0 acc).L : Int) := by
                rw [decide_eq_true (show 0 ≤ t ∧ t ≤ 35184372088832 from ⟨k0, k2⟩), Bool.true_and, Bool.or_eq_false_iff, decide_eq_false_iff_not, decide_eq_false_iff_not] at hok
                omega
              obtain ⟨hm0, hlt⟩ := hm0
              obtain ⟨bI, oI, rfl, cl⟩ := hI.out.last hm0
              obtain ⟨m1, hm1⟩ : ∃ m1, m - 1 = m1 := ⟨_, rfl⟩
              rw [hm1] at cl
              have hm1' : (m : Int) - 1 = (m1 : Int) := by omega
              have hm2 : (m1 : Int) < (m : Int) := by omega
              have hm3 : (0 : Int) < (m : Int) := by omega
              generalize ((fin z0 acc).L : Int) = lst at cl hlt
              replace hm1 := hide hm1
              replace hI := hide hI
              clear hmn hok hN hal c0 c1 hTr
              go_wp2_with fail
              refine AF.out.mono ?_
              rintro e w2 ⟨rfl, PP⟩
              obtain ⟨v2, I2⟩ := AN.out w2 PP
              have LN := hide (len_any I2.bd)
              rw [I2.n] at LN
              replace I2 := hide I2
              clear AN AF PP
              go_wp2_with fail
              refine LN.out.mono ?_
              rintro e wx ⟨rfl, rfl⟩
              clear LN
              go_wp2_with fail
              go_roundw
              case rel => exact ⟨i + 1, m, acc, some ⟨bI, oI, none⟩, ci, v2, by omega, by omega, rfl, by go_num, I2⟩
              case measure => simp [intOf]; omega
            · have k3 : 35184372088832 < t := by omega
              have k0 : 0 ≤ t := by omega
              replace hI := hide hI
              clear hmn hok hN hal c0 c1 hTr
              go_wp2_with fail
              refine AF.out.mono ?_
              rintro e w2 ⟨rfl, PP⟩
              obtain ⟨v2, I2⟩ := AN.out w2 PP
              have LN := hide (len_any I2.bd)
              rw [I2.n] at LN
              replace I2 := hide I2
              clear AN AF PP
              go_wp2_with fail
              refine LN.out.mono ?_
              rintro e wx ⟨rfl, rfl⟩
              clear LN
              go_wp2_with fail
              go_roundw
              case rel => exact ⟨i + 1, m, acc, ai, ci, v2, by omega, by omega, rfl, by go_num, I2⟩
              case measure => simp [intOf]; omega
        | true =>
          unfold okTI isTim at hok
          rw [Bool.and_eq_true, decide_eq_true_eq, Bool.or_eq_true, decide_eq_true_eq, decide_eq_true_eq] at hok
          obtain ⟨⟨k0, k2⟩, hor⟩ := hok
          obtain ⟨tn, rfl⟩ : ∃ tn : Nat, t = (tn : Int) := ⟨t.toNat, by omega⟩
          have hOk : Hid (OkN (fin z0 acc) (tn, x)) := ⟨⟨by omega, by omega, by rcases hor with h | h; exact .inl (by omega); exact .inr (by simp only; omega)⟩, hx64⟩
          have hzk := ok_fin acc z0 ok_z0 hI.out.ok (by simp [z0]; omega)
          have AO := hide (add_ok (s := (tn, x)) hI.out.bd hTr.out hb6 hzk hOk.out (by omega) (by omega))
          by_cases hm0 : m = 0
          · subst hm0
            clear hmn hor hN hzk hTr hal
            go_wp2_with fail
            refine AO.out.mono ?_
            rintro e w2 ⟨rfl, v2, B2, d2⟩
            have hbc : ∀ (r : Addr), r.block < w6.heap.size → w2.cell? r = w6.cell? r := fun r hr => ((hI.out.bel.trans d2.bel).cell (p := r) hr)
            have f0 := (hbc ⟨bL, oL + i * 2, none⟩ hbL).trans c0
            have f1 := (hbc ⟨bL, oL + i * 2 + 1, none⟩ hbL).trans c1
            have own2 := owns_didB hI.out.bd hI.out.own d2
            have bel2 := hI.out.bel.trans d2.bel
            have OO := hide (own2.alloc (.cells #[.int .i64 (tn : Int), .int .u64 (x : Int)] 33))
            have HH := hide (hasS_one w2 (tn : Int) x hx64)
            have bb : Hid (w6.heap.size ≤ (w2.alloc (.cells #[.int .i64 (tn : Int), .int .u64 (x : Int)] 33)).heap.size) := by have := bel2.size; show w6.heap.size ≤ _; simp; omega
            have ff := hide (fun w3 v3 => hI.out.more (w3 := w3) (v3 := v3) (o := (.cells #[.int .i64 (tn : Int), .int .u64 (x : Int)] 33)) hm hOk.out B2 d2)
            clear AO B2 d2 hbc own2 bel2 c0 c1 e0 e1
            go_wp2_with (at_builtin; refine wpList_appS rfl (.tmp 88) (.tmp 93) rfl w6.heap.size _ _ (acc.map up) rfl OO.out _ 1 1 [((tn : Int), x)] rfl HH.out (by omega) bb.out ?_; intro v3 w3 O3 G3; obtain ⟨a3, c3, e3, I3⟩ := ff.out w3 v3 O3 G3; subst e3; have LN := hide (len_any I3.bd); rw [I3.n] at LN; replace I3 := hide I3; clear O3 G3 OO HH ff bb f0 f1)
            refine LN.out.mono ?_
            rintro e wx ⟨rfl, rfl⟩
            clear LN
            go_wp2_with fail
            go_roundw
            case rel => exact ⟨i + 1, _, acc ++ [(tn, x)], a3, c3, v2, by omega, by omega, rfl, by go_num, I3⟩
            case measure => simp [intOf]; omega
          · have hlt : ((fin z0 acc).L : Int) < (tn : Int) := by rcases hor with h | h; omega; exact h
            obtain ⟨bI, oI, rfl, cl⟩ := hI.out.last (by omega)
            obtain ⟨m1, hm1⟩ : ∃ m1, m - 1 = m1 := ⟨_, rfl⟩
            rw [hm1] at cl
            have hm1' : (m : Int) - 1 = (m1 : Int) := by omega
            have hm2 : (m1 : Int) < (m : Int) := by omega
            have hm3 : (0 : Int) < (m : Int) := by omega
            generalize ((fin z0 acc).L : Int) = lst at cl hlt
            replace hm1 := hide hm1
            clear hmn hor hN hzk hTr hal
            go_wp2_with fail
            refine AO.out.mono ?_
            rintro e w2 ⟨rfl, v2, B2, d2⟩
            have hbc : ∀ (r : Addr), r.block < w6.heap.size → w2.cell? r = w6.cell? r := fun r hr => ((hI.out.bel.trans d2.bel).cell (p := r) hr)
            have f0 := (hbc ⟨bL, oL + i * 2, none⟩ hbL).trans c0
            have f1 := (hbc ⟨bL, oL + i * 2 + 1, none⟩ hbL).trans c1
            have own2 := owns_didB hI.out.bd hI.out.own d2
            have bel2 := hI.out.bel.trans d2.bel
            have OO := hide (own2.alloc (.cells #[.int .i64 (tn : Int), .int .u64 (x : Int)] 33))
            have HH := hide (hasS_one w2 (tn : Int) x hx64)
            have bb : Hid (w6.heap.size ≤ (w2.alloc (.cells #[.int .i64 (tn : Int), .int .u64 (x : Int)] 33)).heap.size) := by have := bel2.size; show w6.heap.size ≤ _; simp; omega
            have ff := hide (fun w3 v3 => hI.out.more (w3 := w3) (v3 := v3) (o := (.cells #[.int .i64 (tn : Int), .int .u64 (x : Int)] 33)) hm hOk.out B2 d2)
            clear AO B2 d2 hbc own2 bel2 c0 c1 e0 e1
            go_wp2_with (at_builtin; refine wpList_appS rfl (.tmp 88) (.tmp 93) rfl w6.heap.size _ _ (acc.map up) rfl OO.out _ 1 1 [((tn : Int), x)] rfl HH.out (by omega) bb.out ?_; intro v3 w3 O3 G3; obtain ⟨a3, c3, e3, I3⟩ := ff.out w3 v3 O3 G3; subst e3; have LN := hide (len_any I3.bd); rw [I3.n] at LN; replace I3 := hide I3; clear O3 G3 OO HH ff bb f0 f1)
            refine LN.out.mono ?_
            rintro e wx ⟨rfl, rfl⟩
            clear LN
            go_wp2_with fail
            go_roundw
            case rel => exact ⟨i + 1, _, acc ++ [(tn, x)], a3, c3, v2, by omega, by omega, rfl, by go_num, I3⟩
            case measure => simp [intOf]; omega
      · have j2 : (120 : Int) ≤ (m : Int) := by omega
        have AF := hide (add_full (t := t) (x := x) hI.out.bd (by omega) (by omega))
        have AN : ∀ w2, Below wr.heap.size wr w2 → ∃ v2, PI w6 q p acc ai m ci v2 w2 := fun w2 b => ⟨v, hI.out.below b⟩
        replace AN := hide AN
        replace hI := hide hI
        clear hmn c0 c1 hTr
        go_wp2_with fail
        refine AF.out.mono ?_
        rintro e w2 ⟨rfl, PP⟩
        obtain ⟨v2, I2⟩ := AN.out w2 PP
        have LN := hide (len_any I2.bd)
        rw [I2.n] at LN
        replace I2 := hide I2
        clear AN AF PP
        go_wp2_with fail
        refine LN.out.mono ?_
        rintro e wx ⟨rfl, rfl⟩
        clear LN
        go_wp2_with fail
        go_roundw
        case rel => exact ⟨i + 1, m, acc, ai, ci, v2, by omega, by omega, rfl, by go_num, I2⟩
        case measure => simp [intOf]; omega
    · obtain rfl : i = n := by omega
      have j1 : ¬ ((i : Int) < (i : Int)) := by omega
      obtain ⟨er2, P2, hP2, EB, ER⟩ := ends_both acc hI.out.ok (by have := hI.out.len; have := hI.out.le; omega)
      have BY := hide (EB wr _ _ _ _ hI.out.bd (hT6.out.kept hI.out.bel hb6))
      have hal := hI.out.len
      rw [hal] at ER
      have bw := hide (b4.out.trans (hI.out.bel.mono b4.out.size))
      have HI := hide hI.out.has
      replace ER := hide ER
      replace hP2 := hide hP2
      replace hal := hide hal
      clear EB hI
      go_wp2_with fail
      refine BY.out.mono ?_
      rintro e w8 ⟨bp, ap, np, cp, hPp, rfl, Hp, b8⟩
      have bw8 := hide (bw.out.trans (b8.mono bw.out.size))
      have RQ := hide (ER.out w8 ai ci (HI.out.kept b8 (Nat.le_refl _)))
      replace Hp := hide Hp
      replace hPp := hide hPp
      clear BY b8 ER HI bw
      go_wp2_with fail
      refine RQ.out.mono ?_
      rintro e w9 ⟨bq, aq, nq, cq, hPq, rfl, Hq, b9⟩
      have bw9 := hide (bw8.out.trans (b9.mono bw8.out.size))
      have SB := same_any w9 ap aq np nq cp cq bp bq (Hp.out.kept b9 (Nat.le_refl _)) Hq
      rw [decide_eq_true (hP2.out bp bq hPp.out hPq)] at SB
      replace SB := hide SB
      clear RQ b9 Hq hPq Hp hPp bw8
      go_wp2_with fail
      refine SB.out.mono ?_
      rintro e w10 ⟨rfl, rfl⟩
      have WK := hide (works_any w10 (hT.out.below bw9.out))
      clear SB
      go_wp2_with fail
      refine WK.out.mono ?_
      rintro e w11 ⟨rfl, b11⟩
      have bw11 := hide (bw9.out.trans (b11.mono bw9.out.size))
      clear WK b11
      go_wp2_with fail
      go_ret
      exact ⟨rfl, bw11.out⟩
end Go.Proofs.YtmjjedbdedemcaaGreatDoor
