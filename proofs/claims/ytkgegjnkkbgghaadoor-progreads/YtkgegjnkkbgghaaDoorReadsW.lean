/-
  The walk of ProgReads.
-/
import Derived.Test.YtkgegjnkkbgghaaDoorDR
namespace Go.Proofs.YtkgegjnkkbgghaaDoor
open Go.RowKit Go.Shelf Go.Lib
set_option linter.unusedVariables false
set_option linter.unusedSimpArgs false

set_option maxHeartbeats 2000000 in
set_option maxRecDepth 100000 in
theorem readsW (a0 : ByteArray) (w : World) (hT : Tab w) (hP : Pw w) (h0 : a0.size ≤ maxLen) : Calls Tryd.prog 5 #[.string a0] w fun e w' => e = .returned (.bool true) ∧ Below w.heap.size w w' := by
  unfold maxLen at h0
  obtain ⟨m, hm⟩ : ∃ m : Nat, min a0.size 256 = m := ⟨_, rfl⟩
  have hm1 : m ≤ a0.size := by omega
  have hm2 : m ≤ 256 := by omega
  have p1 : (if ((a0.size : Nat) : Int) < 256 then ((a0.size : Nat) : Int) else 256) = (m : Int) := by rw [← hm]; split <;> omega
  have p2 : (if (256 : Int) < ((a0.size : Nat) : Int) then 256 else ((a0.size : Nat) : Int)) = (m : Int) := by rw [← hm]; split <;> omega
  replace hm := hide hm
  have i1 : (m : Int) ≤ (a0.size : Int) := by omega
  go_enter Tryd.func5, Tryd.ntmps5
  go_wp2_with fail
  refine (works_any w hT hP).mono ?_
  rintro e w1 ⟨rfl, B1⟩
  have hT1 := hide (hT.below B1)
  go_wp2_with fail
  have hsz : (a0.extract 0 (min (a0.size : Int) 256).toNat).size ≤ 256 := by simp; omega
  generalize a0.extract 0 (min (a0.size : Int) 256).toNat = s at hsz ⊢
  have hs1 := B1.size
  refine (parse_any s w1 hT1.out).mono ?_
  rintro e w2 ⟨B2, ⟨h256, rfl⟩ | ⟨h256, ⟨p, hp, rfl⟩ | ⟨x, t, hp, rfl, T⟩⟩⟩
  · exact absurd h256 (by omega)
  · have H := (St.start Nope w).call B1 (Nat.le_refl _)
    replace H := H.call B2 (Nat.le_refl _)
    unfold zeroRe
    clear p1 p2 hsz hp
    go_wp2_with (first | (with_reducible refine at_alloc 27 ?_; refine wl_alloc28 H ?_; clear H; intro g w' H q1 q2) | (with_reducible refine at_store 27 ?_; refine wl_store28 0 H rfl rfl rfl rfl ?_; clear H; intro w' H))
    go_ret
    exact ⟨rfl, H.below⟩
  · have hg := parse_good s
    rw [hp] at hg
    obtain ⟨g1, g2, g3⟩ := hg
    have MK := hide (fun w' T => make_ok t (fun b => w1.heap.size ≤ b) x w' T g1 (by omega) (by omega))
    have CN := hide (fun w' T => count_ok t (fun b => w1.heap.size ≤ b) x w' T g1 (by omega) (by omega))
    have LS := hide (fun k i hi => prg_last t g1 (k := k) (i := i) hi)
    have CH := hide (fun hn => prg_chk t g1 hn)
    have hlen := hide ((prg t).len 0 0)
    have H := St.start Nope w2
    have hs2 := B2.size
    have hB : Hid (Below w.heap.size w w2) := B1.trans (B2.mono hs1)
    have hT2 : Hid (TrV w2 (fun b => w1.heap.size ≤ b) x t) := T
    have hkeep : Hid (∀ w', Below w2.heap.size w2 w' → TrV w' (fun b => w1.heap.size ≤ b) x t) := fun w' hb => hT2.out.kept (fun b _ hl => hb.block b hl)
    obtain ⟨va, vn, vc, hx⟩ := T.val
    subst hx
    clear p1 p2 g1 g2 g3 hp T hsz
    go_wp2_with (first | (with_reducible refine at_alloc 27 ?_; refine wl_alloc28 H ?_; clear H; intro g w' H q1 q2) | (with_reducible refine at_store 27 ?_; refine wl_store28 0 H rfl rfl rfl rfl ?_; clear H; intro w' H) | ((with_reducible refine at_load 27 ?_); refine wl_load28 0 H rfl rfl ?_))
    refine (MK.out _ (hkeep.out _ H.below)).mono ?_
    rintro e w3 ⟨B3, ⟨hbig, rfl⟩ | ⟨hsm, v, rfl, R3, _⟩⟩
    · replace H := H.call B3 (Nat.le_refl _)
      obtain ⟨q, hq⟩ : ∃ q, min (prg t).n cap = q := ⟨_, rfl⟩
      have hq2 : (2048 : Int) < (q : Int) := by unfold cap at hq; omega
      rw [hq] at CN
      go_wp2_with (first | ((with_reducible refine at_load 27 ?_); refine wl_load28 0 H rfl rfl ?_))
      refine (CN.out _ (hkeep.out _ H.below)).mono ?_
      rintro e w4 ⟨rfl, B4⟩
      replace H := H.call B4 (Nat.le_refl _)
      go_wp2_with fail
      go_ret
      exact ⟨rfl, hB.out.trans (H.below.mono hB.out.size)⟩
    · replace H := H.call B3 (Nat.le_refl _)
      obtain ⟨q, hq⟩ : ∃ q, (prg t).n = q := ⟨_, rfl⟩
      have hqc : min (prg t).n cap = q := by unfold cap; omega
      have hchk := hide (CH.out hsm)
      rw [hqc] at CN
      rw [hq] at LS hlen hsm
      generalize (prg t).put 0 0 = L at *
      replace hlen := hlen.out
      subst hlen
      obtain ⟨ad, c, rfl⟩ := R3.val
      have R3h := hide R3
      clear R3
      clear CH
      replace hq := hide hq
      replace hqc := hide hqc
      go_wp2_with (first | ((with_reducible refine at_load 27 ?_); refine wl_load28 0 H rfl rfl ?_))
      refine (CN.out _ (hkeep.out _ H.below)).mono ?_
      rintro e w4 ⟨rfl, B4⟩
      replace H := H.call B4 (Nat.le_refl _)
      have R4 := hide (R3h.out.below B4)
      have F4 := hide (hB.out.trans (H.below.mono hB.out.size))
      clear H B4 B3 R3h
      go_wp2_with fail
      go_loopw [10] (fun b wr => ∃ k : Nat, k ≤ L.length ∧ b = .int .i64 (k : Int) ∧ Hid (RI wr (.slice ad L.length c) L) ∧ Hid (Below w.heap.size w wr)) (fun b _ => L.length - (RowKit.intOf b).toNat)
      case atStart => exact ⟨0, Nat.zero_le _, rfl, R4, F4⟩
      case round =>
        obtain ⟨k, hk, rfl, Rr, Fr⟩ := hrel
        by_cases hlt : k < L.length
        · have i2 : (k : Int) < (L.length : Int) := Int.ofNat_lt.2 hlt
          obtain ⟨i, hi⟩ : ∃ i, L[k]? = some i := ⟨_, List.getElem?_eq_getElem hlt⟩
          obtain ⟨g, c', hv, hgl, hc⟩ := Rr.out.at hi
          have c0 := hc 0 (.int .i64 i.op) rfl
          rw [Nat.add_zero] at c0
          obtain ⟨rfl, rfl⟩ : ad = some ⟨g, 0, none⟩ ∧ c = c' := by simpa using hv
          rcases LS.out k i hi with ⟨h1, h2⟩ | ⟨h1, h2⟩
          · have j1 : ((k : Int) == (L.length : Int) - 1) = true := by simp; omega
            obtain ⟨q1, hq1⟩ : ∃ q1 : Int, q1 = (L.length : Int) - 1 := ⟨_, rfl⟩
            rw [h2] at c0
            replace hi := hide hi
            replace hv := hide hv
            replace hc := hide hc
            replace hq1 := hide hq1
            replace h1 := hide h1
            have hltH := hide hlt
            go_wp2_with fail
            go_roundw
            case rel => exact ⟨k + 1, hltH.out, by go_num, Rr, Fr⟩
            case measure => have := hltH.out; simp [RowKit.intOf]; omega
          · have j1 : ((k : Int) == (L.length : Int) - 1) = false := by simp; omega
            have j2 : (i.op == 3) = false := by simpa using h2
            replace hi := hide hi
            replace hv := hide hv
            replace hc := hide hc
            replace h1 := hide h1
            replace h2 := hide h2
            have hltH := hide hlt
            go_wp2_with fail
            go_roundw
            case rel => exact ⟨k + 1, hltH.out, by go_num, Rr, Fr⟩
            case measure => have := hltH.out; simp [RowKit.intOf]; omega
        · obtain rfl : k = L.length := by omega
          obtain ⟨a', c', hv, hH⟩ := Rr.out.hs
          obtain ⟨rfl, rfl⟩ : ad = a' ∧ c = c' := by simpa using hv
          have hH2 : HsI wr (fun k => k < wr.heap.size) ad L := hH.kept (fun k _ _ => rfl) (fun k hk _ => hk)
          have CK := hide (chk_any ad c L wr hH2)
          rw [hchk.out] at CK
          replace hH := hide hH
          replace hH2 := hide hH2
          replace hv := hide hv
          go_wp2_with fail
          refine CK.out.mono ?_
          rintro e w5 ⟨rfl, B5⟩
          have F5 := hide (Fr.out.trans (B5.mono Fr.out.size))
          clear B5
          go_wp2_with fail
          go_ret
          exact ⟨rfl, F5.out⟩
end Go.Proofs.YtkgegjnkkbgghaaDoor
