/-
  The reference's Write, where it writes.
-/
import Derived.Test.YtbaclihlckfndaaDoorAH
import Derived.Deep.Cut
namespace Go.Proofs.YtbaclihlckfndaaDoor
open Go.RowKit Go.Shelf
set_option linter.unusedVariables false

theorem cutR_get (n : Nat) : ∀ (nx fl : Nat) (x : List Int) (j : Nat), x.length ≤ n → j < needR x → (cutR nx fl x)[j]? = some ⟨nx + j, (x.drop (244 * j)).take 244, (if j = 0 then fl else 0) + (if x.length ≤ 244 * (j + 1) then 2 else 0)⟩ := by
  induction n using Nat.strongRecOn with
  | ind n ih =>
    intro nx fl x j hx hj
    by_cases h : 244 < x.length
    · rw [cutR_long h]
      cases j with
      | zero => simp; omega
      | succ j =>
        have hj2 : j < needR (x.drop 244) := by
          unfold needR at hj ⊢
          simp
          omega
        rw [List.getElem?_cons_succ, ih (x.length - 244) (by omega) _ _ _ _ (by simp) hj2, List.drop_drop]
        simp only [List.length_drop, Nat.succ_ne_zero, if_false, Option.some.injEq, Says.mk.injEq]
        refine ⟨by omega, by rw [show 244 + 244 * j = 244 * (j + 1) by omega], ?_⟩
        split <;> split <;> split <;> omega
    · have hj0 : j = 0 := by unfold needR at hj; omega
      subst hj0
      rw [cutR_short (by omega)]
      simp
      exact ⟨(List.take_of_length_le (by omega)).symm, by omega⟩
theorem cutAll_app (ls ms : List (List Int)) : ∀ nx, cutAll nx (ls ++ ms) = cutAll nx ls ++ cutAll (nx + needL ls) ms := by
  induction ls with
  | nil => intro nx; simp [cutAll, needL]
  | cons x ls ih =>
    intro nx
    simp only [List.cons_append, cutAll, needL, List.append_assoc]
    rw [ih, cutR_len x.length nx 1 x (Nat.le_refl _), show nx + needR x + needL ls = nx + (needR x + needL ls) by omega]
theorem cutAll_take {ls : List (List Int)} {i : Nat} (h : i < ls.length) (nx : Nat) : cutAll nx (ls.take (i + 1)) = cutAll nx (ls.take i) ++ cutR (nx + needL (ls.take i)) 1 (ls.getD i []) := by
  rw [take_snoc h, cutAll_app]
  simp [cutAll]
/-- The sectors of the records ahead, and some of the next one. -/
def doneL (number : Nat) (ls : List (List Int)) (i j : Nat) : List Int := secs (cutAll number (ls.take i)) ++ secs ((cutR (number + needL (ls.take i)) 1 (ls.getD i [])).take j)
theorem doneL_zero (number : Nat) (ls : List (List Int)) (i : Nat) : doneL number ls i 0 = secs (cutAll number (ls.take i)) := by simp [doneL, secs]
theorem doneL_next {number : Nat} {ls : List (List Int)} {i j : Nat} (hj : j < needR (ls.getD i [])) : doneL number ls i (j + 1) = doneL number ls i j ++ sec (number + needL (ls.take i) + j) (((ls.getD i []).drop (244 * j)).take 244) ((if j = 0 then 1 else 0) + (if (ls.getD i []).length ≤ 244 * (j + 1) then 2 else 0)) := by
  unfold doneL
  rw [List.take_add_one, cutR_get _ _ _ _ _ (Nat.le_refl _) hj]
  simp [secs, Says.sec]
theorem doneL_end {number : Nat} {ls : List (List Int)} {i : Nat} (hi : i < ls.length) : doneL number ls i (needR (ls.getD i [])) = doneL number ls (i + 1) 0 := by
  rw [doneL_zero, cutAll_take hi, secs_app]
  unfold doneL
  rw [List.take_of_length_le (l := cutR _ _ _) (by rw [cutR_len _ _ _ _ (Nat.le_refl _)]; exact Nat.le_refl _)]

/-- A row of bytes of one's own. -/
def Row (n0 : Nat) (W : World) (a : Option Addr) (n c : Nat) (l : List Int) : Prop := W.ownsRow n0 5 1 (.slice a n c) n (l.map (Value.int .u8)) ∧ Byts l

set_option maxRecDepth 100000 in
set_option maxHeartbeats 4000000 in
theorem rwrite_ok (w : World) (number : Nat) (a : Option Addr) (len cap : Nat) (ls : List (List Int)) (h : HasL w a len cap ls) (hl : len ≤ 12) (hs : ∀ x ∈ ls, x.length ≤ 65536) (hn : number + needL ls ≤ 4294967296) (hn1 : number ≤ 4294967295) :
    Calls Tryd.prog 10 #[.int .i64 (number : Int), .slice a len cap] w (Wrote w (secs (cutAll number ls))) := by
  have hcount := rneed_any w a len cap ls h hl
  have he : needE ls = (((needL ls : Nat) : Int), 0) := by unfold needE; rw [if_pos hs]
  have hnb : needL ls ≤ 3600 := by
    have := needL_le hs ls.length
    rw [List.take_length] at this
    have := h.hlen
    omega
  rw [he] at hcount
  replace hcount := hide hcount
  have hlen := h.hlen
  have hcells := hide h.cells
  have hby := hide h.byts
  have hmono : Hid (∀ i, i < len → needL (ls.take i) + needR (ls.getD i []) ≤ needL ls) := fun i hi => by
    rw [← needL_take (by omega)]
    have e : needL ls = needL (ls.take (i + 1)) + needL (ls.drop (i + 1)) := by rw [← needL_app, List.take_append_drop]
    omega
  have hshort : Hid (∀ i, i < len → (ls.getD i []).length ≤ 65536) := fun i hi => by
    have e : ls.getD i [] = ls[i]'(by omega) := by simp [List.getD, List.getElem?_eq_getElem (show i < ls.length by omega)]
    rw [e]; exact hs _ (List.getElem_mem _)
  obtain ⟨T, hT⟩ : ∃ T, needL ls = T := ⟨_, rfl⟩
  rw [hT] at hcount hn hnb hmono
  have i1 : (len : Int) ≤ 12 := by omega
  have i2 : (number : Int) ≤ 4294967295 := by omega
  have i4 : ¬ ((4294967295 : Int) - (T : Int) + 1 < (number : Int)) := by omega
  have i5 : ¬ ((4294967295 : Int) < (number : Int)) := by omega
  have i6 : (T : Int) ≤ 3600 := by omega
  replace hT := hide hT
  clear h he
  replace hs := hide hs
  have row0 : Hid (Row w.heap.size (w.alloc (.cells #[] 5)) (some ⟨w.heap.size, 0, none⟩) 0 0 (doneL number ls 0 0)) := by
    refine ⟨?_, ?_⟩
    · simpa [doneL, secs, cutAll] using owns_empty w
    · simp [doneL, secs, cutAll, Byts]
  go_enter Tryd.func10, Tryd.ntmps10
  rcases (show (0 : Int) < (T : Int) ∨ (T : Int) = 0 by omega) with hT0 | hT0
  · go_wp2_with (go_at_call 12; refine hcount.out.mono ?_; rintro e w' ⟨rfl, hw'⟩; replace hw' := hw'.symm; subst hw')
    go_loopw [0, 8, 9] (fun nv v iv wr => ∃ (i n : Nat) (ao : Option Addr) (co : Nat), i ≤ len ∧ n ≤ 256 * (number + needL (ls.take i)) ∧ nv = .int .i64 ((number + needL (ls.take i) : Nat) : Int) ∧ v = .slice ao n co ∧ iv = .int .i64 (i : Int) ∧ Hid (Row w.heap.size wr ao n co (doneL number ls i 0)) ∧ Hid (Below w.heap.size w wr)) (fun _ _ iv _ => len - (intOf iv).toNat)
    case atStart => exact ⟨0, 0, _, _, Nat.zero_le _, Nat.zero_le _, (by simp [needL]), rfl, rfl, row0, (Below.refl _ w).alloc (Nat.le_refl _) _⟩
    case round =>
      obtain ⟨i, n, ao, co, hi, hn0, rfl, rfl, rfl, hR, hB⟩ := hrel
      by_cases hil : i < len
      · obtain ⟨b, off, rfl, hbl, hcl⟩ := hcells.out (by omega)
        obtain ⟨ai, ni, ci, hc, hHi⟩ := hcl i hil
        have ic : (i : Int) < len := by omega
        have hni := hHi.hlen
        have hnc := hHi.le
        have hcm := hHi.capb
        unfold maxLen at hcm
        have hmon := hmono.out i hil
        have hsh := hshort.out i hil
        rw [hni] at hsh
        have hnr := needR_eq _ ni hni
        obtain ⟨nx, hnx⟩ : ∃ nx, number + needL (ls.take i) = nx := ⟨_, rfl⟩
        obtain ⟨R, hRR⟩ : ∃ R, needR (ls.getD i []) = R := ⟨_, rfl⟩
        rw [hRR] at hmon hnr
        rw [hnx] at hn0
        have hnxb : nx + R ≤ 4294967296 := by omega
        rw [hnx]
        have hend := doneL_end (number := number) (ls := ls) (i := i) (by omega)
        have hnxt := fun (j : Nat) (hj : j < needR (ls.getD i [])) => doneL_next (number := number) (ls := ls) (i := i) hj
        rw [hRR] at hend hnxt
        rw [hnx, hni] at hnxt
        have hnext : Hid (number + needL (ls.take (i + 1)) = nx + R) := by show _ = _; rw [needL_take (by omega), hRR]; omega
        replace hend := hide hend
        replace hnxt := hide hnxt
        replace hnx := hide hnx
        replace hRR := hide hRR
        replace hcl := hide hcl
        replace hHi := hide hHi
        replace hni := hide hni
        replace hnr := hide hnr
        clear hmon
        go_wp2_with fail
        go_loopw [0, 8, 10] (fun nv v tv wr2 => ∃ (j n t : Nat) (ao : Option Addr) (co : Nat), j ≤ R ∧ t = 244 * j ∧ n ≤ 256 * (nx + j) ∧ nv = .int .i64 ((nx + j : Nat) : Int) ∧ v = .slice ao n co ∧ tv = .int .i64 (t : Int) ∧ Hid (Row w.heap.size wr2 ao n co (doneL number ls i j)) ∧ Hid (Below w.heap.size w wr2)) (fun _ _ tv _ => 244 * R - (intOf tv).toNat)
        case atStart => exact ⟨0, n, 0, ao, co, Nat.zero_le _, rfl, hn0, rfl, rfl, rfl, hR, hB⟩
        case round =>
          obtain ⟨j, n, t, ao, co, hj, ht, hn2, rfl, rfl, rfl, hR2, hB2⟩ := hrel
          have c0 : wr.cell? ⟨b, off + i, none⟩ = some (.slice ai ni ci) := (hB2.out.cell (p := ⟨b, off + i, none⟩) hbl).trans hc
          have hnr2 := hnr.out
          have HX := hHi.out.kept hB2.out (Nat.le_refl _)
          by_cases hjR : j < R
          · obtain ⟨N2, hN2⟩ : ∃ N2, nx + j = N2 := ⟨_, rfl⟩
            rw [hN2]
            have hN2b : N2 < 4294967296 := by omega
            have k1 : (N2 : Int) < 4294967296 := by omega
            obtain ⟨t2, ht2⟩ : ∃ t2, t + 244 = t2 := ⟨_, rfl⟩
            obtain ⟨en, hen⟩ : ∃ en, min ni t2 = en := ⟨_, rfl⟩
            have e2 : (t : Int) + 244 = (t2 : Int) := by omega
            have em : (if (t2 : Int) < (ni : Int) then (t2 : Int) else (ni : Int)) = (en : Int) := by split <;> omega
            have em2 : (if t2 < ni then (t2 : Int) else (ni : Int)) = (en : Int) := by split <;> omega
            have k2 : (t2 : Int) ≤ 70000 := by omega
            have k3 : (t : Int) ≤ (en : Int) := by omega
            have k4 : (en : Int) ≤ (ci : Int) := by omega
            obtain ⟨M, hM⟩ : ∃ M, M = ((ls.getD i []).drop t).take 244 := ⟨_, rfl⟩
            by_cases hj0 : j = 0
            · subst hj0
              obtain rfl : t = 0 := by omega
              have Hc : Hid (Has wr ai en ci M) := by
                have := HX.front en (by omega)
                rwa [show (ls.getD i []).take en = M by rw [hM, List.drop_zero, List.take_eq_take_iff]; have := hni.out; omega] at this
              obtain ⟨cc, hcc⟩ : ∃ cc, cc = ci := ⟨_, rfl⟩
              rw [← hcc] at Hc
              subst hcc
              have k8 : en ≤ 244 := by omega
              have em3 : (if (244 : Int) < (ni : Int) then (244 : Int) else (ni : Int)) = (en : Int) := by split <;> omega
              have em4 : (if 244 < ni then (244 : Int) else (ni : Int)) = (en : Int) := by split <;> omega
              replace hM := hide hM
              replace hN2 := hide hN2
              replace ht2 := hide ht2
              have k2' : t2 = 244 := by have := ht2.out; omega
              replace k2' := hide k2'
              clear hnr2 HX em em2 hj e2 k2 ht
              by_cases hlast : en = ni
              · subst hlast
                replace hen := hide hen
                replace hnxt := hide (hnxt.out 0 (by omega))
                have hfin : Hid (doneL number ls i (0 + 1) = doneL number ls i 0 ++ sec N2 M 3) := by
                  show _ = _
                  rw [hnxt.out, hN2.out, Nat.mul_zero, ← hM.out, if_pos rfl, if_pos (by have := ht2.out; have := hen.out; omega)]
                go_wp2_with (first
              | (go_at_call 27
                 refine (rsector_any wr N2 3 ai en cc _ Hc.out hN2b (by omega) (by omega)).mono ?_
                 rintro e W3 ⟨a3, n3, c3, rfl, H3, B3, R3⟩
                 have hn3 : n3 = 256 := by rw [← H3.hlen]; exact sec_len (by have := Hc.out.hlen; omega)
                 subst hn3
                 have hrow3 := hide (hR2.out.1.kept (below_grown B3) (Classical.em _))
                 have T3 := hide (hB2.out.trans (B3.mono hB2.out.size))
                 replace H3 := hide H3
                 clear B3 R3)
              | (at_builtin
                 refine wpList_app rfl (.tmp 79) (.tmp 89) rfl w.heap.size _ n _ rfl hrow3.out a3 256 c3 _ rfl H3.out (by omega) T3.out.size ?_
                 intro v4 W4 O4 G4
                 have T4 := hide (T3.out.grown G4 T3.out.size (fun q e => (hrow3.out.lt q e).1))
                 have hb4 := hide (Byts.app hR2.out.2 H3.out.bytes)
                 obtain ⟨a4, c4, e4⟩ := slice_of_owns O4
                 subst e4
                 replace O4 := hide O4
                 clear G4))
                go_roundw
                case rel => exact ⟨0 + 1, n + 256, t2, a4, c4, by omega, by have := ht2.out; skip; omega, by omega, v64 (by have := hN2.out; omega), rfl, v64 (by have := ht2.out; omega), (⟨by rw [hfin.out]; exact O4.out, by rw [hfin.out]; exact hb4.out⟩ : Row w.heap.size W4 a4 (n + 256) c4 (doneL number ls i (0 + 1))), T4⟩
                case measure => have := ht2.out; skip; simp [intOf]; omega
              · have q3 : en = 244 := by omega
                have hq1 : Hid (((244 : Int) == (ni : Int)) = false) := by show _ = false; simp; omega
                replace hen := hide hen
                have q4 : 244 < ni := by omega
                have q5 : (244 : Int) < (ni : Int) := by omega
                clear em3 em4
                subst q3
                replace hnxt := hide (hnxt.out 0 (by omega))
                have hfin : Hid (doneL number ls i (0 + 1) = doneL number ls i 0 ++ sec N2 M 1) := by
                  show _ = _
                  rw [hnxt.out, hN2.out, Nat.mul_zero, ← hM.out, if_pos rfl, if_neg (by have := ht2.out; have := hen.out; omega)]
                go_upto_if 76 with fail
                refine wp_cond_false (congrArg Value.bool hq1.out) ?_
                go_wp2_with (first
              | (go_at_call 27
                 refine (rsector_any wr N2 1 ai 244 cc _ Hc.out hN2b (by omega) (by omega)).mono ?_
                 rintro e W3 ⟨a3, n3, c3, rfl, H3, B3, R3⟩
                 have hn3 : n3 = 256 := by rw [← H3.hlen]; exact sec_len (by have := Hc.out.hlen; omega)
                 subst hn3
                 have hrow3 := hide (hR2.out.1.kept (below_grown B3) (Classical.em _))
                 have T3 := hide (hB2.out.trans (B3.mono hB2.out.size))
                 replace H3 := hide H3
                 clear B3 R3)
              | (at_builtin
                 refine wpList_app rfl (.tmp 79) (.tmp 89) rfl w.heap.size _ n _ rfl hrow3.out a3 256 c3 _ rfl H3.out (by omega) T3.out.size ?_
                 intro v4 W4 O4 G4
                 have T4 := hide (T3.out.grown G4 T3.out.size (fun q e => (hrow3.out.lt q e).1))
                 have hb4 := hide (Byts.app hR2.out.2 H3.out.bytes)
                 obtain ⟨a4, c4, e4⟩ := slice_of_owns O4
                 subst e4
                 replace O4 := hide O4
                 clear G4))
                go_roundw
                case rel => exact ⟨0 + 1, n + 256, t2, a4, c4, by omega, by have := ht2.out; skip; omega, by omega, v64 (by have := hN2.out; omega), rfl, v64 (by have := ht2.out; omega), (⟨by rw [hfin.out]; exact O4.out, by rw [hfin.out]; exact hb4.out⟩ : Row w.heap.size W4 a4 (n + 256) c4 (doneL number ls i (0 + 1))), T4⟩
                case measure => have := ht2.out; skip; simp [intOf]; omega
            · have hp0 : 0 < ni := by omega
              obtain ⟨b2, off2, rfl, hb2, hc2⟩ := HX.cells hp0
              clear hc2
              have k5 : (t : Int) < (ni : Int) := by omega
              have k6 : ((t : Int) == 0) = false := by simp; omega
              have k10 : ci ≠ t := by omega
              have Hc : Hid (Has wr (some ⟨b2, off2 + t, none⟩) (en - t) (ci - t) M) := by
                have := HX.piece t (en - t) (by omega) (ci - t) (by omega) (by unfold maxLen; omega)
                rwa [show ((ls.getD i []).drop t).take (en - t) = M by rw [hM, List.take_eq_take_iff]; rw [List.length_drop, hni.out]; omega] at this
              obtain ⟨cc, hcc⟩ : ∃ cc, ci - t = cc := ⟨_, rfl⟩
              rw [hcc] at Hc
              have k7 : t ≠ 0 := by omega
              have k8 : en - t ≤ 244 := by omega
              replace ht2 := hide ht2
              replace hM := hide hM
              replace hN2 := hide hN2
              clear hnr2 HX
              by_cases hlast : en = ni
              · subst hlast
                replace hen := hide hen
                replace ht := hide ht
                replace hnxt := hide (hnxt.out j (by omega))
                have hfin : Hid (doneL number ls i (j + 1) = doneL number ls i j ++ sec N2 M 2) := by
                  show _ = _
                  have ht3 := ht.out
                  rw [hnxt.out, hN2.out, ← ht.out, ← hM.out, if_neg hj0, if_pos (by have := ht2.out; have := hen.out; omega)]
                go_wp2_with (first
              | (go_at_call 27
                 refine (rsector_any wr N2 2 (some ⟨b2, off2 + t, none⟩) (en - t) cc _ Hc.out hN2b (by omega) (by omega)).mono ?_
                 rintro e W3 ⟨a3, n3, c3, rfl, H3, B3, R3⟩
                 have hn3 : n3 = 256 := by rw [← H3.hlen]; exact sec_len (by have := Hc.out.hlen; omega)
                 subst hn3
                 have hrow3 := hide (hR2.out.1.kept (below_grown B3) (Classical.em _))
                 have T3 := hide (hB2.out.trans (B3.mono hB2.out.size))
                 replace H3 := hide H3
                 clear B3 R3)
              | (at_builtin
                 refine wpList_app rfl (.tmp 79) (.tmp 89) rfl w.heap.size _ n _ rfl hrow3.out a3 256 c3 _ rfl H3.out (by omega) T3.out.size ?_
                 intro v4 W4 O4 G4
                 have T4 := hide (T3.out.grown G4 T3.out.size (fun q e => (hrow3.out.lt q e).1))
                 have hb4 := hide (Byts.app hR2.out.2 H3.out.bytes)
                 obtain ⟨a4, c4, e4⟩ := slice_of_owns O4
                 subst e4
                 replace O4 := hide O4
                 clear G4))
                go_roundw
                case rel => exact ⟨j + 1, n + 256, t2, a4, c4, by omega, by have := ht2.out; have := ht.out; omega, by omega, v64 (by have := hN2.out; omega), rfl, v64 (by have := ht2.out; omega), (⟨by rw [hfin.out]; exact O4.out, by rw [hfin.out]; exact hb4.out⟩ : Row w.heap.size W4 a4 (n + 256) c4 (doneL number ls i (j + 1))), T4⟩
                case measure => have := ht2.out; have := ht.out; simp [intOf]; omega
              · have q3 : t2 = en := by omega
                have hq1 : Hid (((t2 : Int) == (ni : Int)) = false) := by show _ = false; simp; omega
                have q4 : t2 < ni := by omega
                have q5 : (t2 : Int) < (ni : Int) := by omega
                replace hen := hide hen
                replace ht := hide ht
                clear em em2
                subst q3
                replace hnxt := hide (hnxt.out j (by omega))
                have hfin : Hid (doneL number ls i (j + 1) = doneL number ls i j ++ sec N2 M 0) := by
                  show _ = _
                  have ht3 := ht.out
                  rw [hnxt.out, hN2.out, ← ht.out, ← hM.out, if_neg hj0, if_neg (by have := ht2.out; have := hen.out; omega)]
                go_upto_if 76 with fail
                refine wp_cond_false (congrArg Value.bool hq1.out) ?_
                go_wp2_with (first
              | (go_at_call 27
                 refine (rsector_any wr N2 0 (some ⟨b2, off2 + t, none⟩) (t2 - t) cc _ Hc.out hN2b (by omega) (by omega)).mono ?_
                 rintro e W3 ⟨a3, n3, c3, rfl, H3, B3, R3⟩
                 have hn3 : n3 = 256 := by rw [← H3.hlen]; exact sec_len (by have := Hc.out.hlen; omega)
                 subst hn3
                 have hrow3 := hide (hR2.out.1.kept (below_grown B3) (Classical.em _))
                 have T3 := hide (hB2.out.trans (B3.mono hB2.out.size))
                 replace H3 := hide H3
                 clear B3 R3)
              | (at_builtin
                 refine wpList_app rfl (.tmp 79) (.tmp 89) rfl w.heap.size _ n _ rfl hrow3.out a3 256 c3 _ rfl H3.out (by omega) T3.out.size ?_
                 intro v4 W4 O4 G4
                 have T4 := hide (T3.out.grown G4 T3.out.size (fun q e => (hrow3.out.lt q e).1))
                 have hb4 := hide (Byts.app hR2.out.2 H3.out.bytes)
                 obtain ⟨a4, c4, e4⟩ := slice_of_owns O4
                 subst e4
                 replace O4 := hide O4
                 clear G4))
                go_roundw
                case rel => exact ⟨j + 1, n + 256, t2, a4, c4, by omega, by have := ht2.out; have := ht.out; omega, by omega, v64 (by have := hN2.out; omega), rfl, v64 (by have := ht2.out; omega), (⟨by rw [hfin.out]; exact O4.out, by rw [hfin.out]; exact hb4.out⟩ : Row w.heap.size W4 a4 (n + 256) c4 (doneL number ls i (j + 1))), T4⟩
                case measure => have := ht2.out; have := ht.out; simp [intOf]; omega
          · obtain rfl : j = R := by omega
            have k5 : ¬ ((t : Int) < (ni : Int)) := by omega
            have k6 : ((t : Int) == 0) = false := by simp; omega
            have hR3 := hR2.out
            rw [hend.out] at hR3
            replace hR3 := hide hR3
            replace ht := hide ht
            clear HX hnr2
            go_wp2_with fail
            go_roundw
            case rel => exact ⟨i + 1, n, ao, co, by omega, by rw [hnext.out]; exact hn2, v64 (by have := hnext.out; omega), rfl, by go_num, hR3, hB2⟩
            case measure => simp [intOf]; omega
      · obtain rfl : i = len := by omega
        have hR3 := hR.out
        rw [doneL_zero, ← hlen, List.take_length] at hR3
        obtain ⟨a5, c5, e5, H5⟩ := has_of_owns hR3.1 hR3.2
        cases e5
        replace H5 := hide H5
        clear hR hR3
        go_wp2_with fail
        go_ret2
        exact ⟨_, _, _, rfl, H5.out, hB.out⟩
  · obtain rfl : T = 0 := by omega
    have hls : ls = [] := by
      cases ls with
      | nil => rfl
      | cons x l => have := hT.out; simp only [needL] at this; unfold needR at this; omega
    subst hls
    obtain rfl : len = 0 := by simpa using hlen.symm
    simp only [Int.natCast_zero] at hcount
    have hrow := row0.out
    rw [doneL_zero] at hrow
    obtain ⟨a5, c5, e5, H5⟩ := has_of_owns hrow.1 hrow.2
    cases e5
    replace H5 := hide H5
    clear hrow row0 hcells hmono hshort hby hs i4 i6 hT0
    go_wp2_with (go_at_call 12; refine hcount.out.mono ?_; rintro e w' ⟨rfl, hw'⟩; replace hw' := hw'.symm; subst hw')
    go_loopw [8, 9] (fun v iv wr => v = .slice (some ⟨w.heap.size, 0, none⟩) 0 0 ∧ iv = .int .i64 0 ∧ wr = w.alloc (.cells #[] 5)) (fun _ _ _ => 0)
    case atStart => exact ⟨rfl, rfl, rfl⟩
    case round =>
      obtain ⟨rfl, rfl, rfl⟩ := hrel
      go_wp2_with fail
      go_ret2
      exact ⟨_, _, _, rfl, H5.out, (Below.refl _ w).alloc (Nat.le_refl _) _⟩
end Go.Proofs.YtbaclihlckfndaaDoor
