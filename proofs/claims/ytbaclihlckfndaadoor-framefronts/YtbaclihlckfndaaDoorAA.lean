/-
  The walk of the statement FrameFronts.
-/
import Derived.Test.YtbaclihlckfndaaDoorZ
namespace Go.Proofs.YtbaclihlckfndaaDoor
open Go.RowKit Go.Shelf
set_option linter.unusedVariables false

set_option maxRecDepth 100000 in
set_option maxHeartbeats 4000000 in
theorem fronts_walk (a0 : Int) (a1 : Option Addr) (len1 cap1 : Nat) (l1 : List (List Int)) (a2 : Int) (a3 : Bool) (w : World) (ht : Tab w) (w0 : (Lit.int .i64 a0).wf = true) (w1 : HasL w a1 len1 cap1 l1) (w2 : (Lit.int .i64 a2).wf = true) :
    Calls Tryd.prog 6 #[.int .i64 a0, .slice a1 len1 cap1, .int .i64 a2, .bool a3] w fun e w' => e = .returned (.bool true) ∧ Below w.heap.size w w' := by
  have hp := ht.pos
  have hx0 := wf_i64 w0
  have hx2 := wf_i64 w2
  have hby := few8_byts w1.byts
  have hnd := few8_need l1
  have hf8 : (few8 l1).length ≤ 8 := by rw [few8_len]; omega
  have hsh := few8_short (ls := l1)
  replace ht := hide ht
  replace w1 := hide w1
  go_enter Tryd.func6, Tryd.ntmps6
  go_wp2_with fail
  refine (works_any _ ht.out).mono ?_
  rintro e W1 ⟨rfl, B1⟩
  go_wp2_with fail
  refine (laid_any W1 a0 hx0 a1 len1 cap1 l1 (w1.out.kept B1 (Nat.le_refl _)) (ht.out.kept B1 hp)).mono ?_
  rintro e W2 ⟨am, cm, ab, nb, cb, rfl, hlt, HL, HB, B2⟩
  replace B2 := hide (B1.trans (B2.mono B1.size))
  clear B1
  generalize amongOf a0 1000000 = N at hlt HB
  generalize few8 l1 = fs at *
  have hnn : N + needL fs ≤ 4294967296 := by omega
  have hnb : nb = 256 * needL fs := by rw [← HB.hlen, secs_cut_len hby hnn]
  obtain ⟨T, hT⟩ : ∃ T, needL fs = T := ⟨_, rfl⟩
  rw [hT] at hnd hnb hnn
  replace HL := hide HL
  replace hby := hide hby
  replace hsh := hide hsh
  have hle := HB.le
  have hcb := HB.capb
  unfold maxLen at hcb
  replace HB := hide HB
  replace hT := hide hT
  by_cases h0 : nb = 0
  · subst h0
    clear hnb
    go_wp2_with fail
    go_ret
    exact ⟨rfl, B2.out⟩
  · have q1 : (nb : Int) / 256 = (T : Int) := by omega
    have q2 : ¬ ((nb : Int) = 0) := by omega
    replace hnb := hide hnb
    have ham := among_any a2 T hx2 (by have := hnb.out; omega) (by omega) W2
    generalize amongOf a2 T = k at ham
    replace ham := hide ham
    go_wp2_with (go_at_call 22; refine ham.out.mono ?_; rintro e W3 ⟨rfl, hk, hw3⟩; replace hw3 := hw3.symm; subst hw3)
    obtain ⟨m, hm⟩ : ∃ m, m = 256 * k := ⟨_, rfl⟩
    obtain ⟨m2, hm2⟩ : ∃ m2, m2 = m + 256 := ⟨_, rfl⟩
    have hnb2 := hnb.out
    obtain ⟨b, off, rfl, hbl, hcl⟩ := HB.out.cells (by omega)
    clear hcl
    have e1 : (256 : Int) * (k : Int) = (m : Int) := by omega
    have e2 : (m : Int) + 256 = (m2 : Int) := by omega
    have e3 : IntKind.i64.wrap (m : Int) = (m : Int) := by rw [IntKind.wrap_i64]; omega
    have e4 : IntKind.i64.wrap (m2 : Int) = (m2 : Int) := by rw [IntKind.wrap_i64]; omega
    have g1 : (m : Int) ≤ cb := by omega
    have g2 : (m2 : Int) ≤ nb := by omega
    have hok := cutAll_ok hby.out (show N + needL fs ≤ 4294967296 by rw [hT.out]; exact hnn)
    have hs1 := secs_take hok k
    have hs2 := secs_take hok (k + 1)
    rw [← hm] at hs1
    rw [show 256 * (k + 1) = m2 by omega] at hs2
    have H1 : Hid (Has W2.drew (some ⟨b, off, none⟩) m cb (secs ((cutAll N fs).take k))) := by
      have := HB.out.drew.front m (by omega)
      rwa [hs1.1] at this
    have H2 : Hid (∀ a6, a6 = (if cb = m2 then some ⟨b, off, none⟩ else some ⟨b, off + m2, none⟩) → ∀ W', Below W2.heap.size W2 W' → Has W' a6 (nb - m2) (cb - m2) (secs ((cutAll N fs).drop (k + 1)))) := by
      intro a6 ea W' hb
      by_cases hc : cb = m2
      · rw [if_pos hc] at ea
        subst ea
        obtain rfl : nb = m2 := by omega
        rw [hc, Nat.sub_self, ← hs2.2, List.drop_of_length_le (by rw [HB.out.hlen]; exact Nat.le_refl _)]
        exact ⟨rfl, Nat.le_refl _, Nat.zero_le _, (fun e => by cases e), (fun hp => by omega), fun x hx => by cases hx⟩
      · rw [if_neg hc] at ea
        subst ea
        have := HB.out.rest m2 (by omega)
        rw [hs2.2] at this
        exact this.kept hb (Nat.le_refl _)
    have hcall : Hid (Calls Tryd.prog 15 #[.slice (some ⟨b, off, none⟩) m cb] W2.drew (Ret W2.drew (secs ((cutAll N fs).take k)))) := bytes_any _ _ m cb _ H1.out (by omega)
    obtain ⟨a6, ha6⟩ : ∃ a6, a6 = (if cb = m2 then some (⟨b, off, none⟩ : Addr) else some ⟨b, off + m2, none⟩) := ⟨_, rfl⟩
    have H6 := hide (H2.out a6 ha6)
    clear H2 hs1 hs2 hok
    replace hm := hide hm
    replace hm2 := hide hm2
    replace hnb2 := hide hnb2
    replace ha6 := ha6.symm
    go_wp2_with fail
    go_region_held3 (fun _ => True) (first | trivial) (first
      | (go_at_call 15; refine hcall.out.mono ?_; rintro e W3 ⟨a3', n3, c3, rfl, H3, B3, R3⟩)
      | (refine step_app rfl (.tmp 41) (.tmp 46) rfl W2.heap.size _ n3 _ rfl R3 a6 (nb - m2) (cb - m2) _ rfl (H6.out _ (Below.ofdrew B3)) (by have := H3.hlen; have := H1.out.hlen; omega) (by have := B3.size; exact this) ?_; intro v4 W4 O4 G4))
    have hx3 : n3 = m := by have h1 := H3.hlen; have h2 := H1.out.hlen; omega
    subst hx3
    obtain ⟨ax, cx, ex, HX⟩ := has_of_owns O4 (Byts.app H3.bytes (H6.out _ (Below.ofdrew B3)).bytes)
    subst ex
    obtain ⟨nx, hnx⟩ : ∃ nx, n3 + (nb - m2) = nx := ⟨_, rfl⟩
    have hnx2 : nx ≤ 16777216 := by have := hnb.out; omega
    rw [hnx] at HX ⊢
    have B24 : Hid (Below W2.heap.size W2 W4) := (Below.ofdrew B3).grown G4 B3.size (fun q e => (R3.lt q e).1)
    have T4 : Hid (Below w.heap.size w W4) := B2.out.trans (B24.out.mono B2.out.size)
    have hr : Hid ((secs ((cutAll N fs).drop (k + 1))).length < 256 ∨ secs ((cutAll N fs).drop (k + 1)) = secs ((cutAll N fs).drop (k + 1))) := .inr rfl
    replace HX := hide HX
    replace hnx := hide hnx
    clear O4 G4 R3 B3 H3 e2 e4 ha6 H6 hcall g2
    cases a3 with
    | false =>
      go_wp2_with (go_at_call 16
                   refine (read_missing _ N ax nx cx fs k _ HX.out (by omega) hby.out (by rw [hT.out]; exact hnn) (by omega) (by rw [hT.out]; exact hk) hr.out (ht.out.kept T4.out hp)).mono ?_
                   rintro e W5 ⟨a5, c5, rfl, H5, B5⟩
                   obtain ⟨gl, hgl⟩ : ∃ gl, (fs.take (frontN k fs)).length = gl := ⟨_, rfl⟩
                   obtain ⟨gn, hgn⟩ : ∃ gn, needL (fs.take (frontN k fs)) = gn := ⟨_, rfl⟩
                   rw [hgl] at H5 ⊢
                   rw [hgn]
                   have T5 := hide (T4.out.trans (B5.mono T4.out.size))
                   have HL5 : HasL W5 am fs.length cm fs := (HL.out.kept B24.out (Nat.le_refl _)).kept B5 (Nat.le_refl _)
                   have hcells := hide HL5.cells
                   have hcapm := HL5.capb
                   have hlem := HL5.le
                   unfold maxLen at hcapm
                   replace H5 := hide H5
                   replace hgl := hide hgl
                   replace hgn := hide hgn
                   have ow0 := Outs.nil W5 W5.heap.size (Nat.le_refl _)
                   clear B5 HL5)
      go_loopw [16, 17, 18] (fun v ve i wr => ∃ (j q : Nat) (vs : List Value) (ao : Option Addr) (co : Nat), j ≤ fs.length ∧ q ≤ k ∧ v = .int .i64 (q : Int) ∧ ve = .slice ao j co ∧ i = .int .i64 (j : Int) ∧ Hid (q = needL (fs.take j)) ∧ Hid (wr.ownsRow W5.heap.size 24 1 (.slice ao j co) j vs) ∧ Hid (Vals W5 vs (fs.take j)) ∧ Hid (Below W5.heap.size W5 wr)) (fun _ _ i _ => fs.length - (intOf i).toNat)
      case atStart => exact ⟨0, 0, [], _, _, Nat.zero_le _, Nat.zero_le _, rfl, rfl, rfl, (by simp [needL] : (0 : Nat) = needL (fs.take 0)), ow0.row, (⟨rfl, fun i hi => by simp at hi⟩ : Vals W5 [] (fs.take 0)), (Below.refl _ W5).alloc (Nat.le_refl _) _⟩
      case round =>
        obtain ⟨j, q, vs, ao, co, hj, hq, rfl, rfl, rfl, hqe, hrow, hV, hB⟩ := hrel
        have fin : Hid (frontN k fs = j → Calls Tryd.prog 20 #[.slice a5 gl c5, .slice ao j co] wr fun e w' => e = .returned (.bool true) ∧ ∃ n, w' = wr.drewN n) := by
          intro hf
          have H5' := H5.out.kept hB.out (Nat.le_refl _)
          rw [hf] at H5'
          have hlj : (fs.take j).length = j := by simp; omega
          obtain ⟨a7, c7, e7, H7⟩ := hasL_of_vals (ls := fs.take j) (by rw [hlj]; exact hrow.out) (hV.out.kept hB.out (Nat.le_refl _))
          rw [hlj] at e7 H7
          cases e7
          have := sameL_any wr a5 ao gl j c5 co _ _ H5' H7
          rwa [show decide (fs.take j = fs.take j) = true by simp] at this
        by_cases hjl : j < fs.length
        · obtain ⟨bm, om, rfl, hbm, hcl⟩ := hcells.out (by omega)
          obtain ⟨ai, ni, ci, hc, hHi⟩ := hcl j hjl
          have i1 : (j : Int) < (fs.length : Int) := by omega
          have c0 : wr.cell? ⟨bm, om + j, none⟩ = some (.slice ai ni ci) := (hB.out.cell (p := ⟨bm, om + j, none⟩) hbm).trans hc
          have hni := hHi.hlen
          have hnc := hHi.le
          have hn6 : ni ≤ 600 := by
            have e : fs.getD j [] = fs[j] := by simp [List.getD, List.getElem?_eq_getElem hjl]
            rw [← hni, e]
            exact hsh.out _ (List.getElem_mem _)
          obtain ⟨nd, hnd2⟩ : ∃ nd, (if 1 < (ni + 243) / 244 then (ni + 243) / 244 else 1) = nd := ⟨_, rfl⟩
          have hnew : needL (fs.take (j + 1)) = q + nd := by
            rw [needL_take hjl, ← hqe.out, needR_eq _ ni hni, ← hnd2]
            split <;> omega
          have e5 : (if (1 : Int) < ((ni : Int) + 243) / 244 then ((ni : Int) + 243) / 244 else 1) = (nd : Int) := by rw [← hnd2]; split <;> split <;> omega
          have hndb : (nd : Int) ≤ 600 := by rw [← e5]; split <;> omega
          have hV2 : Hid (Vals W5 (vs ++ [.slice ai ni ci]) (fs.take (j + 1))) := by rw [take_snoc hjl]; exact hV.out.snoc hHi
          replace hnew := hide hnew
          replace hnd2 := hide hnd2
          clear hcl hHi hc hni
          by_cases hbr : k < q + nd
          · have i2 : (k : Int) < (q : Int) + (nd : Int) := by omega
            have hf : frontN k fs = j := (front_once hj (by rw [← hqe.out]; exact hq) (fun _ => by rw [hnew.out]; exact hbr)).symm
            obtain rfl : gn = q := by rw [← hgn.out, hf, hqe.out]
            have hsame := hide (fin.out hf)
            clear hf fin
            go_wp2_with (go_at_call 20; refine hsame.out.mono ?_; rintro e W7 ⟨rfl, n7, hW7⟩; subst hW7)
            go_ret
            exact ⟨rfl, below_drewsN (T5.out.trans (hB.out.mono T5.out.size)) _⟩
          · have i2 : ¬ ((k : Int) < (q : Int) + (nd : Int)) := by omega
            have z5 := hB.out.size
            have hZ : Hid (W5.heap.size ≤ (wr.alloc (.cells #[.slice ai ni ci] 24)).heap.size) := by show _ ≤ _; simp; omega
            clear fin
            go_wp2_with (first
              | (refine wpList_app1 rfl (.tmp 87) (.tmp 92) rfl W5.heap.size _ j vs rfl (hrow.out.alloc _) wr.heap.size 1 _ rfl (cell_new_l wr _ 24).1 rfl (by omega) hZ.out ?_
                 intro v8 W8 O8 G8
                 have B8 := hide ((hB.out.alloc hB.out.size _).grown G8 hZ.out (fun q e => (hrow.out.lt q e).1))
                 obtain ⟨a8, c8, e8⟩ := slice_of_owns O8
                 subst e8
                 replace O8 := hide O8
                 clear G8))
            go_roundw
            case rel => exact ⟨j + 1, q + nd, _, a8, c8, by omega, by omega, by go_num, rfl, by go_num, hnew.out.symm, O8, hV2, B8⟩
            case measure => simp [intOf]; omega
        · obtain rfl : j = fs.length := by omega
          have hf : frontN k fs = fs.length := (front_once hj (by rw [← hqe.out]; exact hq) (fun h => by omega)).symm
          obtain rfl : gn = q := by rw [← hgn.out, hf, hqe.out]
          have hsame := hide (fin.out hf)
          clear hf fin
          go_wp2_with (go_at_call 20; refine hsame.out.mono ?_; rintro e W7 ⟨rfl, n7, hW7⟩; subst hW7)
          go_ret
          exact ⟨rfl, below_drewsN (T5.out.trans (hB.out.mono T5.out.size)) _⟩
    | true =>
      have ham2 := among_any a2 256 hx2 (by omega) (by omega) W4
      generalize amongOf a2 256 = k2 at ham2
      replace ham2 := hide ham2
      clear hr HX hnx hnx2
      go_wp2_with (first
        | (go_at_call 22
           refine ham2.out.mono ?_
           rintro e W9 ⟨rfl, hk2, hw9⟩
           replace hw9 := hw9.symm
           subst hw9
           obtain ⟨m3, hm3⟩ : ∃ m3, n3 + k2 = m3 := ⟨_, rfl⟩
           have e6 : (n3 : Int) + (k2 : Int) = (m3 : Int) := by omega
           have g3 : (m3 : Int) ≤ cb := by have := hm2.out; omega
           have hm3b : m3 ≤ nb := by have := hm2.out; have := hnb.out; have := hm.out; omega
           have H9 : Hid (Has W4 (some ⟨b, off, none⟩) m3 cb (secs ((cutAll N fs).take k) ++ (secs ((cutAll N fs).drop k)).take k2)) := by
             have h9 := (HB.out.kept B24.out (Nat.le_refl _)).front m3 hm3b
             have hok := cutAll_ok hby.out (show N + needL fs ≤ 4294967296 by rw [hT.out]; exact hnn)
             have hs1 := secs_take hok k
             rw [← hm.out] at hs1
             rw [← hm3, List.take_add, hs1.1, hs1.2, hm3] at h9
             exact h9
           replace hm3 := hide hm3)
        | (go_at_call 15
           refine (bytes_any W4 _ m3 cb _ H9.out (by omega)).mono ?_
           rintro e W10 ⟨ax, nx, cx, rfl, HX, B10, -⟩
           have hnx2 : nx ≤ 16777216 := by have h1 := HX.hlen; have h2 := H9.out.hlen; have := hnb.out; omega
           replace HX := hide HX
           replace B24 : Hid (Below W2.heap.size W2 W10) := B24.out.trans (B10.mono B24.out.size)
           replace T4 : Hid (Below w.heap.size w W10) := T4.out.trans (B10.mono T4.out.size)
           have hr : Hid (((secs ((cutAll N fs).drop k)).take k2).length < 256 ∨ (secs ((cutAll N fs).drop k)).take k2 = secs ((cutAll N fs).drop (k + 1))) := .inl (by simp; omega)
           clear B10 H9)
        | fail)
      refine (read_missing _ N ax nx cx fs k _ HX.out (by omega) hby.out (by rw [hT.out]; exact hnn) (by omega) (by rw [hT.out]; exact hk) hr.out (ht.out.kept T4.out hp)).mono ?_
      rintro e W5 ⟨a5, c5, rfl, H5, B5⟩
      obtain ⟨gl, hgl⟩ : ∃ gl, (fs.take (frontN k fs)).length = gl := ⟨_, rfl⟩
      obtain ⟨gn, hgn⟩ : ∃ gn, needL (fs.take (frontN k fs)) = gn := ⟨_, rfl⟩
      rw [hgl] at H5 ⊢
      rw [hgn]
      have T5 := hide (T4.out.trans (B5.mono T4.out.size))
      have HL5 : HasL W5 am fs.length cm fs := (HL.out.kept B24.out (Nat.le_refl _)).kept B5 (Nat.le_refl _)
      have hcells := hide HL5.cells
      have hcapm := HL5.capb
      have hlem := HL5.le
      unfold maxLen at hcapm
      replace H5 := hide H5
      replace hgl := hide hgl
      replace hgn := hide hgn
      have ow0 := Outs.nil W5 W5.heap.size (Nat.le_refl _)
      clear B5 HL5
      go_wp2_with fail
      go_loopw [16, 17, 18] (fun v ve i wr => ∃ (j q : Nat) (vs : List Value) (ao : Option Addr) (co : Nat), j ≤ fs.length ∧ q ≤ k ∧ v = .int .i64 (q : Int) ∧ ve = .slice ao j co ∧ i = .int .i64 (j : Int) ∧ Hid (q = needL (fs.take j)) ∧ Hid (wr.ownsRow W5.heap.size 24 1 (.slice ao j co) j vs) ∧ Hid (Vals W5 vs (fs.take j)) ∧ Hid (Below W5.heap.size W5 wr)) (fun _ _ i _ => fs.length - (intOf i).toNat)
      case atStart => exact ⟨0, 0, [], _, _, Nat.zero_le _, Nat.zero_le _, rfl, rfl, rfl, (by simp [needL] : (0 : Nat) = needL (fs.take 0)), ow0.row, (⟨rfl, fun i hi => by simp at hi⟩ : Vals W5 [] (fs.take 0)), (Below.refl _ W5).alloc (Nat.le_refl _) _⟩
      case round =>
        obtain ⟨j, q, vs, ao, co, hj, hq, rfl, rfl, rfl, hqe, hrow, hV, hB⟩ := hrel
        have fin : Hid (frontN k fs = j → Calls Tryd.prog 20 #[.slice a5 gl c5, .slice ao j co] wr fun e w' => e = .returned (.bool true) ∧ ∃ n, w' = wr.drewN n) := by
          intro hf
          have H5' := H5.out.kept hB.out (Nat.le_refl _)
          rw [hf] at H5'
          have hlj : (fs.take j).length = j := by simp; omega
          obtain ⟨a7, c7, e7, H7⟩ := hasL_of_vals (ls := fs.take j) (by rw [hlj]; exact hrow.out) (hV.out.kept hB.out (Nat.le_refl _))
          rw [hlj] at e7 H7
          cases e7
          have := sameL_any wr a5 ao gl j c5 co _ _ H5' H7
          rwa [show decide (fs.take j = fs.take j) = true by simp] at this
        by_cases hjl : j < fs.length
        · obtain ⟨bm, om, rfl, hbm, hcl⟩ := hcells.out (by omega)
          obtain ⟨ai, ni, ci, hc, hHi⟩ := hcl j hjl
          have i1 : (j : Int) < (fs.length : Int) := by omega
          have c0 : wr.cell? ⟨bm, om + j, none⟩ = some (.slice ai ni ci) := (hB.out.cell (p := ⟨bm, om + j, none⟩) hbm).trans hc
          have hni := hHi.hlen
          have hnc := hHi.le
          have hn6 : ni ≤ 600 := by
            have e : fs.getD j [] = fs[j] := by simp [List.getD, List.getElem?_eq_getElem hjl]
            rw [← hni, e]
            exact hsh.out _ (List.getElem_mem _)
          obtain ⟨nd, hnd2⟩ : ∃ nd, (if 1 < (ni + 243) / 244 then (ni + 243) / 244 else 1) = nd := ⟨_, rfl⟩
          have hnew : needL (fs.take (j + 1)) = q + nd := by
            rw [needL_take hjl, ← hqe.out, needR_eq _ ni hni, ← hnd2]
            split <;> omega
          have e5 : (if (1 : Int) < ((ni : Int) + 243) / 244 then ((ni : Int) + 243) / 244 else 1) = (nd : Int) := by rw [← hnd2]; split <;> split <;> omega
          have hndb : (nd : Int) ≤ 600 := by rw [← e5]; split <;> omega
          have hV2 : Hid (Vals W5 (vs ++ [.slice ai ni ci]) (fs.take (j + 1))) := by rw [take_snoc hjl]; exact hV.out.snoc hHi
          replace hnew := hide hnew
          replace hnd2 := hide hnd2
          clear hcl hHi hc hni
          by_cases hbr : k < q + nd
          · have i2 : (k : Int) < (q : Int) + (nd : Int) := by omega
            have hf : frontN k fs = j := (front_once hj (by rw [← hqe.out]; exact hq) (fun _ => by rw [hnew.out]; exact hbr)).symm
            obtain rfl : gn = q := by rw [← hgn.out, hf, hqe.out]
            have hsame := hide (fin.out hf)
            clear hf fin
            go_wp2_with (go_at_call 20; refine hsame.out.mono ?_; rintro e W7 ⟨rfl, n7, hW7⟩; subst hW7)
            go_ret
            exact ⟨rfl, below_drewsN (T5.out.trans (hB.out.mono T5.out.size)) _⟩
          · have i2 : ¬ ((k : Int) < (q : Int) + (nd : Int)) := by omega
            have z5 := hB.out.size
            have hZ : Hid (W5.heap.size ≤ (wr.alloc (.cells #[.slice ai ni ci] 24)).heap.size) := by show _ ≤ _; simp; omega
            clear fin
            go_wp2_with (first
              | (refine wpList_app1 rfl (.tmp 87) (.tmp 92) rfl W5.heap.size _ j vs rfl (hrow.out.alloc _) wr.heap.size 1 _ rfl (cell_new_l wr _ 24).1 rfl (by omega) hZ.out ?_
                 intro v8 W8 O8 G8
                 have B8 := hide ((hB.out.alloc hB.out.size _).grown G8 hZ.out (fun q e => (hrow.out.lt q e).1))
                 obtain ⟨a8, c8, e8⟩ := slice_of_owns O8
                 subst e8
                 replace O8 := hide O8
                 clear G8))
            go_roundw
            case rel => exact ⟨j + 1, q + nd, _, a8, c8, by omega, by omega, by go_num, rfl, by go_num, hnew.out.symm, O8, hV2, B8⟩
            case measure => simp [intOf]; omega
        · obtain rfl : j = fs.length := by omega
          have hf : frontN k fs = fs.length := (front_once hj (by rw [← hqe.out]; exact hq) (fun h => by omega)).symm
          obtain rfl : gn = q := by rw [← hgn.out, hf, hqe.out]
          have hsame := hide (fin.out hf)
          clear hf fin
          go_wp2_with (go_at_call 20; refine hsame.out.mono ?_; rintro e W7 ⟨rfl, n7, hW7⟩; subst hW7)
          go_ret
          exact ⟨rfl, below_drewsN (T5.out.trans (hB.out.mono T5.out.size)) _⟩
end Go.Proofs.YtbaclihlckfndaaDoor
