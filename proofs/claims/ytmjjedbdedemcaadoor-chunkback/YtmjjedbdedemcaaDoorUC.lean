/-
  The walk of Join.
-/
import Derived.Test.YtmjjedbdedemcaaDoorUB
namespace Go.Proofs.YtmjjedbdedemcaaDoor
open Go.RowKit
set_option linter.unusedVariables false
set_option linter.unusedSimpArgs false

theorem isC_len {ss : List Sm} {c : List Int} (h : IsC ss c) (hf : Fit ss) : c.length ≤ 1000000 := by
  obtain ⟨B, hB, rfl⟩ := h
  have h1 := bits_len hB hf
  have h2 := chunkB_len ss.length B
  have h3 := enc_len ss.length
  have h4 := enc_len B.length
  omega
theorem take_piece (R : List Sm) (j : Nat) : R.take (120 * (j + 1)) = R.take (120 * j) ++ piece R (120 * j) 120 := by
  unfold piece
  rw [show 120 * (j + 1) = 120 * j + 120 by omega, List.take_add]
/-- What holds between rounds of Join. -/
structure JI (w : World) (R : List Sm) (j : Nat) (ao : Option Addr) (m co : Nat) (wr : World) : Prop where
  own : wr.ownsRow w.heap.size 50 2 (.slice ao m co) m (flat ((R.take (120 * j)).map up))
  len : (R.take (120 * j)).length = m
  bel : Below w.heap.size w wr

set_option maxRecDepth 100000 in
set_option maxHeartbeats 4000000 in
theorem join_any (w : World) (R : List Sm) (hu : Up (R.map up)) (hb : ∀ s ∈ R, s.1 ≤ 40000000 ∧ s.2 < 18446744073709551616) (hR : R.length ≤ 100000) (cs : List (List Int)) (hC : Cuts R cs) (a : Option Addr) (k cap : Nat) (h : HasL w a k cap cs) (hT : Tabs w) :
    Calls Tryd.prog 9 #[.slice a k cap] w fun e w' => ∃ ad cp, e = .returned (.tuple #[.slice ad R.length cp, .int .i64 0]) ∧ HasS w' ad R.length cp (R.map up) ∧ Below w.heap.size w w' := by
  obtain ⟨k', hk', hk1, hk2, hIs⟩ := hC
  obtain rfl : k' = k := by rw [← hk']; exact h.hlen
  have hcap := h.capb
  have hle := h.le
  unfold maxLen at hcap
  have hRv : Hid (∀ s ∈ R.map up, s.2 < 18446744073709551616) := fun s hs => by
    obtain ⟨t, ht, rfl⟩ := List.mem_map.1 hs
    exact (hb t ht).2
  replace h := hide h
  replace hu := hide hu
  replace hb := hide hb
  replace hT := hide hT
  replace hIs := hide hIs
  replace hk' := hide hk'
  go_enter Tryd.func9, Tryd.ntmps9
  go_wp2_with fail
  go_loopw [4, 5, 7, 8, 9, 10, 13] (fun ov fv _ _ _ _ iv wr => ∃ (j m : Nat) (ao : Option Addr) (co : Nat), j ≤ k' ∧ m ≤ R.length ∧ ov = .slice ao m co ∧ fv = .bool false ∧ iv = .int .i64 (j : Int) ∧ Hid (JI w R j ao m co wr)) (fun _ _ _ _ _ _ iv _ => k' - (intOf iv).toNat)
  case atStart => exact ⟨0, 0, none, 0, Nat.zero_le _, Nat.zero_le _, rfl, rfl, rfl, (⟨by simp; exact ⟨rfl, .inl ⟨rfl, rfl⟩⟩, by simp, Below.refl _ _⟩ : JI w R 0 none 0 0 w)⟩
  case round =>
    obtain ⟨j, m, ao, co, hj, hm, rfl, rfl, rfl, hI⟩ := hrel
    by_cases hjk : j < k'
    · have j1 : (j : Int) < (k' : Int) := by omega
      obtain ⟨b, off, rfl, hbl, hcs⟩ := h.out.cells (by omega)
      obtain ⟨ai, ni, ci, c0, Hc⟩ := hcs j hjk
      have hic := hIs.out j hjk
      have hpl : 120 * j + min 120 (R.length - 120 * j) ≤ R.length ∧ 1 ≤ min 120 (R.length - 120 * j) ∧ min 120 (R.length - 120 * j) ≤ 120 := by omega
      have hfit : Fit (piece R (120 * j) 120) := by
        have := fit_piece hu.out hb.out hpl
        rwa [piece_min] at this
      generalize hcj : cs.getD j [] = c at *
      have hcl := isC_len hic hfit
      have hrd := rdc_of hic hfit [] []
      simp only [List.nil_append, List.append_nil, List.length_nil, Nat.zero_add] at hrd
      have hni := Hc.hlen
      rw [hni] at hrd
      have c1 := (hI.out.bel.cell (p := ⟨b, off + j, none⟩) hbl).trans c0
      have RD := cRead_ok wr ai ni ci c 0 (Hc.kept hI.out.bel (Nat.le_refl _)) (hT.out.below hI.out.bel) (by omega) (by omega) hrd
      simp only [show ((0 : Nat) : Int) = 0 from rfl] at RD
      have hnew := take_piece R j
      have hpl2 : (piece R (120 * j) 120).length ≤ R.length - m := by
        have h1 := congrArg List.length hnew
        have h2 := hI.out.len
        simp at h1 h2 ⊢
        simp [piece]
        omega
      generalize piece R (120 * j) 120 = pc at *
      replace RD := hide RD
      replace hnew := hide hnew
      have j2 : ¬ (ni : Int) < (ni : Int) := by omega
      clear hic hfit hrd hni hcl hcs c0 Hc hpl hcj
      go_wp2_with fail
      refine RD.out.mono ?_
      rintro e w2 ⟨ap, cp, rfl, HP, b2⟩
      have bb2 := hide (hI.out.bel.trans (b2.mono hI.out.bel.size))
      have OO : Hid (w2.ownsRow w.heap.size 50 2 (.slice ao m co) m (flat ((R.take (120 * j)).map up))) := hI.out.own.kept (row := none) ⟨b2.os, b2.tape, b2.output, b2.size, fun i hi _ => b2.block i hi⟩ (by
        cases e : (Value.slice ao m co).ownBlock with
        | none => exact .inl rfl
        | some g => exact .inr (by simp))
      have fin : ∀ (w3 : World) (v3 : Value), w3.ownsRow w.heap.size 50 2 v3 (m + pc.length) (flat ((R.take (120 * j)).map up ++ pc.map up)) → w2.grownBy w3 (Value.slice ao m co).ownBlock → ∃ a3 c3, v3 = .slice a3 (m + pc.length) c3 ∧ JI w R (j + 1) a3 (m + pc.length) c3 w3 := fun w3 v3 O3 G3 => by
        obtain ⟨a3, c3, e3⟩ := slice_of_owns O3
        subst e3
        refine ⟨a3, c3, rfl, ?_, ?_, bb2.out.grown G3 bb2.out.size (fun q e => (OO.out.lt q e).1)⟩
        · rw [hnew.out, List.map_append]; exact O3
        · rw [hnew.out, List.length_append, hI.out.len]
      replace fin := hide fin
      have hsz := hide bb2.out.size
      replace HP := hide HP
      clear RD b2 hI c1
      go_wp2_with (at_builtin; refine wpList_appS rfl (.tmp 33) (.tmp 34) rfl w.heap.size _ m _ rfl OO.out _ pc.length _ (pc.map up) rfl HP.out (by omega) hsz.out ?_; intro v3 w3 O3 G3; obtain ⟨a3, c3, e3, I3⟩ := fin.out w3 v3 O3 G3; subst e3; replace I3 := hide I3; clear O3 G3 OO HP fin bb2 hsz)
      go_roundw
      case rel => exact ⟨j + 1, m + pc.length, a3, c3, by omega, by omega, rfl, rfl, by go_num, I3⟩
      case measure => simp [intOf]; omega
    · obtain rfl : j = k' := by omega
      have hfull : R.take (120 * j) = R := List.take_of_length_le (by omega)
      have O := hI.out.own
      have hml := hI.out.len
      rw [hfull] at O hml
      obtain ⟨a3, c3, e3, H3⟩ := hasS_of_owns O hRv.out
      cases e3
      have RI := hide (rise_up wr ao m co (R.map up) H3 hu.out)
      have fin : Hid (∀ d, HasS (wr.drewN d) ao m co (R.map up) ∧ Below w.heap.size w (wr.drewN d)) := fun d => ⟨H3.kept (below_drewN (Below.refl _ _) d) (Nat.le_refl _), below_drewN hI.out.bel d⟩
      replace hml := hide hml
      clear O H3 hfull
      go_wp2_with fail
      refine RI.out.mono ?_
      rintro e w2 ⟨rfl, d, rfl⟩
      have F2 := hide (fin.out d)
      generalize wr.drewN d = w2 at *
      clear RI fin
      go_wp2_with fail
      go_ret2
      exact ⟨ao, co, by rw [hml.out]; rfl, by rw [hml.out]; exact F2.out.1, F2.out.2⟩
end Go.Proofs.YtmjjedbdedemcaaDoor
