/-
  The walk of the statement FrameBack.
-/
import Derived.Test.YtbaclihlckfndaaDoorAD
namespace Go.Proofs.YtbaclihlckfndaaDoor
open Go.RowKit Go.Shelf
set_option linter.unusedVariables false

set_option maxRecDepth 100000 in
set_option maxHeartbeats 4000000 in
theorem back_walk (a0 : Int) (a1 : Option Addr) (len1 cap1 : Nat) (l1 : List (List Int)) (a2 : Option Addr) (len2 cap2 : Nat) (l2 : List Int) (w : World) (ht : Tab w) (w0 : (Lit.int .i64 a0).wf = true) (w1 : HasL w a1 len1 cap1 l1) (w2 : Has w a2 len2 cap2 l2) :
    Calls Tryd.prog 5 #[.int .i64 a0, .slice a1 len1 cap1, .slice a2 len2 cap2] w fun e w' => e = .returned (.bool true) ∧ Below w.heap.size w w' := by
  have hp := ht.pos
  have hx0 := wf_i64 w0
  have hby := few8_byts w1.byts
  have hnd := few8_need l1
  have hl2 := w2.hlen
  have hle2 := w2.le
  have hcap2 := w2.capb
  unfold maxLen at hcap2
  obtain ⟨k, hk⟩ : ∃ k, min len2 600 = k := ⟨_, rfl⟩
  have ek : (if (600 : Int) < (len2 : Int) then 600 else (len2 : Int)) = (k : Int) := by split <;> omega
  have hk6 : k ≤ 600 := by omega
  have hkc : (k : Int) ≤ cap2 := by omega
  have H2 : Hid (Has w a2 k cap2 (l2.take k)) := w2.front k (by omega)
  replace ht := hide ht
  replace w1 := hide w1
  replace w2 := hide w2
  replace hk := hide hk
  generalize l2.take k = ms at H2
  go_enter Tryd.func5, Tryd.ntmps5
  go_wp2_with fail
  refine (works_any _ ht.out).mono ?_
  rintro e W1 ⟨rfl, B1⟩
  go_wp2_with fail
  refine (laid_any W1 a0 hx0 a1 len1 cap1 l1 (w1.out.kept B1 (Nat.le_refl _)) (ht.out.kept B1 hp)).mono ?_
  rintro e W2 ⟨am, cm, ab, nb, cb, rfl, hlt, HL, HB, B2⟩
  replace B2 := hide (B1.trans (B2.mono B1.size))
  clear B1
  generalize amongOf a0 1000000 = N at hlt HB
  generalize few8 l1 = fs at *
  have hnn : N + needL fs ≤ 4294967296 := by omega
  have hnb : nb = 256 * needL fs := by rw [← HB.hlen, secs_cut_len hby hnn]
  obtain ⟨T, hT⟩ : ∃ T, needL fs = T := ⟨_, rfl⟩
  rw [hT] at hnd hnb hnn
  have q1 : (nb : Int) / 256 = (T : Int) := by omega
  have q2 : (nb : Int) % 256 = 0 := by omega
  have hnb2 : nb ≤ 10000 := by omega
  replace HL := hide HL
  replace hby := hide hby
  replace HB := hide HB
  replace hT := hide hT
  replace hnb := hide hnb
  have hfirst := hide (rfirst_any W2 a2 k cap2 ms (H2.out.kept B2.out (Nat.le_refl _)))
  go_wp2_with fail
  refine hfirst.out.mono ?_
  rintro e W3 ⟨n3, s3, f3, er, rfl, hq, B23⟩
  replace hq := hide hq
  have T3 := hide (B2.out.trans (B23.mono B2.out.size))
  have hcall := hide (bytes_any W3 ab nb cb _ (HB.out.kept B23 (Nat.le_refl _)) (by omega))
  replace B23 := hide B23
  clear hfirst
  by_cases hcase : er = 0 ∧ n3 = (N : Int) + (T : Int)
  · obtain ⟨rfl, rfl⟩ := hcase
    go_wp2_with fail
    go_ret
    exact ⟨rfl, T3.out⟩
  · have hno : Hid (¬ ∃ q, Next (N + needL fs) false ms q) := fun ⟨q, hb, hn, _⟩ => by
      obtain ⟨h1, h2⟩ := hq.out q hb
      refine hcase ⟨h1, ?_⟩
      rw [h2, hn, hT.out]
      omega
    rcases (show er ≠ 0 ∨ (er = 0 ∧ ¬ n3 = (N : Int) + (T : Int)) by omega) with her | ⟨rfl, hn3⟩
    · clear hcase
      go_wp2_with (first
        | (go_at_call 15
           refine hcall.out.mono ?_
           rintro e W4 ⟨a4, n4, c4, rfl, H4, B4, R4⟩
           have hn4 : n4 ≤ 10000 := by have h1 := H4.hlen; have h2 := HB.out.hlen; omega
           have hb4 := hide H4.bytes
           have T34 := hide B4
           replace R4 := hide R4
           have Hm := hide ((H2.out.kept T3.out (Nat.le_refl _)).kept B4 (Nat.le_refl _))
           clear B4 H4)
        | (at_builtin
           refine wpList_app rfl (.tmp 51) (.tmp 52) rfl W3.heap.size _ n4 _ rfl R4.out a2 k cap2 ms rfl Hm.out (by omega) T34.out.size ?_
           intro v5 W5 O5 G5
           have B5 := hide ((T34.out).grown G5 T34.out.size (fun q e => (R4.out.lt q e).1))
           have T5 := hide (T3.out.trans (B5.out.mono T3.out.size))
           obtain ⟨a5, c5, e5, H5⟩ := has_of_owns O5 (Byts.app hb4.out Hm.out.bytes)
           subst e5
           replace H5 := hide H5
           clear G5 O5)
        | (go_at_call 16
           refine (read_back W5 N a5 (n4 + k) c5 fs ms H5.out (by omega) hby.out (by rw [hT.out]; exact hnn) (by omega) hno.out (ht.out.kept T5.out hp)).mono ?_
           rintro e W6 ⟨a6, c6, rfl, H6, B6⟩
           have T6 := hide (T5.out.trans (B6.mono T5.out.size))
           have hsame := sameL_any W6 a6 am _ _ c6 cm fs fs H6 (((HL.out.kept B23.out (Nat.le_refl _)).kept B5.out (Nat.le_refl _)).kept B6 (Nat.le_refl _))
           rw [show decide (fs = fs) = true by simp] at hsame
           replace hsame := hide hsame
           rw [hT.out]
           clear H6 B6)
        | (go_at_call 20; refine hsame.out.mono ?_; rintro e W7 ⟨rfl, n7, hW7⟩; subst hW7))
      go_ret
      exact ⟨rfl, below_drewsN T6.out _⟩
    · clear hcase
      go_wp2_with (first
        | (go_at_call 15
           refine hcall.out.mono ?_
           rintro e W4 ⟨a4, n4, c4, rfl, H4, B4, R4⟩
           have hn4 : n4 ≤ 10000 := by have h1 := H4.hlen; have h2 := HB.out.hlen; omega
           have hb4 := hide H4.bytes
           have T34 := hide B4
           replace R4 := hide R4
           have Hm := hide ((H2.out.kept T3.out (Nat.le_refl _)).kept B4 (Nat.le_refl _))
           clear B4 H4)
        | (at_builtin
           refine wpList_app rfl (.tmp 51) (.tmp 52) rfl W3.heap.size _ n4 _ rfl R4.out a2 k cap2 ms rfl Hm.out (by omega) T34.out.size ?_
           intro v5 W5 O5 G5
           have B5 := hide ((T34.out).grown G5 T34.out.size (fun q e => (R4.out.lt q e).1))
           have T5 := hide (T3.out.trans (B5.out.mono T3.out.size))
           obtain ⟨a5, c5, e5, H5⟩ := has_of_owns O5 (Byts.app hb4.out Hm.out.bytes)
           subst e5
           replace H5 := hide H5
           clear G5 O5)
        | (go_at_call 16
           refine (read_back W5 N a5 (n4 + k) c5 fs ms H5.out (by omega) hby.out (by rw [hT.out]; exact hnn) (by omega) hno.out (ht.out.kept T5.out hp)).mono ?_
           rintro e W6 ⟨a6, c6, rfl, H6, B6⟩
           have T6 := hide (T5.out.trans (B6.mono T5.out.size))
           have hsame := sameL_any W6 a6 am _ _ c6 cm fs fs H6 (((HL.out.kept B23.out (Nat.le_refl _)).kept B5.out (Nat.le_refl _)).kept B6 (Nat.le_refl _))
           rw [show decide (fs = fs) = true by simp] at hsame
           replace hsame := hide hsame
           rw [hT.out]
           clear H6 B6)
        | (go_at_call 20; refine hsame.out.mono ?_; rintro e W7 ⟨rfl, n7, hW7⟩; subst hW7))
      go_ret
      exact ⟨rfl, below_drewsN T6.out _⟩
end Go.Proofs.YtbaclihlckfndaaDoor
