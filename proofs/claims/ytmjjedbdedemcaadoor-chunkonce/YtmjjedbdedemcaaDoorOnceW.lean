/-
  The walk of ChunkOnce.
-/
import Derived.Test.YtmjjedbdedemcaaDoorTO
namespace Go.Proofs.YtmjjedbdedemcaaDoor
open Go.RowKit
set_option linter.unusedVariables false
set_option linter.unusedSimpArgs false

set_option maxHeartbeats 2000000 in
set_option maxRecDepth 100000 in
theorem once_walk (a : Option Addr) (len cap : Nat) (l0 : List Int) (w : World) (hT : Tabs w) (H0 : Has w a len cap l0) :
    Calls Tryd.prog 4 #[.slice a len cap] w fun e w' => e = .returned (.bool true) ∧ Below w.heap.size w w' := by
  obtain ⟨m, hm⟩ : ∃ m, min len 600 = m := ⟨_, rfl⟩
  have hml : m ≤ len := by omega
  have hle := H0.le
  have hcap := H0.capb
  unfold maxLen at hcap
  have H := H0.front m hml
  generalize l0.take m = l at H
  have hbl : m ≤ 600 := by omega
  have W0 := hide (works_any w hT)
  have i1 : (m : Int) ≤ (cap : Int) := by omega
  have i1' : (m : Int) ≤ (len : Int) := by omega
  have i2 : (if (600 : Int) < (len : Int) then (600 : Int) else (len : Int)) = (m : Int) := by split <;> omega
  have i3 : (if 600 < len then (600 : Int) else (len : Int)) = (m : Int) := by split <;> omega
  have hlm := H.hlen
  replace hT := hide hT
  replace H0 := hide H0
  replace hm := hide hm
  cases hr : rdc l 0 with
  | none =>
    have RD := hide (fun w' B => cRead_no w' a m cap l 0 (H.kept B (Nat.le_refl _)) (hT.out.below B) (by omega) (by omega) hr)
    simp only [show ((0 : Nat) : Int) = 0 from rfl] at RD
    replace H := hide H
    clear hr
    go_enter Tryd.func4, Tryd.ntmps4
    go_wp2_with fail
    refine W0.out.mono ?_
    rintro e w1 ⟨rfl, b1⟩
    replace b1 := hide b1
    clear W0
    go_wp2_with fail
    refine (RD.out w1 b1.out).mono ?_
    rintro e w2 ⟨er, her, rfl, b2⟩
    have B2 := hide (b1.out.trans (b2.mono b1.out.size))
    have hbe : (er != 0) = true := by rw [bne_iff_ne]; exact her
    clear RD b1 b2
    go_wp2_with fail
    go_ret
    exact ⟨rfl, B2.out⟩
  | some r =>
    obtain ⟨ss, c⟩ := r
    obtain ⟨hf, -, hc, hI⟩ := rdc_ok H.bytes (by omega) hr
    simp only [List.drop_zero, Nat.sub_zero] at hI
    have RD := hide (fun w' B => cRead_ok w' a m cap l 0 (H.kept B (Nat.le_refl _)) (hT.out.below B) (by omega) (by omega) hr)
    simp only [show ((0 : Nat) : Int) = 0 from rfl] at RD
    have j1 : (c : Int) ≤ (m : Int) := by omega
    have j2 : (c : Int) ≤ (cap : Int) := by omega
    have j3 : (0 : Int) ≤ (c : Int) := by omega
    replace hf := hide hf
    replace hI := hide hI
    replace H := hide H
    replace hc := hide hc
    clear hr
    go_enter Tryd.func4, Tryd.ntmps4
    go_wp2_with fail
    refine W0.out.mono ?_
    rintro e w1 ⟨rfl, b1⟩
    replace b1 := hide b1
    clear W0
    go_wp2_with fail
    refine (RD.out w1 b1.out).mono ?_
    rintro e w2 ⟨ad, cp, rfl, HS, b2⟩
    have B2 := hide (b1.out.trans (b2.mono b1.out.size))
    have PU := hide (cPut_ok w2 ad ss.length cp ss HS (hT.out.below B2.out) hf.out)
    clear RD b1 b2 HS
    go_wp2_with fail
    refine PU.out.mono ?_
    rintro e w3 ⟨c3, a3, n3, cap3, hc3, rfl, H3, b3⟩
    have B3 := hide (B2.out.trans (b3.mono B2.out.size))
    have SB := hide (same_yes w3 a3 a n3 c cap3 cap c3 (l.take c) H3 ((H.out.kept B3.out (Nat.le_refl _)).front c (by have := hc.out; omega)) (hc3.same hI.out))
    clear PU b3 B2 H3 hc3
    go_wp2_with fail
    refine SB.out.mono ?_
    rintro e w4 ⟨rfl, rfl⟩
    clear SB
    go_wp2_with fail
    go_ret
    exact ⟨rfl, B3.out⟩
end Go.Proofs.YtmjjedbdedemcaaDoor
