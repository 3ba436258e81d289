/-
  SyntaxQuotes' walk.
-/
import Derived.Test.YtnbhpojcckhlmaaDoorQG
namespace Go.Proofs.YtnbhpojcckhlmaaDoor
open Go.RowKit Go.Shelf Go.Lib
set_option linter.unusedVariables false
set_option linter.unusedSimpArgs false

theorem back_str (s : ByteArray) : (⟨s.data.toList.toArray⟩ : ByteArray) = s := by cases s; simp
set_option maxHeartbeats 8000000 in
set_option maxRecDepth 100000 in
theorem quotesW (a0 : ByteArray) (w : World) (hT : Tab w) (h0 : a0.size ≤ maxLen) : Calls Tryd.prog 3 #[.string a0] w fun e w' => e = .returned (.bool true) ∧ Below w.heap.size w w' := by
  unfold maxLen at h0
  obtain ⟨m, hm⟩ : ∃ m : Nat, min a0.size 256 = m := ⟨_, rfl⟩
  have hm1 : m ≤ a0.size := by omega
  have hm2 : m ≤ 256 := by omega
  have p1 : (if ((a0.size : Nat) : Int) < 256 then ((a0.size : Nat) : Int) else 256) = (m : Int) := by rw [← hm]; split <;> omega
  have p2 : (if (256 : Int) < ((a0.size : Nat) : Int) then 256 else ((a0.size : Nat) : Int)) = (m : Int) := by rw [← hm]; split <;> omega
  have p3 : min ((a0.size : Nat) : Int) 256 = (m : Int) := by omega
  replace hm := hide hm
  replace hT := hide hT
  have i1 : (m : Int) ≤ (a0.size : Int) := by omega
  go_enter Tryd.func3, Tryd.ntmps3
  go_wp2_with fail
  have hsz : (a0.extract 0 m).size = m := by simp; omega
  generalize a0.extract 0 m = s at hsz
  have hs256 : s.size ≤ 256 := by omega
  have QT := hide (fun w => quote_any s hs256 w)
  have RQ := hide (fun w => rquote_any s hs256 w)
  have PQ := hide (parse_quo s.data.toList)
  obtain ⟨q, hq⟩ : ∃ q : ByteArray, (⟨(quo s.data.toList).toArray⟩ : ByteArray) = q := ⟨_, rfl⟩
  rw [hq] at QT RQ PQ
  replace hq := hide hq
  clear p1 p2 p3
  refine (QT.out w).mono ?_
  rintro e w1 ⟨rfl, B1⟩
  replace B1 := hide B1
  have hT1 := hide (hT.out.below B1.out)
  go_wp2_with fail
  refine (RQ.out w1).mono ?_
  rintro e w2 ⟨rfl, B2⟩
  have B2' := hide (B1.out.trans (B2.mono B1.out.size))
  have hT2 := hide (hT1.out.below B2)
  clear B2
  go_wp2_with fail
  refine (parse_any q w2 hT2.out).mono ?_
  rintro e w3 ⟨B3, ⟨h256, rfl⟩ | ⟨h256, ⟨p, hp, rfl⟩ | ⟨x, t, hp, rfl, T⟩⟩⟩
  · have H := (St.start Nope w).call B2'.out (Nat.le_refl _)
    replace H := H.call B3 (Nat.le_refl _)
    have j1 : (256 : Int) < (q.size : Int) := by omega
    unfold zeroRe
    clear B3
    go_wp2_with (first | (with_reducible refine at_alloc 28 ?_; refine wl_alloc28 H ?_; clear H; intro g w' H q1 q2) | (with_reducible refine at_store 28 ?_; refine wl_store28 0 H rfl rfl rfl rfl ?_; clear H; intro w' H))
    refine (works_any _ (hT.out.below H.below)).mono ?_
    rintro e w4 ⟨rfl, B4⟩
    replace H := H.call B4 (Nat.le_refl _)
    clear B4
    go_wp2_with fail
    go_ret
    exact ⟨rfl, H.below⟩
  · rw [PQ.out] at hp
    cases hp
  · have hg := parse_good q
    rw [hp] at hg
    rw [PQ.out] at hp
    cases hp
    obtain ⟨g1, g2, g3⟩ := hg
    have hll : s.data.toList.length ≤ 256 := by rw [Array.length_toList]; exact hs256
    have LT := hide (fun w' (B : Below w3.heap.size w3 w') (hTb : Tab w') => literal_any s.data.toList hll (fun b => w2.heap.size ≤ b) x w' hTb (T.kept (fun b _ hb => B.block b hb)) g1 (by omega) (by omega))
    rw [back_str] at LT
    have H := St.start Nope w3
    have hB : Hid (Below w.heap.size w w3) := B2'.out.trans (B3.mono B2'.out.size)
    have hT3 := hide (hT.out.below hB.out)
    have j1 : ¬ (256 : Int) < (q.size : Int) := by omega
    obtain ⟨va, vn, vc, hx⟩ := T.val
    subst hx
    clear g1 g2 g3 T B3 hll
    generalize tog 2 (lvs s.data.toList) = t at *
    go_wp2_with (first | (with_reducible refine at_alloc 28 ?_; refine wl_alloc28 H ?_; clear H; intro g w' H q1 q2) | (with_reducible refine at_store 28 ?_; refine wl_store28 0 H rfl rfl rfl rfl ?_; clear H; intro w' H) | ((with_reducible refine at_load 28 ?_); refine wl_load28 0 H rfl rfl ?_))
    refine (LT.out _ H.below (hT3.out.below H.below)).mono ?_
    rintro e w5 ⟨rfl, B5⟩
    replace H := H.call B5 (Nat.le_refl _)
    clear B5
    go_wp2_with fail
    refine (works_any _ (hT3.out.below H.below)).mono ?_
    rintro e w6 ⟨rfl, B6⟩
    replace H := H.call B6 (Nat.le_refl _)
    clear B6
    go_wp2_with fail
    go_ret
    exact ⟨rfl, hB.out.trans (H.below.mono hB.out.size)⟩
end Go.Proofs.YtnbhpojcckhlmaaDoor
