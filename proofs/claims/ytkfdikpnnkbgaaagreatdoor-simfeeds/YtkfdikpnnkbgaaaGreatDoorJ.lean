/-
  Classes, sets, times.
-/
import Derived.Test.YtkfdikpnnkbgaaaGreatDoorG
namespace Go.Proofs.YtkfdikpnnkbgaaaGreatDoor
open Go.RowKit
set_option linter.unusedVariables false
set_option linter.unusedSimpArgs false

/-- Items of a class, at most n, as long as they are right and no ] stands there. -/
def clL (s : ByteArray) : Nat → S4 → Nat → Bool → Rs
  | 0, x, k, ok => (x, k, ok)
  | n + 1, x, k, ok => if ok = true ∧ bt s k ≠ 93 then clL s n (uni [x, (itemR s k).1]) (itemR s k).2.1 (itemR s k).2.2 else (x, k, ok)
theorem clL_stop (s : ByteArray) (n : Nat) (x : S4) (k : Nat) (ok : Bool) (h : ¬ (ok = true ∧ bt s k ≠ 93)) : clL s n x k ok = (x, k, ok) := by
  cases n with
  | zero => rfl
  | succ n => unfold clL; rw [if_neg h]
/-- What stands behind [ and perhaps ^, read. -/
def cl1 (s : ByteArray) (k : Nat) : Rs := clL s (s.size + 1 - k) (itemR s k).1 (itemR s k).2.1 (itemR s k).2.2
def clEnd (inv : Bool) (r : Rs) : Rs := if r.2.2 = true then (if inv = true then oth r.1 else r.1, r.2.1 + 1, true) else (noSet, r.2.1, false)
def classR (s : ByteArray) (k : Nat) : Rs := if bt s (k + 1) = 94 then clEnd true (cl1 s (k + 2)) else clEnd false (cl1 s (k + 1))
def okN : Value → Nat
  | .bool true => 1
  | _ => 0
theorem clL_far (s : ByteArray) : ∀ (n : Nat) (x : S4) (k : Nat) (ok : Bool), OkS x → k ≤ s.size → s.size - k < n ∨ ok = false →
    OkS (clL s n x k ok).1 ∧ k ≤ (clL s n x k ok).2.1 ∧ (clL s n x k ok).2.1 ≤ s.size ∧ ((clL s n x k ok).2.2 = true → bt s (clL s n x k ok).2.1 = 93)
  | 0, x, k, ok, hx, hk, h => by
    obtain rfl : ok = false := by rcases h with h | h; omega; exact h
    exact ⟨hx, Nat.le_refl _, hk, fun h => by cases h⟩
  | n + 1, x, k, ok, hx, hk, h => by
    by_cases hc : ok = true ∧ bt s k ≠ 93
    · unfold clL
      rw [if_pos hc]
      obtain ⟨o1, f1, f2, f3⟩ := item_far s k
      have hle : (itemR s k).2.1 ≤ s.size := by omega
      have hn : s.size - k < n + 1 := by rcases h with h | h; exact h; rw [hc.1] at h; cases h
      have := clL_far s n (uni [x, (itemR s k).1]) (itemR s k).2.1 (itemR s k).2.2 (uni_ok (fun t ht => by simp at ht; rcases ht with rfl | rfl <;> assumption)) hle (by
        cases hq : (itemR s k).2.2 with
        | false => exact .inr rfl
        | true => have := f3 hq; left; omega)
      exact ⟨this.1, by omega, this.2.2.1, this.2.2.2⟩
    · rw [clL_stop s _ x k ok hc]
      exact ⟨hx, Nat.le_refl _, hk, fun e => Classical.byContradiction fun h => hc ⟨e, h⟩⟩
theorem cl1_far (s : ByteArray) (k : Nat) (hk : k ≤ s.size) : OkS (cl1 s k).1 ∧ k ≤ (cl1 s k).2.1 ∧ (cl1 s k).2.1 ≤ s.size ∧ ((cl1 s k).2.2 = true → bt s (cl1 s k).2.1 = 93) := by
  unfold cl1
  obtain ⟨o1, f1, f2, f3⟩ := item_far s k
  have := clL_far s (s.size + 1 - k) (itemR s k).1 (itemR s k).2.1 (itemR s k).2.2 o1 (by omega) (by
    cases hq : (itemR s k).2.2 with
    | false => exact .inr rfl
    | true => have := f3 hq; left; omega)
  exact ⟨this.1, by omega, this.2.2⟩
theorem clEnd_far {s : ByteArray} {inv : Bool} {r : Rs} {k : Nat} (h : OkS r.1 ∧ k ≤ r.2.1 ∧ r.2.1 ≤ s.size ∧ (r.2.2 = true → bt s r.2.1 = 93)) : OkS (clEnd inv r).1 ∧ k ≤ (clEnd inv r).2.1 ∧ (clEnd inv r).2.1 ≤ s.size := by
  unfold clEnd
  split
  · rename_i e
    have := bt_lt (s := s) (k := r.2.1) (by have := h.2.2.2 e; omega)
    refine ⟨?_, by simp; omega, by simp; omega⟩
    simp only
    split
    · exact oth_ok h.1
    · exact h.1
  · exact ⟨noSet_ok, h.2.1, h.2.2.1⟩
theorem class_far (s : ByteArray) (k : Nat) (hk : k < s.size) : Far s k (classR s k) := by
  unfold classR
  split
  · rename_i h
    have := bt_lt (s := s) (k := k + 1) (by omega)
    obtain ⟨a, b, c⟩ := clEnd_far (inv := true) (cl1_far s (k + 2) (by omega))
    exact ⟨a, by omega, .inl c, fun _ => ⟨by omega, c⟩⟩
  · obtain ⟨a, b, c⟩ := clEnd_far (inv := false) (cl1_far s (k + 1) (by omega))
    exact ⟨a, by omega, .inl c, fun _ => ⟨by omega, c⟩⟩
set_option maxHeartbeats 4000000 in
theorem class_any (s : ByteArray) (hs : s.size ≤ 256) (k : Nat) (hk : k < s.size) (w : World) (hT : Tab w) {z : Int} (hz : z = (k : Int)) : Calls Tryz.prog 142 #[.string s, .int .i64 z] w fun e w' => e = .returned (.tuple #[setV (classR s k).1, .int .i64 ((classR s k).2.1 : Int), .bool (classR s k).2.2]) ∧ Below w.heap.size w w' := by
  subst hz
  have H := St.start Nope w
  unfold classR
  generalize hc : bt s (k + 1) = c
  by_cases h94 : c = 94
  · subst h94
    have hk1 := bt_lt (s := s) (k := k + 1) (by omega)
    rw [if_pos rfl]
    replace hc := hide hc
    have fin := cl1_far s (k + 2) (by omega)
    have P := hide (fun w hT z hz => item_any s hs (k + 2) (by omega) w hT (z := z) hz)
    unfold cl1 at fin ⊢
    have f0 := item_far s (k + 2)
    generalize hR : clL s (s.size + 1 - (k + 2)) (itemR s (k + 2)).1 (itemR s (k + 2)).2.1 (itemR s (k + 2)).2.2 = R at fin ⊢
    replace hR := hide hR
    generalize itemR s (k + 2) = r at P f0 hR
    obtain ⟨x, d, ok⟩ := r
    obtain ⟨ox, f1, f2, f3⟩ := f0
    simp only at P ox f1 f2 f3 hR
    have hd : d ≤ s.size := by omega
    have hn : Hid (ok = true → s.size - d < s.size + 1 - (k + 2)) := fun h => by have := f3 h; omega
    replace fin := hide fin
    replace ox := hide ox
    replace f2 := hide f2
    replace f3 := hide f3
    go_enter Tryz.func142, Tryz.ntmps142
    go_wp2_with (with_reducible refine at_alloc 24 ?_; refine wl_alloc25 H ?_; clear H; intro g w' H q1 q2; clear q1 q2)
    refine (byteAt_i s (k + 1) _ (by omega)).mono ?_
    rintro e w1 ⟨rfl, rfl⟩
    rw [hc.out]
    go_wp2_with fail
    refine (P.out _ (hT.st H (fun _ _ h => h)) _ (by omega)).mono ?_
    rintro e w2 ⟨rfl, b2⟩
    replace H := H.call b2 (Nat.le_refl _)
    go_wp2_with (first | (with_reducible refine at_alloc 24 ?_; refine wl_alloc25 H ?_; clear H; intro g2 w' H q1 q2; clear q1 q2) | (with_reducible refine at_store 24 ?_; first | (refine wl_store25 0 H rfl rfl rfl ?_; clear H; intro w' H)))
    clear P f1
    go_loopw [1, 9] (fun at_ ok wr => ∃ n x d o, at_ = .int .i64 ((d : Nat) : Int) ∧ ok = .bool o ∧ d ≤ s.size ∧ Hid (clL s n x d o = R) ∧ Hid (o = true → s.size - d < n) ∧ Hid (OkS x) ∧ Hid (St Nope w wr [(true, g2, 24, setA x), (true, g, 24, setA noSet)])) (fun at_ ok _ => okN ok * (s.size + 2 - (intOf at_).toNat))
    case atStart => exact ⟨_, x, d, ok, rfl, rfl, hd, hR, hn, ox, H⟩
    case round =>
      clear hR hn ox H hd
      obtain ⟨n, x, d, o, rfl, rfl, hd, hR, hn, ox, H2⟩ := hrel
      have H := H2.out
      clear H2
      cases o with
      | false =>
        have e : R = (x, d, false) := by rw [← hR.out]; exact clL_stop s n x d false (by simp)
        subst e
        clear hR hn
        go_wp2_with (with_reducible refine at_store 24 ?_; first | (refine wl_store25 1 (s' := noSet) H rfl rfl rfl ?_; clear H; intro w' H))
        refine bodyPost_ret (results_cell2 rfl _ _ g _ rfl (load25 (H.get 1 rfl))) rfl ?_
        exact ⟨rfl, H.below⟩
      | true =>
        generalize hb : bt s d = b
        by_cases h93 : b = 93
        · subst h93
          have e : R = (x, d, true) := by rw [← hR.out]; exact clL_stop s n x d true (by simp [hb])
          subst e
          clear hR hn
          replace hb := hide hb
          go_wp2_with fail
          refine (byteAt_i s d _ rfl).mono ?_
          rintro e w1 ⟨rfl, rfl⟩
          rw [hb.out]
          go_wp2_with (with_reducible refine at_load 24 ?_; first | (refine wl_load25 0 H rfl rfl ?_))
          refine (others_any x _).mono ?_
          rintro e w2 ⟨rfl, b2⟩
          replace H := H.call b2 (Nat.le_refl _)
          go_wp2_with (first | (with_reducible refine at_load 24 ?_; first | (refine wl_load25 0 H rfl rfl ?_)) | (with_reducible refine at_store 24 ?_; first | (refine wl_store25 0 H rfl rfl rfl ?_; clear H; intro w' H) | (refine wl_store25 1 H rfl rfl rfl ?_; clear H; intro w' H)))
          refine bodyPost_ret (results_cell2 rfl _ _ g _ rfl (load25 (H.get 1 rfl))) rfl ?_
          exact ⟨rfl, H.below⟩
        · have h2 : (b != 93) = true := by simpa using h93
          obtain ⟨m, hm⟩ : ∃ m, n = m + 1 := by
            cases n with
            | zero => have := hn.out rfl; omega
            | succ m => exact ⟨m, rfl⟩
          subst hm
          have P := hide (fun w hT z hz => item_any s hs d (by omega) w hT (z := z) hz)
          have f0 := item_far s d
          have e : clL s m (uni [x, (itemR s d).1]) (itemR s d).2.1 (itemR s d).2.2 = R := by
            rw [← hR.out]
            show _ = clL s (m + 1) x d true
            rw [clL, if_pos ⟨rfl, by rw [hb]; exact h93⟩]
          replace e := hide e
          have hn2 := hn.out rfl
          generalize itemR s d = r at P f0 e
          obtain ⟨y, d2, ok2⟩ := r
          obtain ⟨oy, f1, f2, f3⟩ := f0
          simp only at P oy f1 f2 f3 e
          have hd2 : d2 ≤ s.size := by omega
          have hm : okN (.bool ok2) * (s.size + 2 - d2) < s.size + 2 - d := by
            cases ok2 with
            | false => simp [okN]; omega
            | true => have := f3 rfl; simp [okN]; omega
          have hnew : Hid (ok2 = true → s.size - d2 < m) := fun h => by have := f3 h; omega
          have oxy : Hid (OkS (uni [x, y])) := uni_ok (fun t ht => by simp at ht; rcases ht with rfl | rfl; exact ox.out; exact oy)
          replace hm := hide hm
          replace oy := hide oy
          replace f2 := hide f2
          replace f3 := hide f3
          replace hb := hide hb
          replace h93 := hide h93
          clear hR hn hn2
          go_wp2_with fail
          refine (byteAt_i s d _ rfl).mono ?_
          rintro e' w1 ⟨rfl, rfl⟩
          rw [hb.out]
          go_wp2_with (with_reducible refine at_alloc 24 ?_; refine wl_alloc25 H ?_; clear H; intro g3 w' H q1 q2; clear q1 q2)
          refine (P.out _ (hT.st H (fun _ _ h => h)) _ rfl).mono ?_
          rintro e' w2 ⟨rfl, b2⟩
          replace H := H.call b2 (Nat.le_refl _)
          clear P
          go_wp2_with (first | (with_reducible refine at_load 24 ?_; first | (refine wl_load25 0 H rfl rfl ?_) | (refine wl_load25 1 H rfl rfl ?_)) | (with_reducible refine at_store 24 ?_; first | (refine wl_store25 0 H rfl rfl rfl ?_; clear H; intro w' H)) | (with_reducible refine at_bs 2 ?_; refine wl_bs2 H rfl rfl ?_; clear H; intro b' w' H HU))
          refine (union_any _ _ _ _ HU).mono ?_
          rintro e' w4 ⟨rfl, b4⟩
          replace H := H.call b4 (Nat.le_refl _)
          clear HU
          go_wp2_with (with_reducible refine at_store 24 ?_; first | (refine wl_store25 1 H rfl rfl rfl ?_; clear H; intro w' H))
          go_roundw
          case rel => exact ⟨m, _, d2, ok2, rfl, rfl, hd2, e, hnew, oxy, H.tail⟩
          case measure => have := hm.out; simpa [okN, intOf] using this
  · rw [if_neg h94]
    have h2 : (c == 94) = false := beq_eq_false_iff_ne.2 h94
    replace h94 := hide h94
    replace hc := hide hc
    have fin := cl1_far s (k + 1) (by omega)
    have P := hide (fun w hT z hz => item_any s hs (k + 1) (by omega) w hT (z := z) hz)
    unfold cl1 at fin ⊢
    have f0 := item_far s (k + 1)
    generalize hR : clL s (s.size + 1 - (k + 1)) (itemR s (k + 1)).1 (itemR s (k + 1)).2.1 (itemR s (k + 1)).2.2 = R at fin ⊢
    replace hR := hide hR
    generalize itemR s (k + 1) = r at P f0 hR
    obtain ⟨x, d, ok⟩ := r
    obtain ⟨ox, f1, f2, f3⟩ := f0
    simp only at P ox f1 f2 f3 hR
    have hd : d ≤ s.size := by omega
    have hn : Hid (ok = true → s.size - d < s.size + 1 - (k + 1)) := fun h => by have := f3 h; omega
    replace fin := hide fin
    replace ox := hide ox
    replace f2 := hide f2
    replace f3 := hide f3
    go_enter Tryz.func142, Tryz.ntmps142
    go_wp2_with (with_reducible refine at_alloc 24 ?_; refine wl_alloc25 H ?_; clear H; intro g w' H q1 q2; clear q1 q2)
    refine (byteAt_i s (k + 1) _ (by omega)).mono ?_
    rintro e w1 ⟨rfl, rfl⟩
    rw [hc.out]
    go_wp2_with fail
    refine (P.out _ (hT.st H (fun _ _ h => h)) _ (by omega)).mono ?_
    rintro e w2 ⟨rfl, b2⟩
    replace H := H.call b2 (Nat.le_refl _)
    go_wp2_with (first | (with_reducible refine at_alloc 24 ?_; refine wl_alloc25 H ?_; clear H; intro g2 w' H q1 q2; clear q1 q2) | (with_reducible refine at_store 24 ?_; first | (refine wl_store25 0 H rfl rfl rfl ?_; clear H; intro w' H)))
    clear P f1
    go_loopw [1, 9] (fun at_ ok wr => ∃ n x d o, at_ = .int .i64 ((d : Nat) : Int) ∧ ok = .bool o ∧ d ≤ s.size ∧ Hid (clL s n x d o = R) ∧ Hid (o = true → s.size - d < n) ∧ Hid (OkS x) ∧ Hid (St Nope w wr [(true, g2, 24, setA x), (true, g, 24, setA noSet)])) (fun at_ ok _ => okN ok * (s.size + 2 - (intOf at_).toNat))
    case atStart => exact ⟨_, x, d, ok, rfl, rfl, hd, hR, hn, ox, H⟩
    case round =>
      clear hR hn ox H hd
      obtain ⟨n, x, d, o, rfl, rfl, hd, hR, hn, ox, H2⟩ := hrel
      have H := H2.out
      clear H2
      cases o with
      | false =>
        have e : R = (x, d, false) := by rw [← hR.out]; exact clL_stop s n x d false (by simp)
        subst e
        clear hR hn
        go_wp2_with (with_reducible refine at_store 24 ?_; first | (refine wl_store25 1 (s' := noSet) H rfl rfl rfl ?_; clear H; intro w' H))
        refine bodyPost_ret (results_cell2 rfl _ _ g _ rfl (load25 (H.get 1 rfl))) rfl ?_
        exact ⟨rfl, H.below⟩
      | true =>
        generalize hb : bt s d = b
        by_cases h93 : b = 93
        · subst h93
          have e : R = (x, d, true) := by rw [← hR.out]; exact clL_stop s n x d true (by simp [hb])
          subst e
          clear hR hn
          replace hb := hide hb
          go_wp2_with fail
          refine (byteAt_i s d _ rfl).mono ?_
          rintro e w1 ⟨rfl, rfl⟩
          rw [hb.out]
          go_wp2_with (first | (with_reducible refine at_load 24 ?_; first | (refine wl_load25 0 H rfl rfl ?_)) | (with_reducible refine at_store 24 ?_; first | (refine wl_store25 1 H rfl rfl rfl ?_; clear H; intro w' H)))
          refine bodyPost_ret (results_cell2 rfl _ _ g _ rfl (load25 (H.get 1 rfl))) rfl ?_
          exact ⟨rfl, H.below⟩
        · have h2 : (b != 93) = true := by simpa using h93
          obtain ⟨m, hm⟩ : ∃ m, n = m + 1 := by
            cases n with
            | zero => have := hn.out rfl; omega
            | succ m => exact ⟨m, rfl⟩
          subst hm
          have P := hide (fun w hT z hz => item_any s hs d (by omega) w hT (z := z) hz)
          have f0 := item_far s d
          have e : clL s m (uni [x, (itemR s d).1]) (itemR s d).2.1 (itemR s d).2.2 = R := by
            rw [← hR.out]
            show _ = clL s (m + 1) x d true
            rw [clL, if_pos ⟨rfl, by rw [hb]; exact h93⟩]
          replace e := hide e
          have hn2 := hn.out rfl
          generalize itemR s d = r at P f0 e
          obtain ⟨y, d2, ok2⟩ := r
          obtain ⟨oy, f1, f2, f3⟩ := f0
          simp only at P oy f1 f2 f3 e
          have hd2 : d2 ≤ s.size := by omega
          have hm : okN (.bool ok2) * (s.size + 2 - d2) < s.size + 2 - d := by
            cases ok2 with
            | false => simp [okN]; omega
            | true => have := f3 rfl; simp [okN]; omega
          have hnew : Hid (ok2 = true → s.size - d2 < m) := fun h => by have := f3 h; omega
          have oxy : Hid (OkS (uni [x, y])) := uni_ok (fun t ht => by simp at ht; rcases ht with rfl | rfl; exact ox.out; exact oy)
          replace hm := hide hm
          replace oy := hide oy
          replace f2 := hide f2
          replace f3 := hide f3
          replace hb := hide hb
          replace h93 := hide h93
          clear hR hn hn2
          go_wp2_with fail
          refine (byteAt_i s d _ rfl).mono ?_
          rintro e' w1 ⟨rfl, rfl⟩
          rw [hb.out]
          go_wp2_with (with_reducible refine at_alloc 24 ?_; refine wl_alloc25 H ?_; clear H; intro g3 w' H q1 q2; clear q1 q2)
          refine (P.out _ (hT.st H (fun _ _ h => h)) _ rfl).mono ?_
          rintro e' w2 ⟨rfl, b2⟩
          replace H := H.call b2 (Nat.le_refl _)
          clear P
          go_wp2_with (first | (with_reducible refine at_load 24 ?_; first | (refine wl_load25 0 H rfl rfl ?_) | (refine wl_load25 1 H rfl rfl ?_)) | (with_reducible refine at_store 24 ?_; first | (refine wl_store25 0 H rfl rfl rfl ?_; clear H; intro w' H)) | (with_reducible refine at_bs 2 ?_; refine wl_bs2 H rfl rfl ?_; clear H; intro b' w' H HU))
          refine (union_any _ _ _ _ HU).mono ?_
          rintro e' w4 ⟨rfl, b4⟩
          replace H := H.call b4 (Nat.le_refl _)
          clear HU
          go_wp2_with (with_reducible refine at_store 24 ?_; first | (refine wl_store25 1 H rfl rfl rfl ?_; clear H; intro w' H))
          go_roundw
          case rel => exact ⟨m, _, d2, ok2, rfl, rfl, hd2, e, hnew, oxy, H.tail⟩
          case measure => have := hm.out; simpa [okN, intOf] using this
def bads : List Int := [40, 41, 42, 43, 63, 123, 125, 94, 36, 124]
/-- An atom but brackets. -/
def setR (s : ByteArray) (k : Nat) : Rs :=
  if bt s k = 46 then (oth (span 10 10), k + 1, true)
  else if bt s k = 91 then classR s k
  else if bt s k = 92 then escR s k
  else if bt s k ∈ bads then (noSet, k, false)
  else plR s k
theorem set_far (s : ByteArray) (k : Nat) : Far s k (setR s k) := by
  unfold setR
  split
  · rename_i h
    have := bt_lt (s := s) (k := k) (by omega)
    exact ⟨oth_ok (span_ok _ _ (by omega) (by omega)), by simp, .inl (by simp; omega), fun _ => by simp; omega⟩
  · split
    · exact class_far s k (bt_lt (by omega))
    · split
      · exact esc_far s k (bt_lt (by omega))
      · split
        · exact ⟨noSet_ok, Nat.le_refl _, .inr rfl, fun h => by cases h⟩
        · exact pl_far s k
set_option maxHeartbeats 4000000 in
theorem set_any (s : ByteArray) (hs : s.size ≤ 256) (k : Nat) (hk : k ≤ s.size) (w : World) (hT : Tab w) {z : Int} (hz : z = (k : Int)) : Calls Tryz.prog 106 #[.string s, .int .i64 z] w fun e w' => e = .returned (.tuple #[setV (setR s k).1, .int .i64 ((setR s k).2.1 : Int), .bool (setR s k).2.2]) ∧ Below w.heap.size w w' := by
  subst hz
  have H := St.start Nope w
  unfold setR
  generalize hc : bt s k = c
  by_cases h46 : c = 46
  · subst h46
    rw [if_pos rfl]
    replace hc := hide hc
    go_enter Tryz.func106, Tryz.ntmps106
    go_wp2_with (with_reducible refine at_alloc 24 ?_; refine wl_alloc25 H ?_; clear H; intro g w' H q1 q2; clear q1 q2)
    refine (byteAt_i s k _ rfl).mono ?_
    rintro e w1 ⟨rfl, rfl⟩
    rw [hc.out]
    go_wp2_with fail
    refine (span_any 10 10 (by omega) (by omega) _ (by rfl) (by rfl)).mono ?_
    rintro e w2 ⟨rfl, b2⟩
    replace H := H.call b2 (Nat.le_refl _)
    go_wp2_with fail
    refine (others_any _ _).mono ?_
    rintro e w2 ⟨rfl, b2⟩
    replace H := H.call b2 (Nat.le_refl _)
    go_wp2_with (with_reducible refine at_store 24 ?_; refine wl_store25 0 H rfl rfl rfl ?_; clear H; intro w' H)
    refine bodyPost_ret (results_cell2 rfl _ _ g _ rfl (load25 (H.get 0 rfl))) rfl ?_
    exact ⟨rfl, H.below⟩
  · rw [if_neg h46]
    have n46 : (c == 46) = false := beq_eq_false_iff_ne.2 h46
    replace h46 := hide h46
    by_cases h91 : c = 91
    · subst h91
      rw [if_pos rfl]
      have P := hide (fun w hT z hz => class_any s hs k (bt_lt (by omega)) w hT (z := z) hz)
      generalize classR s k = r at P ⊢
      obtain ⟨x, d, ok⟩ := r
      simp only at P ⊢
      replace hc := hide hc
      go_enter Tryz.func106, Tryz.ntmps106
      go_wp2_with (with_reducible refine at_alloc 24 ?_; refine wl_alloc25 H ?_; clear H; intro g w' H q1 q2; clear q1 q2)
      refine (byteAt_i s k _ rfl).mono ?_
      rintro e w1 ⟨rfl, rfl⟩
      rw [hc.out]
      go_wp2_with fail
      refine (P.out _ (hT.st H (fun _ _ h => h)) _ rfl).mono ?_
      rintro e w2 ⟨rfl, b2⟩
      replace H := H.call b2 (Nat.le_refl _)
      go_wp2_with (with_reducible refine at_store 24 ?_; refine wl_store25 0 H rfl rfl rfl ?_; clear H; intro w' H)
      refine bodyPost_ret (results_cell2 rfl _ _ g _ rfl (load25 (H.get 0 rfl))) rfl ?_
      exact ⟨rfl, H.below⟩
    · rw [if_neg h91]
      have n91 : (c == 91) = false := beq_eq_false_iff_ne.2 h91
      replace h91 := hide h91
      by_cases h92 : c = 92
      · subst h92
        rw [if_pos rfl]
        have P := hide (fun w z hz => escape_any s k (by omega) w (z := z) hz)
        generalize escR s k = r at P ⊢
        obtain ⟨x, d, ok⟩ := r
        simp only at P ⊢
        replace hc := hide hc
        go_enter Tryz.func106, Tryz.ntmps106
        go_wp2_with (with_reducible refine at_alloc 24 ?_; refine wl_alloc25 H ?_; clear H; intro g w' H q1 q2; clear q1 q2)
        refine (byteAt_i s k _ rfl).mono ?_
        rintro e w1 ⟨rfl, rfl⟩
        rw [hc.out]
        go_wp2_with fail
        refine (P.out _ _ rfl).mono ?_
        rintro e w2 ⟨rfl, b2⟩
        replace H := H.call b2 (Nat.le_refl _)
        go_wp2_with (with_reducible refine at_store 24 ?_; refine wl_store25 0 H rfl rfl rfl ?_; clear H; intro w' H)
        refine bodyPost_ret (results_cell2 rfl _ _ g _ rfl (load25 (H.get 0 rfl))) rfl ?_
        exact ⟨rfl, H.below⟩
      · rw [if_neg h92]
        have n92 : (c == 92) = false := beq_eq_false_iff_ne.2 h92
        replace h92 := hide h92
        by_cases hb : c ∈ bads
        · rw [if_pos hb]
          replace hc := hide hc
          simp only [bads, List.mem_cons, List.not_mem_nil, or_false] at hb
          rcases hb with rfl | rfl | rfl | rfl | rfl | rfl | rfl | rfl | rfl | rfl
          · clear n46 n91 n92
            go_enter Tryz.func106, Tryz.ntmps106
            go_wp2_with (with_reducible refine at_alloc 24 ?_; refine wl_alloc25 H ?_; clear H; intro g w' H q1 q2; clear q1 q2)
            refine (byteAt_i s k _ rfl).mono ?_
            rintro e w1 ⟨rfl, rfl⟩
            rw [hc.out]
            go_wp2_with (with_reducible refine at_store 24 ?_; refine wl_store25 0 (s' := noSet) H rfl rfl rfl ?_; clear H; intro w' H)
            refine bodyPost_ret (results_cell2 rfl _ _ g _ rfl (load25 (H.get 0 rfl))) rfl ?_
            exact ⟨rfl, H.below⟩
          · clear n46 n91 n92
            go_enter Tryz.func106, Tryz.ntmps106
            go_wp2_with (with_reducible refine at_alloc 24 ?_; refine wl_alloc25 H ?_; clear H; intro g w' H q1 q2; clear q1 q2)
            refine (byteAt_i s k _ rfl).mono ?_
            rintro e w1 ⟨rfl, rfl⟩
            rw [hc.out]
            go_wp2_with (with_reducible refine at_store 24 ?_; refine wl_store25 0 (s' := noSet) H rfl rfl rfl ?_; clear H; intro w' H)
            refine bodyPost_ret (results_cell2 rfl _ _ g _ rfl (load25 (H.get 0 rfl))) rfl ?_
            exact ⟨rfl, H.below⟩
          · clear n46 n91 n92
            go_enter Tryz.func106, Tryz.ntmps106
            go_wp2_with (with_reducible refine at_alloc 24 ?_; refine wl_alloc25 H ?_; clear H; intro g w' H q1 q2; clear q1 q2)
            refine (byteAt_i s k _ rfl).mono ?_
            rintro e w1 ⟨rfl, rfl⟩
            rw [hc.out]
            go_wp2_with (with_reducible refine at_store 24 ?_; refine wl_store25 0 (s' := noSet) H rfl rfl rfl ?_; clear H; intro w' H)
            refine bodyPost_ret (results_cell2 rfl _ _ g _ rfl (load25 (H.get 0 rfl))) rfl ?_
            exact ⟨rfl, H.below⟩
          · clear n46 n91 n92
            go_enter Tryz.func106, Tryz.ntmps106
            go_wp2_with (with_reducible refine at_alloc 24 ?_; refine wl_alloc25 H ?_; clear H; intro g w' H q1 q2; clear q1 q2)
            refine (byteAt_i s k _ rfl).mono ?_
            rintro e w1 ⟨rfl, rfl⟩
            rw [hc.out]
            go_wp2_with (with_reducible refine at_store 24 ?_; refine wl_store25 0 (s' := noSet) H rfl rfl rfl ?_; clear H; intro w' H)
            refine bodyPost_ret (results_cell2 rfl _ _ g _ rfl (load25 (H.get 0 rfl))) rfl ?_
            exact ⟨rfl, H.below⟩
          · clear n46 n91 n92
            go_enter Tryz.func106, Tryz.ntmps106
            go_wp2_with (with_reducible refine at_alloc 24 ?_; refine wl_alloc25 H ?_; clear H; intro g w' H q1 q2; clear q1 q2)
            refine (byteAt_i s k _ rfl).mono ?_
            rintro e w1 ⟨rfl, rfl⟩
            rw [hc.out]
            go_wp2_with (with_reducible refine at_store 24 ?_; refine wl_store25 0 (s' := noSet) H rfl rfl rfl ?_; clear H; intro w' H)
            refine bodyPost_ret (results_cell2 rfl _ _ g _ rfl (load25 (H.get 0 rfl))) rfl ?_
            exact ⟨rfl, H.below⟩
          · clear n46 n91 n92
            go_enter Tryz.func106, Tryz.ntmps106
            go_wp2_with (with_reducible refine at_alloc 24 ?_; refine wl_alloc25 H ?_; clear H; intro g w' H q1 q2; clear q1 q2)
            refine (byteAt_i s k _ rfl).mono ?_
            rintro e w1 ⟨rfl, rfl⟩
            rw [hc.out]
            go_wp2_with (with_reducible refine at_store 24 ?_; refine wl_store25 0 (s' := noSet) H rfl rfl rfl ?_; clear H; intro w' H)
            refine bodyPost_ret (results_cell2 rfl _ _ g _ rfl (load25 (H.get 0 rfl))) rfl ?_
            exact ⟨rfl, H.below⟩
          · clear n46 n91 n92
            go_enter Tryz.func106, Tryz.ntmps106
            go_wp2_with (with_reducible refine at_alloc 24 ?_; refine wl_alloc25 H ?_; clear H; intro g w' H q1 q2; clear q1 q2)
            refine (byteAt_i s k _ rfl).mono ?_
            rintro e w1 ⟨rfl, rfl⟩
            rw [hc.out]
            go_wp2_with (with_reducible refine at_store 24 ?_; refine wl_store25 0 (s' := noSet) H rfl rfl rfl ?_; clear H; intro w' H)
            refine bodyPost_ret (results_cell2 rfl _ _ g _ rfl (load25 (H.get 0 rfl))) rfl ?_
            exact ⟨rfl, H.below⟩
          · clear n46 n91 n92
            go_enter Tryz.func106, Tryz.ntmps106
            go_wp2_with (with_reducible refine at_alloc 24 ?_; refine wl_alloc25 H ?_; clear H; intro g w' H q1 q2; clear q1 q2)
            refine (byteAt_i s k _ rfl).mono ?_
            rintro e w1 ⟨rfl, rfl⟩
            rw [hc.out]
            go_wp2_with (with_reducible refine at_store 24 ?_; refine wl_store25 0 (s' := noSet) H rfl rfl rfl ?_; clear H; intro w' H)
            refine bodyPost_ret (results_cell2 rfl _ _ g _ rfl (load25 (H.get 0 rfl))) rfl ?_
            exact ⟨rfl, H.below⟩
          · clear n46 n91 n92
            go_enter Tryz.func106, Tryz.ntmps106
            go_wp2_with (with_reducible refine at_alloc 24 ?_; refine wl_alloc25 H ?_; clear H; intro g w' H q1 q2; clear q1 q2)
            refine (byteAt_i s k _ rfl).mono ?_
            rintro e w1 ⟨rfl, rfl⟩
            rw [hc.out]
            go_wp2_with (with_reducible refine at_store 24 ?_; refine wl_store25 0 (s' := noSet) H rfl rfl rfl ?_; clear H; intro w' H)
            refine bodyPost_ret (results_cell2 rfl _ _ g _ rfl (load25 (H.get 0 rfl))) rfl ?_
            exact ⟨rfl, H.below⟩
          · clear n46 n91 n92
            go_enter Tryz.func106, Tryz.ntmps106
            go_wp2_with (with_reducible refine at_alloc 24 ?_; refine wl_alloc25 H ?_; clear H; intro g w' H q1 q2; clear q1 q2)
            refine (byteAt_i s k _ rfl).mono ?_
            rintro e w1 ⟨rfl, rfl⟩
            rw [hc.out]
            go_wp2_with (with_reducible refine at_store 24 ?_; refine wl_store25 0 (s' := noSet) H rfl rfl rfl ?_; clear H; intro w' H)
            refine bodyPost_ret (results_cell2 rfl _ _ g _ rfl (load25 (H.get 0 rfl))) rfl ?_
            exact ⟨rfl, H.below⟩
        · rw [if_neg hb]
          replace hc := hide hc
          simp only [bads, List.mem_cons, List.not_mem_nil, or_false, not_or] at hb
          obtain ⟨m40, m41, m42, m43, m63, m123, m125, m94, m36, m124⟩ := hb
          have n40 : (c == 40) = false := beq_eq_false_iff_ne.2 m40
          have n41 : (c == 41) = false := beq_eq_false_iff_ne.2 m41
          have n42 : (c == 42) = false := beq_eq_false_iff_ne.2 m42
          have n43 : (c == 43) = false := beq_eq_false_iff_ne.2 m43
          have n63 : (c == 63) = false := beq_eq_false_iff_ne.2 m63
          have n123 : (c == 123) = false := beq_eq_false_iff_ne.2 m123
          have n125 : (c == 125) = false := beq_eq_false_iff_ne.2 m125
          have n94 : (c == 94) = false := beq_eq_false_iff_ne.2 m94
          have n36 : (c == 36) = false := beq_eq_false_iff_ne.2 m36
          have n124 : (c == 124) = false := beq_eq_false_iff_ne.2 m124
          clear m40 m41 m42 m43 m63 m123 m125 m94 m36 m124
          have P := hide (fun w z hz => plain_any s k (by omega) w (z := z) hz)
          generalize plR s k = r at P ⊢
          obtain ⟨x, d, ok⟩ := r
          simp only at P ⊢
          go_enter Tryz.func106, Tryz.ntmps106
          go_wp2_with (with_reducible refine at_alloc 24 ?_; refine wl_alloc25 H ?_; clear H; intro g w' H q1 q2; clear q1 q2)
          refine (byteAt_i s k _ rfl).mono ?_
          rintro e w1 ⟨rfl, rfl⟩
          rw [hc.out]
          go_wp2_with fail
          refine (P.out _ _ rfl).mono ?_
          rintro e w2 ⟨rfl, b2⟩
          replace H := H.call b2 (Nat.le_refl _)
          go_wp2_with (with_reducible refine at_store 24 ?_; refine wl_store25 0 H rfl rfl rfl ?_; clear H; intro w' H)
          refine bodyPost_ret (results_cell2 rfl _ _ g _ rfl (load25 (H.get 0 rfl))) rfl ?_
          exact ⟨rfl, H.below⟩
open Go.RowKit
set_option linter.unusedVariables false
set_option linter.unusedSimpArgs false

section
variable {S : Nat → Prop} {w0 w : World} {L : List Ent} {ops : Array Oper} {rest : List Oper} {a : Act} {Q : Exit → Act → World → Prop} {dst : Option Nat} {x y : Operand} {ty : TypeId} {pos : String} {after : Array Edge}
theorem one3 : ∀ w, (sizeOf 3).run Tryz.prog w = .ok 1 w := fun w => by kernel_rfl
theorem one4 : ∀ w, (sizeOf 4).run Tryz.prog w = .ok 1 w := fun w => by kernel_rfl
theorem one26 : ∀ w, (sizeOf 25).run Tryz.prog w = .ok 1 w := fun w => by kernel_rfl
theorem one59 : ∀ w, (sizeOf 160).run Tryz.prog w = .ok 1 w := fun w => by kernel_rfl
theorem wl_setMax (i : Nat) (H : St S w0 w L) {g : Nat} {n : Int} {s : S4} {l : Value} {mn mx v : Int} (h : L[i]? = some (true, g, 27, reA n s l mn mx)) (hx : a.eval x = .pointer (some ⟨g, 7, none⟩)) (hy : a.eval y = .int .i64 v)
    (k : ∀ w', St S w0 w' (L.set i (true, g, 27, reA n s l mn v)) → wpList Tryz.prog ops Q rest a w') : wpList Tryz.prog ops Q (⟨none, .store 3 x y, ty, pos, after, none⟩ :: rest) a w :=
  wl_store1 i 7 3 H h hx hy (by simp [reA]) one3 rfl k
theorem wl_setMin (i : Nat) (H : St S w0 w L) {g : Nat} {n : Int} {s : S4} {l : Value} {mn mx v : Int} (h : L[i]? = some (true, g, 27, reA n s l mn mx)) (hx : a.eval x = .pointer (some ⟨g, 6, none⟩)) (hy : a.eval y = .int .i64 v)
    (k : ∀ w', St S w0 w' (L.set i (true, g, 27, reA n s l v mx)) → wpList Tryz.prog ops Q rest a w') : wpList Tryz.prog ops Q (⟨none, .store 3 x y, ty, pos, after, none⟩ :: rest) a w :=
  wl_store1 i 6 3 H h hx hy (by simp [reA]) one3 rfl k
theorem wl_setKind (i : Nat) (H : St S w0 w L) {g : Nat} {n : Int} {s : S4} {l : Value} {mn mx v : Int} (h : L[i]? = some (true, g, 27, reA n s l mn mx)) (hx : a.eval x = .pointer (some ⟨g, 0, none⟩)) (hy : a.eval y = .int .i64 v)
    (k : ∀ w', St S w0 w' (L.set i (true, g, 27, reA v s l mn mx)) → wpList Tryz.prog ops Q rest a w') : wpList Tryz.prog ops Q (⟨none, .store 3 x y, ty, pos, after, none⟩ :: rest) a w :=
  wl_store1 i 0 3 H h hx hy (by simp [reA]) one3 rfl k
theorem wl_setL (i : Nat) (H : St S w0 w L) {g : Nat} {n : Int} {s : S4} {l : Value} {mn mx : Int} {ad : Option Addr} {len cap : Nat} (h : L[i]? = some (true, g, 27, reA n s l mn mx)) (hx : a.eval x = .pointer (some ⟨g, 5, none⟩)) (hy : a.eval y = .slice ad len cap)
    (k : ∀ w', St S w0 w' (L.set i (true, g, 27, reA n s (.slice ad len cap) mn mx)) → wpList Tryz.prog ops Q rest a w') : wpList Tryz.prog ops Q (⟨none, .store 25 x y, ty, pos, after, none⟩ :: rest) a w :=
  wl_store1 i 5 25 H h hx hy (by simp [reA]) one26 rfl k
/-- The set of a Re in a box is stored. -/
theorem wl_setSet (i : Nat) (H : St S w0 w L) {g : Nat} {n : Int} {s s' : S4} {l : Value} {mn mx : Int} (h : L[i]? = some (true, g, 27, reA n s l mn mx)) (hx : a.eval x = .pointer (some ⟨g, 1, none⟩)) (hy : a.eval y = setV s')
    (k : ∀ w', St S w0 w' (L.set i (true, g, 27, reA n s' l mn mx)) → wpList Tryz.prog ops Q rest a w') : wpList Tryz.prog ops Q (⟨none, .store 24 x y, ty, pos, after, none⟩ :: rest) a w := by
  refine wpList_plain rfl fun K hK => ?_
  have h1 := H.setCell i h 1 (.int .u64 s'.a)
  have e1 : (L.set i (true, g, 27, (reA n s l mn mx).setIfInBounds 1 (.int .u64 s'.a)))[i]? = some (true, g, 27, reA n ⟨s'.a, s.b, s.c, s.d⟩ l mn mx) := by rw [List.getElem?_set_self (List.getElem?_eq_some_iff.1 h).1]; rfl
  have h2 := h1.setCell i e1 2 (.int .u64 s'.b)
  rw [List.set_set] at h2
  have e2 : (L.set i (true, g, 27, (reA n ⟨s'.a, s.b, s.c, s.d⟩ l mn mx).setIfInBounds 2 (.int .u64 s'.b)))[i]? = some (true, g, 27, reA n ⟨s'.a, s'.b, s.c, s.d⟩ l mn mx) := by rw [List.getElem?_set_self (List.getElem?_eq_some_iff.1 h).1]; rfl
  have h3 := h2.setCell i e2 3 (.int .u64 s'.c)
  rw [List.set_set] at h3
  have e3 : (L.set i (true, g, 27, (reA n ⟨s'.a, s'.b, s.c, s.d⟩ l mn mx).setIfInBounds 3 (.int .u64 s'.c)))[i]? = some (true, g, 27, reA n ⟨s'.a, s'.b, s'.c, s.d⟩ l mn mx) := by rw [List.getElem?_set_self (List.getElem?_eq_some_iff.1 h).1]; rfl
  have h4 := h3.setCell i e3 4 (.int .u64 s'.d)
  rw [List.set_set] at h4
  have c1 := H.cell i 1 h (v := .int .u64 s.a) rfl
  have c2 := h1.cell i 2 e1 (v := .int .u64 s.b) rfl
  have c3 := h2.cell i 3 e2 (v := .int .u64 s.c) rfl
  have c4 := h3.cell i 4 e3 (v := .int .u64 s.d) rfl
  have f1 := H.fz i 1 h
  have f2 := h1.fz i 2 e1
  have f3 := h2.fz i 3 e2
  have f4 := h3.fz i 4 e3
  have hz : ∀ w, (sizeOf 24).run Tryz.prog w = .ok 4 w := fun w => by kernel_rfl
  have hst : (storeVar 24 ⟨g, 1, none⟩ (setV s')).run Tryz.prog w = .ok () ((((w.setCell ⟨g, 1, none⟩ (.int .u64 s'.a)).setCell ⟨g, 2, none⟩ (.int .u64 s'.b)).setCell ⟨g, 3, none⟩ (.int .u64 s'.c)).setCell ⟨g, 4, none⟩ (.int .u64 s'.d)) := by
    have e : (storeCells ⟨g, 1, none⟩ [.int .u64 s'.a, .int .u64 s'.b, .int .u64 s'.c, .int .u64 s'.d]).run Tryz.prog w = .ok () ((((w.setCell ⟨g, 1, none⟩ (.int .u64 s'.a)).setCell ⟨g, 2, none⟩ (.int .u64 s'.b)).setCell ⟨g, 3, none⟩ (.int .u64 s'.c)).setCell ⟨g, 4, none⟩ (.int .u64 s'.d)) := by
      simp [storeCells, go_sem, stored, c1, c2, c3, c4, f1, f2, f3, f4, add_plain]
    unfold storeVar
    simp only [Sem.run_bind, hz, Result.andThen_ok]
    have e4 : (setV s').cells = #[.int .u64 s'.a, .int .u64 s'.b, .int .u64 s'.c, .int .u64 s'.d] := rfl
    rw [e4]
    simpa using e
  unfold Oper.wp execOp
  simp only [hx, hy, Instr.storeAt, Instr.sureAddr, Sem.run_bind, Sem.run_pure, Result.andThen_ok, hst]
  exact hK _ _ (k _ h4)
end
/-- What stands between { and }: from, to, the place, whether it is right so far. -/
def c2R (s : ByteArray) (k : Nat) : Int × Int × Nat × Bool :=
  if (numR s (k + 1)).2.2 = true ∧ bt s (numR s (k + 1)).2.1 = 44 then
    (if bt s ((numR s (k + 1)).2.1 + 1) = 125 then ((numR s (k + 1)).1, -1, (numR s (k + 1)).2.1 + 1, true)
     else ((numR s (k + 1)).1, numR s ((numR s (k + 1)).2.1 + 1)))
  else ((numR s (k + 1)).1, (numR s (k + 1)).1, (numR s (k + 1)).2.1, (numR s (k + 1)).2.2)
abbrev Tm := (Int × Int × Int) × Nat × Bool
def cnEnd (s : ByteArray) (k : Nat) (r : Int × Int × Nat × Bool) : Tm :=
  if r.2.2.2 = false ∨ bt s r.2.2.1 ≠ 125 then ((0, 0, 0), r.2.2.1, false)
  else if arT r.1 r.2.1 = true then ((4, r.1, r.2.1), r.2.2.1 + 1, true) else ((0, 0, 0), k, false)
def countsR (s : ByteArray) (k : Nat) : Tm := cnEnd s k (c2R s k)
theorem num_far (s : ByteArray) (k : Nat) : k ≤ (numR s k).2.1 ∧ (numR s k).2.1 ≤ k + 2 ∧ ((numR s k).2.1 ≤ s.size ∨ (numR s k).2.1 = k) ∧ ((numR s k).2.2 = true → (numR s k).2.1 ≤ s.size) ∧ 0 ≤ (numR s k).1 ∧ (numR s k).1 ≤ 99 := by
  unfold numR
  split
  · rename_i h1
    have r1 := dig_range h1
    have b1 := bt_lt (s := s) (k := k) (by omega)
    split
    · rename_i h2
      have r2 := dig_range h2.2
      have b2 := bt_lt (s := s) (k := k + 1) (by omega)
      simp; omega
    · simp; omega
  · simp
theorem c2_far (s : ByteArray) (k : Nat) (hk : k < s.size) : k ≤ (c2R s k).2.2.1 ∧ (c2R s k).2.2.1 ≤ s.size := by
  obtain ⟨a1, a2, a3, a4, a5, a6⟩ := num_far s (k + 1)
  obtain ⟨b1, b2, b3, b4, b5, b6⟩ := num_far s ((numR s (k + 1)).2.1 + 1)
  unfold c2R
  split
  · rename_i h
    have := bt_lt (s := s) (k := (numR s (k + 1)).2.1) (by omega)
    split
    · simp; omega
    · simp; omega
  · simp; omega
theorem counts_far (s : ByteArray) (k : Nat) (hk : k < s.size) : k ≤ (countsR s k).2.1 ∧ (countsR s k).2.1 ≤ s.size ∧ ((countsR s k).2.2 = true → (countsR s k).1.1 = 4 ∧ k < (countsR s k).2.1 ∧ arT (countsR s k).1.2.1 (countsR s k).1.2.2 = true) := by
  obtain ⟨h1, h2⟩ := c2_far s k hk
  unfold countsR cnEnd
  split
  · exact ⟨h1, h2, fun h => by cases h⟩
  · rename_i h
    have := bt_lt (s := s) (k := (c2R s k).2.2.1) (by
      intro e; exact h (.inr (by omega)))
    split
    · rename_i h3
      exact ⟨by simp; omega, by simp; omega, fun _ => ⟨rfl, by simp; omega, h3⟩⟩
    · exact ⟨Nat.le_refl _, by simp; omega, fun h => by cases h⟩

set_option maxHeartbeats 8000000 in
theorem counts_any (s : ByteArray) (hs : s.size ≤ 256) (k : Nat) (hk : k < s.size) (w : World) {z : Int} (hz : z = (k : Int)) : Calls Tryz.prog 145 #[.string s, .int .i64 z] w fun e w' => e = .returned (.tuple #[reV (countsR s k).1.1 noSet (.slice none 0 0) (countsR s k).1.2.1 (countsR s k).1.2.2, .int .i64 ((countsR s k).2.1 : Int), .bool (countsR s k).2.2]) ∧ Below w.heap.size w w' := by
  subst hz
  have H := St.start Nope w
  unfold countsR c2R
  obtain ⟨a1, a2, a3, a4, a5, a6⟩ := num_far s (k + 1)
  generalize hN : numR s (k + 1) = r at a1 a2 a3 a4 a5 a6 ⊢
  obtain ⟨fr, d, ok⟩ := r
  simp only at a1 a2 a3 a4 a5 a6 ⊢
  replace a3 := hide a3
  replace a4 := hide a4
  cases ok with
  | false =>
    rw [if_neg (by simp), show cnEnd s k (fr, fr, d, false) = ((0, 0, 0), d, false) by unfold cnEnd; rw [if_pos (.inl rfl)]]
    go_enter Tryz.func145, Tryz.ntmps145
    go_wp2_with (with_reducible refine at_alloc 27 ?_; refine wl_alloc28 H ?_; clear H; intro g w' H q1 q2; clear q1 q2)
    refine (number_any s (k + 1) (by omega) _ (by omega)).mono ?_
    rintro e w1 ⟨rfl, rfl⟩
    rw [hN]
    go_wp2_with (with_reducible refine at_store 27 ?_; refine wl_store28 0 (n' := 0) (s' := noSet) (l' := .slice none 0 0) (mn' := 0) (mx' := 0) H rfl rfl rfl rfl ?_; clear H; intro w' H)
    refine bodyPost_ret (results_cell2 rfl _ _ g _ rfl (load28 (H.get 0 rfl))) rfl ?_
    exact ⟨rfl, H.below⟩
  | true =>
    by_cases h44 : bt s d = 44
    · rw [if_pos ⟨rfl, h44⟩]
      have hd := bt_lt (s := s) (k := d) (by omega)
      by_cases h3 : bt s (d + 1) = 125
      · rw [if_pos h3]
        rw [show cnEnd s k (fr, -1, d + 1, true) = (if arT fr (-1) = true then ((4, fr, -1), d + 1 + 1, true) else ((0, 0, 0), k, false)) by unfold cnEnd; rw [if_neg (by simp [h3])]]
        cases hA : arT fr (-1) with
        | true =>
          rw [if_pos rfl]
          go_enter Tryz.func145, Tryz.ntmps145
          go_wp2_with (with_reducible refine at_alloc 27 ?_; refine wl_alloc28 H ?_; clear H; intro g w' H q1 q2; clear q1 q2)
          refine (number_any s (k + 1) (by omega) _ (by omega)).mono ?_
          rintro e w1 ⟨rfl, rfl⟩
          rw [hN]
          go_wp2_with fail
          refine (byteAt_i s (d) _ (rfl)).mono ?_
          rintro e w1 ⟨rfl, rfl⟩
          rw [h44]
          go_wp2_with fail
          refine (byteAt_i s (d + 1) _ (by omega)).mono ?_
          rintro e w1 ⟨rfl, rfl⟩
          rw [h3]
          go_wp2_with fail
          refine (byteAt_i s (d + 1) _ (by omega)).mono ?_
          rintro e w1 ⟨rfl, rfl⟩
          rw [h3]
          go_wp2_with fail
          refine (areTimes_any _ _ _).mono ?_
          rintro e w1 ⟨rfl, rfl⟩
          rw [hA]
          go_wp2_with (with_reducible refine at_store 27 ?_; refine wl_store28 0 (n' := 4) (s' := noSet) (l' := .slice none 0 0) (mn' := fr) (mx' := -1) H rfl rfl rfl rfl ?_; clear H; intro w' H)
          refine bodyPost_ret (results_cell2 rfl _ _ g _ rfl (load28 (H.get 0 rfl))) rfl ?_
          exact ⟨rfl, H.below⟩
        | false =>
          rw [if_neg (by simp)]
          go_enter Tryz.func145, Tryz.ntmps145
          go_wp2_with (with_reducible refine at_alloc 27 ?_; refine wl_alloc28 H ?_; clear H; intro g w' H q1 q2; clear q1 q2)
          refine (number_any s (k + 1) (by omega) _ (by omega)).mono ?_
          rintro e w1 ⟨rfl, rfl⟩
          rw [hN]
          go_wp2_with fail
          refine (byteAt_i s (d) _ (rfl)).mono ?_
          rintro e w1 ⟨rfl, rfl⟩
          rw [h44]
          go_wp2_with fail
          refine (byteAt_i s (d + 1) _ (by omega)).mono ?_
          rintro e w1 ⟨rfl, rfl⟩
          rw [h3]
          go_wp2_with fail
          refine (byteAt_i s (d + 1) _ (by omega)).mono ?_
          rintro e w1 ⟨rfl, rfl⟩
          rw [h3]
          go_wp2_with fail
          refine (areTimes_any _ _ _).mono ?_
          rintro e w1 ⟨rfl, rfl⟩
          rw [hA]
          go_wp2_with (with_reducible refine at_store 27 ?_; refine wl_store28 0 (n' := 0) (s' := noSet) (l' := .slice none 0 0) (mn' := 0) (mx' := 0) H rfl rfl rfl rfl ?_; clear H; intro w' H)
          refine bodyPost_ret (results_cell2 rfl _ _ g _ rfl (load28 (H.get 0 rfl))) rfl ?_
          exact ⟨rfl, H.below⟩
      · rw [if_neg h3]
        generalize h3q : bt s (d + 1) = q3 at h3
        have h3n : (q3 != 125) = true := by simpa using h3
        replace h3 := hide h3
        obtain ⟨b1, b2, b3, b4, b5, b6⟩ := num_far s (d + 1)
        generalize hN2 : numR s (d + 1) = r2 at b1 b2 b3 b4 b5 b6 ⊢
        obtain ⟨to, d2, ok2⟩ := r2
        simp only at b1 b2 b3 b4 b5 b6 ⊢
        replace b3 := hide b3
        replace b4 := hide b4
        cases ok2 with
        | false =>
          rw [show cnEnd s k (fr, to, d2, false) = ((0, 0, 0), d2, false) by unfold cnEnd; rw [if_pos (.inl rfl)]]
          go_enter Tryz.func145, Tryz.ntmps145
          go_wp2_with (with_reducible refine at_alloc 27 ?_; refine wl_alloc28 H ?_; clear H; intro g w' H q1 q2; clear q1 q2)
          refine (number_any s (k + 1) (by omega) _ (by omega)).mono ?_
          rintro e w1 ⟨rfl, rfl⟩
          rw [hN]
          go_wp2_with fail
          refine (byteAt_i s (d) _ (rfl)).mono ?_
          rintro e w1 ⟨rfl, rfl⟩
          rw [h44]
          go_wp2_with fail
          refine (byteAt_i s (d + 1) _ (by omega)).mono ?_
          rintro e w1 ⟨rfl, rfl⟩
          rw [h3q]
          go_wp2_with fail
          refine (number_any s (d + 1) (by omega) _ (by omega)).mono ?_
          rintro e w1 ⟨rfl, rfl⟩
          rw [hN2]
          go_wp2_with (with_reducible refine at_store 27 ?_; refine wl_store28 0 (n' := 0) (s' := noSet) (l' := .slice none 0 0) (mn' := 0) (mx' := 0) H rfl rfl rfl rfl ?_; clear H; intro w' H)
          refine bodyPost_ret (results_cell2 rfl _ _ g _ rfl (load28 (H.get 0 rfl))) rfl ?_
          exact ⟨rfl, H.below⟩
        | true =>
          by_cases h125 : bt s (d2) = 125
          · rw [show cnEnd s k (fr, to, d2, true) = (if arT (fr) (to) = true then ((4, fr, to), d2 + 1, true) else ((0, 0, 0), k, false)) by unfold cnEnd; rw [if_neg (by simp [h125])]]
            cases hA : arT (fr) (to) with
            | true =>
              rw [if_pos rfl]
              replace h125 := hide h125
              replace hA := hA
              go_enter Tryz.func145, Tryz.ntmps145
              go_wp2_with (with_reducible refine at_alloc 27 ?_; refine wl_alloc28 H ?_; clear H; intro g w' H q1 q2; clear q1 q2)
              refine (number_any s (k + 1) (by omega) _ (by omega)).mono ?_
              rintro e w1 ⟨rfl, rfl⟩
              rw [hN]
              go_wp2_with fail
              refine (byteAt_i s (d) _ (rfl)).mono ?_
              rintro e w1 ⟨rfl, rfl⟩
              rw [h44]
              go_wp2_with fail
              refine (byteAt_i s (d + 1) _ (by omega)).mono ?_
              rintro e w1 ⟨rfl, rfl⟩
              rw [h3q]
              go_wp2_with fail
              refine (number_any s (d + 1) (by omega) _ (by omega)).mono ?_
              rintro e w1 ⟨rfl, rfl⟩
              rw [hN2]
              go_wp2_with fail
              refine (byteAt_i s (d2) _ (by omega)).mono ?_
              rintro e w1 ⟨rfl, rfl⟩
              rw [h125.out]
              go_wp2_with fail
              refine (areTimes_any _ _ _).mono ?_
              rintro e w1 ⟨rfl, rfl⟩
              rw [hA]
              go_wp2_with (with_reducible refine at_store 27 ?_; refine wl_store28 0 (n' := 4) (s' := noSet) (l' := .slice none 0 0) (mn' := fr) (mx' := to) H rfl rfl rfl rfl ?_; clear H; intro w' H)
              refine bodyPost_ret (results_cell2 rfl _ _ g _ rfl (load28 (H.get 0 rfl))) rfl ?_
              exact ⟨rfl, H.below⟩
            | false =>
              rw [if_neg (by simp)]
              replace h125 := hide h125
              go_enter Tryz.func145, Tryz.ntmps145
              go_wp2_with (with_reducible refine at_alloc 27 ?_; refine wl_alloc28 H ?_; clear H; intro g w' H q1 q2; clear q1 q2)
              refine (number_any s (k + 1) (by omega) _ (by omega)).mono ?_
              rintro e w1 ⟨rfl, rfl⟩
              rw [hN]
              go_wp2_with fail
              refine (byteAt_i s (d) _ (rfl)).mono ?_
              rintro e w1 ⟨rfl, rfl⟩
              rw [h44]
              go_wp2_with fail
              refine (byteAt_i s (d + 1) _ (by omega)).mono ?_
              rintro e w1 ⟨rfl, rfl⟩
              rw [h3q]
              go_wp2_with fail
              refine (number_any s (d + 1) (by omega) _ (by omega)).mono ?_
              rintro e w1 ⟨rfl, rfl⟩
              rw [hN2]
              go_wp2_with fail
              refine (byteAt_i s (d2) _ (by omega)).mono ?_
              rintro e w1 ⟨rfl, rfl⟩
              rw [h125.out]
              go_wp2_with fail
              refine (areTimes_any _ _ _).mono ?_
              rintro e w1 ⟨rfl, rfl⟩
              rw [hA]
              go_wp2_with (with_reducible refine at_store 27 ?_; refine wl_store28 0 (n' := 0) (s' := noSet) (l' := .slice none 0 0) (mn' := 0) (mx' := 0) H rfl rfl rfl rfl ?_; clear H; intro w' H)
              refine bodyPost_ret (results_cell2 rfl _ _ g _ rfl (load28 (H.get 0 rfl))) rfl ?_
              exact ⟨rfl, H.below⟩
          · rw [show cnEnd s k (fr, to, d2, true) = ((0, 0, 0), d2, false) by unfold cnEnd; rw [if_pos (.inr h125)]]
            generalize hq : bt s (d2) = q at h125
            have h1 : (q != 125) = true := by simpa using h125
            replace h125 := hide h125
            replace hq := hide hq
            go_enter Tryz.func145, Tryz.ntmps145
            go_wp2_with (with_reducible refine at_alloc 27 ?_; refine wl_alloc28 H ?_; clear H; intro g w' H q1 q2; clear q1 q2)
            refine (number_any s (k + 1) (by omega) _ (by omega)).mono ?_
            rintro e w1 ⟨rfl, rfl⟩
            rw [hN]
            go_wp2_with fail
            refine (byteAt_i s (d) _ (rfl)).mono ?_
            rintro e w1 ⟨rfl, rfl⟩
            rw [h44]
            go_wp2_with fail
            refine (byteAt_i s (d + 1) _ (by omega)).mono ?_
            rintro e w1 ⟨rfl, rfl⟩
            rw [h3q]
            go_wp2_with fail
            refine (number_any s (d + 1) (by omega) _ (by omega)).mono ?_
            rintro e w1 ⟨rfl, rfl⟩
            rw [hN2]
            go_wp2_with fail
            refine (byteAt_i s (d2) _ (by omega)).mono ?_
            rintro e w1 ⟨rfl, rfl⟩
            rw [hq.out]
            go_wp2_with (with_reducible refine at_store 27 ?_; refine wl_store28 0 (n' := 0) (s' := noSet) (l' := .slice none 0 0) (mn' := 0) (mx' := 0) H rfl rfl rfl rfl ?_; clear H; intro w' H)
            refine bodyPost_ret (results_cell2 rfl _ _ g _ rfl (load28 (H.get 0 rfl))) rfl ?_
            exact ⟨rfl, H.below⟩
    · rw [if_neg (fun h => h44 h.2)]
      generalize h4q : bt s d = q4 at h44
      have h4n : (q4 == 44) = false := beq_eq_false_iff_ne.2 h44
      replace h44 := hide h44
      by_cases h125 : q4 = 125
      · subst h125
        rw [show cnEnd s k (fr, fr, d, true) = (if arT fr fr = true then ((4, fr, fr), d + 1, true) else ((0, 0, 0), k, false)) by unfold cnEnd; rw [if_neg (by simp [h4q])]]
        cases hA : arT fr fr with
        | true =>
          rw [if_pos rfl]
          clear h4n
          go_enter Tryz.func145, Tryz.ntmps145
          go_wp2_with (with_reducible refine at_alloc 27 ?_; refine wl_alloc28 H ?_; clear H; intro g w' H q1 q2; clear q1 q2)
          refine (number_any s (k + 1) (by omega) _ (by omega)).mono ?_
          rintro e w1 ⟨rfl, rfl⟩
          rw [hN]
          go_wp2_with fail
          refine (byteAt_i s (d) _ (rfl)).mono ?_
          rintro e w1 ⟨rfl, rfl⟩
          rw [h4q]
          go_wp2_with fail
          refine (byteAt_i s (d) _ (rfl)).mono ?_
          rintro e w1 ⟨rfl, rfl⟩
          rw [h4q]
          go_wp2_with fail
          refine (areTimes_any _ _ _).mono ?_
          rintro e w1 ⟨rfl, rfl⟩
          rw [hA]
          go_wp2_with (with_reducible refine at_store 27 ?_; refine wl_store28 0 (n' := 4) (s' := noSet) (l' := .slice none 0 0) (mn' := fr) (mx' := fr) H rfl rfl rfl rfl ?_; clear H; intro w' H)
          refine bodyPost_ret (results_cell2 rfl _ _ g _ rfl (load28 (H.get 0 rfl))) rfl ?_
          exact ⟨rfl, H.below⟩
        | false =>
          rw [if_neg (by simp)]
          clear h4n
          go_enter Tryz.func145, Tryz.ntmps145
          go_wp2_with (with_reducible refine at_alloc 27 ?_; refine wl_alloc28 H ?_; clear H; intro g w' H q1 q2; clear q1 q2)
          refine (number_any s (k + 1) (by omega) _ (by omega)).mono ?_
          rintro e w1 ⟨rfl, rfl⟩
          rw [hN]
          go_wp2_with fail
          refine (byteAt_i s (d) _ (rfl)).mono ?_
          rintro e w1 ⟨rfl, rfl⟩
          rw [h4q]
          go_wp2_with fail
          refine (byteAt_i s (d) _ (rfl)).mono ?_
          rintro e w1 ⟨rfl, rfl⟩
          rw [h4q]
          go_wp2_with fail
          refine (areTimes_any _ _ _).mono ?_
          rintro e w1 ⟨rfl, rfl⟩
          rw [hA]
          go_wp2_with (with_reducible refine at_store 27 ?_; refine wl_store28 0 (n' := 0) (s' := noSet) (l' := .slice none 0 0) (mn' := 0) (mx' := 0) H rfl rfl rfl rfl ?_; clear H; intro w' H)
          refine bodyPost_ret (results_cell2 rfl _ _ g _ rfl (load28 (H.get 0 rfl))) rfl ?_
          exact ⟨rfl, H.below⟩
      · rw [show cnEnd s k (fr, fr, d, true) = ((0, 0, 0), d, false) by unfold cnEnd; rw [if_pos (.inr (by rw [h4q]; exact h125))]]
        have h1 : (q4 != 125) = true := by simpa using h125
        replace h125 := hide h125
        go_enter Tryz.func145, Tryz.ntmps145
        go_wp2_with (with_reducible refine at_alloc 27 ?_; refine wl_alloc28 H ?_; clear H; intro g w' H q1 q2; clear q1 q2)
        refine (number_any s (k + 1) (by omega) _ (by omega)).mono ?_
        rintro e w1 ⟨rfl, rfl⟩
        rw [hN]
        go_wp2_with fail
        refine (byteAt_i s (d) _ (rfl)).mono ?_
        rintro e w1 ⟨rfl, rfl⟩
        rw [h4q]
        go_wp2_with fail
        refine (byteAt_i s (d) _ (rfl)).mono ?_
        rintro e w1 ⟨rfl, rfl⟩
        rw [h4q]
        go_wp2_with (with_reducible refine at_store 27 ?_; refine wl_store28 0 (n' := 0) (s' := noSet) (l' := .slice none 0 0) (mn' := 0) (mx' := 0) H rfl rfl rfl rfl ?_; clear H; intro w' H)
        refine bodyPost_ret (results_cell2 rfl _ _ g _ rfl (load28 (H.get 0 rfl))) rfl ?_
        exact ⟨rfl, H.below⟩

/-- How often the atom ahead of k is asked for. -/
def timesR (s : ByteArray) (k : Nat) : Tm :=
  if bt s k = 123 then countsR s k
  else if bt s k = 63 then ((4, 0, 1), k + 1, true)
  else if bt s k = 43 then ((4, 1, -1), k + 1, true)
  else if bt s k = 42 then ((4, 0, -1), k + 1, true)
  else ((0, 0, 0), k, true)
theorem times_far (s : ByteArray) (k : Nat) (hk : k ≤ s.size) : k ≤ (timesR s k).2.1 ∧ (timesR s k).2.1 ≤ s.size ∧ ((timesR s k).2.2 = true → (timesR s k).1 = (0, 0, 0) ∧ (timesR s k).2.1 = k ∨ (timesR s k).1.1 = 4 ∧ k < (timesR s k).2.1 ∧ arT (timesR s k).1.2.1 (timesR s k).1.2.2 = true) := by
  unfold timesR
  split
  · obtain ⟨a, b, c⟩ := counts_far s k (bt_lt (by omega))
    exact ⟨a, b, fun h => .inr (c h)⟩
  · split
    · have := bt_lt (s := s) (k := k) (by omega)
      exact ⟨by simp, by simp; omega, fun _ => .inr ⟨rfl, by simp, rfl⟩⟩
    · split
      · have := bt_lt (s := s) (k := k) (by omega)
        exact ⟨by simp, by simp; omega, fun _ => .inr ⟨rfl, by simp, rfl⟩⟩
      · split
        · have := bt_lt (s := s) (k := k) (by omega)
          exact ⟨by simp, by simp; omega, fun _ => .inr ⟨rfl, by simp, rfl⟩⟩
        · exact ⟨Nat.le_refl _, hk, fun _ => .inl ⟨rfl, rfl⟩⟩
set_option maxHeartbeats 4000000 in
theorem times_any (s : ByteArray) (hs : s.size ≤ 256) (k : Nat) (hk : k ≤ s.size) (w : World) {z : Int} (hz : z = (k : Int)) : Calls Tryz.prog 108 #[.string s, .int .i64 z] w fun e w' => e = .returned (.tuple #[reV (timesR s k).1.1 noSet (.slice none 0 0) (timesR s k).1.2.1 (timesR s k).1.2.2, .int .i64 ((timesR s k).2.1 : Int), .bool (timesR s k).2.2]) ∧ Below w.heap.size w w' := by
  subst hz
  have H := St.start Nope w
  unfold timesR
  generalize hc : bt s k = c
  by_cases h123 : c = 123
  · subst h123
    rw [if_pos rfl]
    have P := hide (fun w z hz => counts_any s hs k (bt_lt (by omega)) w (z := z) hz)
    generalize countsR s k = r at P ⊢
    obtain ⟨⟨a0, a1, a2⟩, d, ok⟩ := r
    simp only at P ⊢
    replace hc := hide hc
    go_enter Tryz.func108, Tryz.ntmps108
    go_wp2_with (first | (with_reducible refine at_alloc 27 ?_; refine wl_alloc28 H ?_; clear H; intro g w' H q1 q2; clear q1 q2) | (with_reducible refine at_store 27 ?_; refine wl_store28 0 (n' := 4) (s' := noSet) (l' := .slice none 0 0) (mn' := 0) (mx' := 0) H rfl rfl rfl rfl ?_; clear H; intro w' H))
    refine (byteAt_i s k _ rfl).mono ?_
    rintro e w1 ⟨rfl, rfl⟩
    rw [hc.out]
    go_wp2_with fail
    refine (P.out _ _ rfl).mono ?_
    rintro e w2 ⟨rfl, b2⟩
    replace H := H.call b2 (Nat.le_refl _)
    go_wp2_with (with_reducible refine at_store 27 ?_; refine wl_store28 1 H rfl rfl rfl rfl ?_; clear H; intro w' H)
    refine bodyPost_ret (results_cell2 rfl _ _ _ _ rfl (load28 (H.get 1 rfl))) rfl ?_
    exact ⟨rfl, H.below⟩
  · rw [if_neg h123]
    have n123 : (c == 123) = false := beq_eq_false_iff_ne.2 h123
    replace h123 := hide h123
    replace hc := hide hc
    by_cases h63 : c = 63
    · subst h63
      rw [if_pos rfl]
      clear n123
      go_enter Tryz.func108, Tryz.ntmps108
      go_wp2_with (first | (with_reducible refine at_alloc 27 ?_; refine wl_alloc28 H ?_; clear H; intro g w' H q1 q2; clear q1 q2) | (with_reducible refine at_store 27 ?_; refine wl_store28 0 (n' := 4) (s' := noSet) (l' := .slice none 0 0) (mn' := 0) (mx' := 0) H rfl rfl rfl rfl ?_; clear H; intro w' H))
      refine (byteAt_i s k _ rfl).mono ?_
      rintro e w1 ⟨rfl, rfl⟩
      rw [hc.out]
      go_wp2_with (first | (with_reducible refine at_store 3 ?_; first | (refine wl_setMax 0 H rfl rfl rfl ?_; clear H; intro w' H) | (refine wl_setMin 0 H rfl rfl rfl ?_; clear H; intro w' H)) | (with_reducible refine at_load 27 ?_; refine wl_load28 0 H rfl rfl ?_) | (with_reducible refine at_store 27 ?_; refine wl_store28 1 H rfl rfl rfl rfl ?_; clear H; intro w' H))
      refine bodyPost_ret (results_cell2 rfl _ _ _ _ rfl (load28 (H.get 1 rfl))) rfl ?_
      exact ⟨rfl, H.below⟩
    · rw [if_neg h63]
      have n63 : (c == 63) = false := beq_eq_false_iff_ne.2 h63
      replace h63 := hide h63
      by_cases h43 : c = 43
      · subst h43
        rw [if_pos rfl]
        clear n123 n63
        go_enter Tryz.func108, Tryz.ntmps108
        go_wp2_with (first | (with_reducible refine at_alloc 27 ?_; refine wl_alloc28 H ?_; clear H; intro g w' H q1 q2; clear q1 q2) | (with_reducible refine at_store 27 ?_; refine wl_store28 0 (n' := 4) (s' := noSet) (l' := .slice none 0 0) (mn' := 0) (mx' := 0) H rfl rfl rfl rfl ?_; clear H; intro w' H))
        refine (byteAt_i s k _ rfl).mono ?_
        rintro e w1 ⟨rfl, rfl⟩
        rw [hc.out]
        go_wp2_with (first | (with_reducible refine at_store 3 ?_; first | (refine wl_setMax 0 H rfl rfl rfl ?_; clear H; intro w' H) | (refine wl_setMin 0 H rfl rfl rfl ?_; clear H; intro w' H)) | (with_reducible refine at_load 27 ?_; refine wl_load28 0 H rfl rfl ?_) | (with_reducible refine at_store 27 ?_; refine wl_store28 1 H rfl rfl rfl rfl ?_; clear H; intro w' H))
        refine bodyPost_ret (results_cell2 rfl _ _ _ _ rfl (load28 (H.get 1 rfl))) rfl ?_
        exact ⟨rfl, H.below⟩
      · rw [if_neg h43]
        have n43 : (c == 43) = false := beq_eq_false_iff_ne.2 h43
        replace h43 := hide h43
        by_cases h42 : c = 42
        · subst h42
          rw [if_pos rfl]
          clear n123 n63 n43
          go_enter Tryz.func108, Tryz.ntmps108
          go_wp2_with (first | (with_reducible refine at_alloc 27 ?_; refine wl_alloc28 H ?_; clear H; intro g w' H q1 q2; clear q1 q2) | (with_reducible refine at_store 27 ?_; refine wl_store28 0 (n' := 4) (s' := noSet) (l' := .slice none 0 0) (mn' := 0) (mx' := 0) H rfl rfl rfl rfl ?_; clear H; intro w' H))
          refine (byteAt_i s k _ rfl).mono ?_
          rintro e w1 ⟨rfl, rfl⟩
          rw [hc.out]
          go_wp2_with (first | (with_reducible refine at_store 3 ?_; first | (refine wl_setMax 0 H rfl rfl rfl ?_; clear H; intro w' H) | (refine wl_setMin 0 H rfl rfl rfl ?_; clear H; intro w' H)) | (with_reducible refine at_load 27 ?_; refine wl_load28 0 H rfl rfl ?_) | (with_reducible refine at_store 27 ?_; refine wl_store28 1 H rfl rfl rfl rfl ?_; clear H; intro w' H))
          refine bodyPost_ret (results_cell2 rfl _ _ _ _ rfl (load28 (H.get 1 rfl))) rfl ?_
          exact ⟨rfl, H.below⟩
        · rw [if_neg h42]
          have n42 : (c == 42) = false := beq_eq_false_iff_ne.2 h42
          replace h42 := hide h42
          go_enter Tryz.func108, Tryz.ntmps108
          go_wp2_with (first | (with_reducible refine at_alloc 27 ?_; refine wl_alloc28 H ?_; clear H; intro g w' H q1 q2; clear q1 q2) | (with_reducible refine at_store 27 ?_; refine wl_store28 0 (n' := 4) (s' := noSet) (l' := .slice none 0 0) (mn' := 0) (mx' := 0) H rfl rfl rfl rfl ?_; clear H; intro w' H))
          refine (byteAt_i s k _ rfl).mono ?_
          rintro e w1 ⟨rfl, rfl⟩
          rw [hc.out]
          go_wp2_with (with_reducible refine at_store 27 ?_; refine wl_store28 1 (n' := 0) (s' := noSet) (l' := .slice none 0 0) (mn' := 0) (mx' := 0) H rfl rfl rfl rfl ?_; clear H; intro w' H)
          refine bodyPost_ret (results_cell2 rfl _ _ _ _ rfl (load28 (H.get 1 rfl))) rfl ?_
          exact ⟨rfl, H.below⟩
end Go.Proofs.YtkfdikpnnkbgaaaGreatDoor
