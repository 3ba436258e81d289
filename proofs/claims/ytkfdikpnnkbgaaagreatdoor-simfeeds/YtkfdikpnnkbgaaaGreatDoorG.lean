/-
  Escapes, members, items of a class.
-/
import Derived.Test.YtkfdikpnnkbgaaaGreatDoorF
namespace Go.Proofs.YtkfdikpnnkbgaaaGreatDoor
open Go.RowKit
set_option linter.unusedVariables false
set_option linter.unusedSimpArgs false

def escR (s : ByteArray) (k : Nat) : Rs := if bt s (k + 1) = 120 then hexR s (k + 2) else match esc (bt s (k + 1)) with
  | none => (noSet, k + 1, false)
  | some x => (x, k + 2, true)
set_option maxHeartbeats 2000000 in
theorem escape_any (s : ByteArray) (k : Nat) (hk : k ≤ 90000) (w : World) {z : Int} (hz : z = (k : Int)) : Calls Tryz.prog 143 #[.string s, .int .i64 z] w fun e w' => e = .returned (.tuple #[setV (escR s k).1, .int .i64 ((escR s k).2.1 : Int), .bool (escR s k).2.2]) ∧ Below w.heap.size w w' := by
  subst hz
  have H := St.start Nope w
  unfold escR
  generalize hc : bt s (k + 1) = c
  replace hc := hide hc
  by_cases h1 : c = 120
  · subst h1
    rw [if_pos rfl]
    generalize hr : hexR s (k + 2) = r
    have P := hide (fun w z hz => hex_any s (k + 2) (by omega) w (z := z) hz)
    rw [hr] at P
    obtain ⟨x, d, ok⟩ := r
    simp only at P ⊢
    replace hr := hide hr
    go_enter Tryz.func143, Tryz.ntmps143
    go_wp2_with (with_reducible refine at_alloc 24 ?_; refine wl_alloc25 H ?_; clear H; intro g w' H q1 q2; clear q1 q2)
    refine (byteAt_i s (k + 1) _ (by omega)).mono ?_
    rintro e w1 ⟨rfl, rfl⟩
    rw [hc.out]
    go_wp2_with fail
    refine (P.out _ _ (by omega)).mono ?_
    rintro e w2 ⟨rfl, b2⟩
    replace H := H.call b2 (Nat.le_refl _)
    go_wp2_with (with_reducible refine at_store 24 ?_; refine wl_store25 0 H rfl rfl rfl ?_; clear H; intro w' H)
    refine bodyPost_ret (results_cell2 rfl _ _ g _ rfl (load25 (H.get 0 rfl))) rfl ?_
    exact ⟨rfl, H.below⟩
  · rw [if_neg h1]
    have h2 : (c == 120) = false := beq_eq_false_iff_ne.2 h1
    replace h1 := hide h1
    have P := hide (escaped_any c)
    generalize esc c = r at P ⊢
    cases r with
    | none =>
      simp only [Option.getD_none, Option.isSome_none] at P
      go_enter Tryz.func143, Tryz.ntmps143
      go_wp2_with (with_reducible refine at_alloc 24 ?_; refine wl_alloc25 H ?_; clear H; intro g w' H q1 q2; clear q1 q2)
      refine (byteAt_i s (k + 1) _ (by omega)).mono ?_
      rintro e w1 ⟨rfl, rfl⟩
      rw [hc.out]
      go_wp2_with fail
      refine (P.out _).mono ?_
      rintro e w2 ⟨rfl, b2⟩
      replace H := H.call b2 (Nat.le_refl _)
      go_wp2_with (first | (with_reducible refine at_alloc 24 ?_; refine wl_alloc25 H ?_; clear H; intro g2 w' H q1 q2; clear q1 q2) | (with_reducible refine at_store 24 ?_; first | (refine wl_store25 0 H rfl rfl rfl ?_; clear H; intro w' H) | (refine wl_store25 1 (s' := noSet) H rfl rfl rfl ?_; clear H; intro w' H)))
      refine bodyPost_ret (results_cell2 rfl _ _ g _ rfl (load25 (H.get 1 rfl))) rfl ?_
      exact ⟨rfl, H.below⟩
    | some x =>
      simp only [Option.getD_some, Option.isSome_some] at P
      go_enter Tryz.func143, Tryz.ntmps143
      go_wp2_with (with_reducible refine at_alloc 24 ?_; refine wl_alloc25 H ?_; clear H; intro g w' H q1 q2; clear q1 q2)
      refine (byteAt_i s (k + 1) _ (by omega)).mono ?_
      rintro e w1 ⟨rfl, rfl⟩
      rw [hc.out]
      go_wp2_with fail
      refine (P.out _).mono ?_
      rintro e w2 ⟨rfl, b2⟩
      replace H := H.call b2 (Nat.le_refl _)
      go_wp2_with (first | (with_reducible refine at_alloc 24 ?_; refine wl_alloc25 H ?_; clear H; intro g2 w' H q1 q2; clear q1 q2) | (with_reducible refine at_load 24 ?_; refine wl_load25 0 H rfl rfl ?_) | (with_reducible refine at_store 24 ?_; first | (refine wl_store25 0 H rfl rfl rfl ?_; clear H; intro w' H) | (refine wl_store25 1 H rfl rfl rfl ?_; clear H; intro w' H)))
      refine bodyPost_ret (results_cell2 rfl _ _ g _ rfl (load25 (H.get 1 rfl))) rfl ?_
      exact ⟨rfl, H.below⟩

def memR (s : ByteArray) (k : Nat) : Rs := if bt s k = 92 then escR s k else if bt s k = 93 ∨ bt s k = 91 ∨ bt s k = 45 then (noSet, k, false) else plR s k
set_option maxHeartbeats 2000000 in
theorem member_any (s : ByteArray) (k : Nat) (hk : k ≤ 80000) (w : World) {z : Int} (hz : z = (k : Int)) : Calls Tryz.prog 175 #[.string s, .int .i64 z] w fun e w' => e = .returned (.tuple #[setV (memR s k).1, .int .i64 ((memR s k).2.1 : Int), .bool (memR s k).2.2]) ∧ Below w.heap.size w w' := by
  subst hz
  have H := St.start Nope w
  unfold memR
  have P := hide (fun w z hz => escape_any s k (by omega) w (z := z) hz)
  have P2 := hide (fun w z hz => plain_any s k (by omega) w (z := z) hz)
  generalize escR s k = r1 at P ⊢
  generalize plR s k = r2 at P2 ⊢
  obtain ⟨x, d, ok⟩ := r1
  obtain ⟨x2, d2, ok2⟩ := r2
  simp only at P P2
  generalize hc : bt s k = c
  replace hc := hide hc
  by_cases h1 : c = 92
  · subst h1
    rw [if_pos rfl]
    go_enter Tryz.func175, Tryz.ntmps175
    go_wp2_with (with_reducible refine at_alloc 24 ?_; refine wl_alloc25 H ?_; clear H; intro g w' H q1 q2; clear q1 q2)
    refine (byteAt_i s (k) _ (rfl)).mono ?_
    rintro e w1 ⟨rfl, rfl⟩
    rw [hc.out]
    go_wp2_with fail
    refine (P.out _ _ rfl).mono ?_
    rintro e w2 ⟨rfl, b2⟩
    replace H := H.call b2 (Nat.le_refl _)
    go_wp2_with (with_reducible refine at_store 24 ?_; refine wl_store25 0 H rfl rfl rfl ?_; clear H; intro w' H)
    refine bodyPost_ret (results_cell2 rfl _ _ g _ rfl (load25 (H.get 0 rfl))) rfl ?_
    exact ⟨rfl, H.below⟩
  · rw [if_neg h1]
    have k1 : (c == 92) = false := beq_eq_false_iff_ne.2 h1
    replace h1 := hide h1
    by_cases h2 : c = 93 ∨ c = 91 ∨ c = 45
    · rw [if_pos h2]
      rcases h2 with rfl | rfl | rfl
      · clear k1
        go_enter Tryz.func175, Tryz.ntmps175
        go_wp2_with (with_reducible refine at_alloc 24 ?_; refine wl_alloc25 H ?_; clear H; intro g w' H q1 q2; clear q1 q2)
        refine (byteAt_i s (k) _ (rfl)).mono ?_
        rintro e w1 ⟨rfl, rfl⟩
        rw [hc.out]
        go_wp2_with (with_reducible refine at_store 24 ?_; refine wl_store25 0 (s' := noSet) H rfl rfl rfl ?_; clear H; intro w' H)
        refine bodyPost_ret (results_cell2 rfl _ _ g _ rfl (load25 (H.get 0 rfl))) rfl ?_
        exact ⟨rfl, H.below⟩
      · clear k1
        go_enter Tryz.func175, Tryz.ntmps175
        go_wp2_with (with_reducible refine at_alloc 24 ?_; refine wl_alloc25 H ?_; clear H; intro g w' H q1 q2; clear q1 q2)
        refine (byteAt_i s (k) _ (rfl)).mono ?_
        rintro e w1 ⟨rfl, rfl⟩
        rw [hc.out]
        go_wp2_with (with_reducible refine at_store 24 ?_; refine wl_store25 0 (s' := noSet) H rfl rfl rfl ?_; clear H; intro w' H)
        refine bodyPost_ret (results_cell2 rfl _ _ g _ rfl (load25 (H.get 0 rfl))) rfl ?_
        exact ⟨rfl, H.below⟩
      · clear k1
        go_enter Tryz.func175, Tryz.ntmps175
        go_wp2_with (with_reducible refine at_alloc 24 ?_; refine wl_alloc25 H ?_; clear H; intro g w' H q1 q2; clear q1 q2)
        refine (byteAt_i s (k) _ (rfl)).mono ?_
        rintro e w1 ⟨rfl, rfl⟩
        rw [hc.out]
        go_wp2_with (with_reducible refine at_store 24 ?_; refine wl_store25 0 (s' := noSet) H rfl rfl rfl ?_; clear H; intro w' H)
        refine bodyPost_ret (results_cell2 rfl _ _ g _ rfl (load25 (H.get 0 rfl))) rfl ?_
        exact ⟨rfl, H.below⟩
    · rw [if_neg h2]
      have k2 : (c == 93) = false := beq_eq_false_iff_ne.2 (by omega)
      have k3 : (c == 91) = false := beq_eq_false_iff_ne.2 (by omega)
      have k4 : (c == 45) = false := beq_eq_false_iff_ne.2 (by omega)
      replace h2 := hide h2
      go_enter Tryz.func175, Tryz.ntmps175
      go_wp2_with (with_reducible refine at_alloc 24 ?_; refine wl_alloc25 H ?_; clear H; intro g w' H q1 q2; clear q1 q2)
      refine (byteAt_i s (k) _ (rfl)).mono ?_
      rintro e w1 ⟨rfl, rfl⟩
      rw [hc.out]
      go_wp2_with fail
      refine (P2.out _ _ rfl).mono ?_
      rintro e w2 ⟨rfl, b2⟩
      replace H := H.call b2 (Nat.le_refl _)
      go_wp2_with (with_reducible refine at_store 24 ?_; refine wl_store25 0 H rfl rfl rfl ?_; clear H; intro w' H)
      refine bodyPost_ret (results_cell2 rfl _ _ g _ rfl (load25 (H.get 0 rfl))) rfl ?_
      exact ⟨rfl, H.below⟩
/-- How far a place goes that is read from k on. -/
def Far (s : ByteArray) (k : Nat) (r : Rs) : Prop := OkS r.1 ∧ k ≤ r.2.1 ∧ (r.2.1 ≤ s.size ∨ r.2.1 = k) ∧ (r.2.2 = true → k < r.2.1 ∧ r.2.1 ≤ s.size)
theorem pl_far (s : ByteArray) (k : Nat) : Far s k (plR s k) := by
  have h := bt_range s k
  unfold plR
  split
  · exact ⟨noSet_ok, Nat.le_refl _, .inr rfl, fun h => by cases h⟩
  · rename_i h1
    have := bt_lt (s := s) (k := k) (by omega)
    exact ⟨span_ok _ _ (by omega) (by omega), by simp, .inl (by simp; omega), fun _ => by simp; omega⟩
theorem hx_some {c : Int} (h : hx c ≠ none) : c ≠ 0 := fun e => h (by rw [e]; rfl)
theorem hex_far (s : ByteArray) (k : Nat) (hk : k ≤ s.size) : OkS (hexR s k).1 ∧ k ≤ (hexR s k).2.1 ∧ (hexR s k).2.1 ≤ s.size := by
  unfold hexR
  split
  · exact ⟨noSet_ok, Nat.le_refl _, hk⟩
  · rename_i h e
    have h1 := bt_lt (hx_some (by rw [e]; simp))
    split
    · exact ⟨noSet_ok, by simp, by simp; omega⟩
    · rename_i l e2
      have h2 := bt_lt (hx_some (by rw [e2]; simp))
      have r1 := hx_range e
      have r2 := hx_range e2
      exact ⟨span_ok _ _ (by omega) (by omega), by simp, by simp; omega⟩
theorem wordS_ok : OkS wordS := uni_ok (fun t ht => by simp only [List.mem_cons, List.not_mem_nil, or_false] at ht; rcases ht with rfl | rfl | rfl | rfl <;> exact span_ok _ _ (by omega) (by omega))
theorem spaceS_ok : OkS spaceS := uni_ok (fun t ht => by simp only [List.mem_cons, List.not_mem_nil, or_false] at ht; rcases ht with rfl | rfl | rfl <;> exact span_ok _ _ (by omega) (by omega))
theorem esc_ok {c : Int} {x : S4} (h : esc c = some x) : OkS x ∧ c ≠ 0 := by
  unfold esc at h
  split at h
  · rename_i hm
    simp only [selfs, List.mem_cons, List.not_mem_nil, or_false] at hm
    cases h
    exact ⟨span_ok _ _ (by omega) (by omega), by omega⟩
  · split at h
    · cases h; exact ⟨span_ok _ _ (by omega) (by omega), by omega⟩
    · split at h
      · cases h; exact ⟨span_ok _ _ (by omega) (by omega), by omega⟩
      · split at h
        · cases h; exact ⟨oth_ok (span_ok _ _ (by omega) (by omega)), by omega⟩
        · split at h
          · cases h; exact ⟨span_ok _ _ (by omega) (by omega), by omega⟩
          · split at h
            · cases h; exact ⟨oth_ok wordS_ok, by omega⟩
            · split at h
              · cases h; exact ⟨wordS_ok, by omega⟩
              · split at h
                · cases h; exact ⟨oth_ok spaceS_ok, by omega⟩
                · split at h
                  · cases h; exact ⟨spaceS_ok, by omega⟩
                  · cases h
theorem esc_far (s : ByteArray) (k : Nat) (hk : k < s.size) : Far s k (escR s k) := by
  unfold escR
  split
  · rename_i h1
    have h2 := bt_lt (s := s) (k := k + 1) (by omega)
    obtain ⟨a, b, c⟩ := hex_far s (k + 2) (by omega)
    exact ⟨a, by omega, .inl c, fun _ => ⟨by omega, c⟩⟩
  · split
    · exact ⟨noSet_ok, by simp, .inl (by simp; omega), fun h => by cases h⟩
    · rename_i x e
      obtain ⟨a, b⟩ := esc_ok e
      have h2 := bt_lt (s := s) (k := k + 1) b
      exact ⟨a, by simp, .inl (by simp; omega), fun _ => by simp; omega⟩
theorem mem_far (s : ByteArray) (k : Nat) : Far s k (memR s k) := by
  unfold memR
  split
  · exact esc_far s k (bt_lt (by omega))
  · split
    · exact ⟨noSet_ok, Nat.le_refl _, .inr rfl, fun h => by cases h⟩
    · exact pl_far s k
open Go.RowKit
set_option linter.unusedVariables false
set_option linter.unusedSimpArgs false

def itemR (s : ByteArray) (k : Nat) : Rs :=
  if (memR s k).2.2 = false ∨ bt s (memR s k).2.1 ≠ 45 then memR s k
  else match only (memR s k).1 with
    | none => (noSet, (memR s k).2.1, false)
    | some lo =>
      if (memR s ((memR s k).2.1 + 1)).2.2 = false then (noSet, (memR s ((memR s k).2.1 + 1)).2.1, false)
      else match only (memR s ((memR s k).2.1 + 1)).1 with
        | none => (noSet, (memR s k).2.1 + 2, false)
        | some hi => if hi < lo then (noSet, k, false) else (span lo.toNat hi.toNat, (memR s ((memR s k).2.1 + 1)).2.1, true)
theorem only_range {s : S4} (h : OkS s) {b : Int} (e : only s = some b) : 0 ≤ b ∧ b ≤ 255 := by
  unfold only at e
  split at e
  · cases e; exact posn_range h 4 (by omega)
  · cases e
set_option maxHeartbeats 4000000 in
theorem item_any (s : ByteArray) (hs : s.size ≤ 256) (k : Nat) (hk : k ≤ 1000) (w : World) (hT : Tab w) {z : Int} (hz : z = (k : Int)) : Calls Tryz.prog 159 #[.string s, .int .i64 z] w fun e w' => e = .returned (.tuple #[setV (itemR s k).1, .int .i64 ((itemR s k).2.1 : Int), .bool (itemR s k).2.2]) ∧ Below w.heap.size w w' := by
  subst hz
  have H := St.start Nope w
  unfold itemR
  have P := hide (fun w z hz => member_any s k (by omega) w (z := z) hz)
  have f1 := mem_far s k
  generalize memR s k = r at P f1 ⊢
  obtain ⟨x, d, ok⟩ := r
  obtain ⟨ox, f2, f3, f4⟩ := f1
  simp only at P ox f2 f3 f4 ⊢
  have hd : d ≤ 1000 := by omega
  cases ok with
  | false =>
    rw [if_pos (.inl rfl)]
    replace ox := hide ox
    replace f3 := hide f3
    replace f4 := hide f4
    go_enter Tryz.func159, Tryz.ntmps159
    go_wp2_with (with_reducible refine at_alloc 24 ?_; refine wl_alloc25 H ?_; clear H; intro g w' H q1 q2; clear q1 q2)
    refine (P.out _ _ rfl).mono ?_
    rintro e w2 ⟨rfl, b2⟩
    replace H := H.call b2 (Nat.le_refl _)
    go_wp2_with (first | (with_reducible refine at_alloc 24 ?_; refine wl_alloc25 H ?_; clear H; intro g2 w' H q1 q2; clear q1 q2) | (with_reducible refine at_load 24 ?_; first | (refine wl_load25 0 H rfl rfl ?_)) | (with_reducible refine at_store 24 ?_; first | (refine wl_store25 0 H rfl rfl rfl ?_; clear H; intro w' H) | (refine wl_store25 1 H rfl rfl rfl ?_; clear H; intro w' H)))
    refine bodyPost_ret (results_cell2 rfl _ _ g _ rfl (load25 (H.get 1 rfl))) rfl ?_
    exact ⟨rfl, H.below⟩
  | true =>
    obtain ⟨f5, f6⟩ := f4 rfl
    clear f4 f3
    generalize hc : bt s d = c
    replace hc := hide hc
    by_cases h1 : c = 45
    · subst h1
      rw [if_neg (by simp)]
      have O := hide (only_any x ox)
      have or_ := hide (fun b => only_range (b := b) ox)
      generalize only x = o at O or_ ⊢
      replace ox := hide ox
      cases o with
      | none =>
        simp only [Option.getD_none, Option.isSome_none] at O ⊢
        go_enter Tryz.func159, Tryz.ntmps159
        go_wp2_with (with_reducible refine at_alloc 24 ?_; refine wl_alloc25 H ?_; clear H; intro g w' H q1 q2; clear q1 q2)
        refine (P.out _ _ rfl).mono ?_
        rintro e w2 ⟨rfl, b2⟩
        replace H := H.call b2 (Nat.le_refl _)
        go_wp2_with (first | (with_reducible refine at_alloc 24 ?_; refine wl_alloc25 H ?_; clear H; intro g2 w' H q1 q2; clear q1 q2) | (with_reducible refine at_store 24 ?_; first | (refine wl_store25 0 H rfl rfl rfl ?_; clear H; intro w' H)))
        refine (byteAt_i s (d) _ (rfl)).mono ?_
        rintro e w1 ⟨rfl, rfl⟩
        rw [hc.out]
        go_wp2_with (with_reducible refine at_load 24 ?_; first | (refine wl_load25 0 H rfl rfl ?_))
        refine (O.out _ (hT.st H (fun _ _ h => h))).mono ?_
        rintro e w2 ⟨rfl, b2⟩
        replace H := H.call b2 (Nat.le_refl _)
        go_wp2_with (with_reducible refine at_store 24 ?_; first | (refine wl_store25 1 (s' := noSet) H rfl rfl rfl ?_; clear H; intro w' H))
        refine bodyPost_ret (results_cell2 rfl _ _ g _ rfl (load25 (H.get 1 rfl))) rfl ?_
        exact ⟨rfl, H.below⟩
      | some lo =>
        simp only [Option.getD_some, Option.isSome_some] at O ⊢
        obtain ⟨l1, l2⟩ := or_.out lo rfl
        have P2 := hide (fun w z hz => member_any s (d + 1) (by omega) w (z := z) hz)
        have q1 := mem_far s (d + 1)
        generalize memR s (d + 1) = r2 at P2 q1 ⊢
        obtain ⟨x2, d2, ok2⟩ := r2
        obtain ⟨ox2, q2, q3, q4⟩ := q1
        simp only at P2 ox2 q2 q3 q4 ⊢
        have hd2 : d2 ≤ 1001 := by omega
        replace q3 := hide q3
        replace q4 := hide q4
        cases ok2 with
        | false =>
          rw [if_pos rfl]
          replace ox2 := hide ox2
          go_enter Tryz.func159, Tryz.ntmps159
          go_wp2_with (with_reducible refine at_alloc 24 ?_; refine wl_alloc25 H ?_; clear H; intro g w' H q1 q2; clear q1 q2)
          refine (P.out _ _ rfl).mono ?_
          rintro e w2 ⟨rfl, b2⟩
          replace H := H.call b2 (Nat.le_refl _)
          go_wp2_with (first | (with_reducible refine at_alloc 24 ?_; refine wl_alloc25 H ?_; clear H; intro g2 w' H q1 q2; clear q1 q2) | (with_reducible refine at_store 24 ?_; first | (refine wl_store25 0 H rfl rfl rfl ?_; clear H; intro w' H)))
          refine (byteAt_i s (d) _ (rfl)).mono ?_
          rintro e w1 ⟨rfl, rfl⟩
          rw [hc.out]
          go_wp2_with (with_reducible refine at_load 24 ?_; first | (refine wl_load25 0 H rfl rfl ?_))
          refine (O.out _ (hT.st H (fun _ _ h => h))).mono ?_
          rintro e w2 ⟨rfl, b2⟩
          replace H := H.call b2 (Nat.le_refl _)
          go_wp2_with fail
          refine (P2.out _ _ (by omega)).mono ?_
          rintro e w2 ⟨rfl, b2⟩
          replace H := H.call b2 (Nat.le_refl _)
          go_wp2_with (first | (with_reducible refine at_alloc 24 ?_; refine wl_alloc25 H ?_; clear H; intro g3 w' H q1 q2; clear q1 q2) | (with_reducible refine at_store 24 ?_; first | (refine wl_store25 0 H rfl rfl rfl ?_; clear H; intro w' H) | (refine wl_store25 2 (s' := noSet) H rfl rfl rfl ?_; clear H; intro w' H)))
          refine bodyPost_ret (results_cell2 rfl _ _ g _ rfl (load25 (H.get 2 rfl))) rfl ?_
          exact ⟨rfl, H.below⟩
        | true =>
          rw [if_neg (by simp)]
          have O2 := hide (only_any x2 ox2)
          have or2 := hide (fun b => only_range (b := b) ox2)
          generalize only x2 = o2 at O2 or2 ⊢
          replace ox2 := hide ox2
          cases o2 with
          | none =>
            simp only [Option.getD_none, Option.isSome_none] at O2 ⊢
            go_enter Tryz.func159, Tryz.ntmps159
            go_wp2_with (with_reducible refine at_alloc 24 ?_; refine wl_alloc25 H ?_; clear H; intro g w' H q1 q2; clear q1 q2)
            refine (P.out _ _ rfl).mono ?_
            rintro e w2 ⟨rfl, b2⟩
            replace H := H.call b2 (Nat.le_refl _)
            go_wp2_with (first | (with_reducible refine at_alloc 24 ?_; refine wl_alloc25 H ?_; clear H; intro g2 w' H q1 q2; clear q1 q2) | (with_reducible refine at_store 24 ?_; first | (refine wl_store25 0 H rfl rfl rfl ?_; clear H; intro w' H)))
            refine (byteAt_i s (d) _ (rfl)).mono ?_
            rintro e w1 ⟨rfl, rfl⟩
            rw [hc.out]
            go_wp2_with (with_reducible refine at_load 24 ?_; first | (refine wl_load25 0 H rfl rfl ?_))
            refine (O.out _ (hT.st H (fun _ _ h => h))).mono ?_
            rintro e w2 ⟨rfl, b2⟩
            replace H := H.call b2 (Nat.le_refl _)
            go_wp2_with fail
            refine (P2.out _ _ (by omega)).mono ?_
            rintro e w2 ⟨rfl, b2⟩
            replace H := H.call b2 (Nat.le_refl _)
            go_wp2_with (first | (with_reducible refine at_alloc 24 ?_; refine wl_alloc25 H ?_; clear H; intro g3 w' H q1 q2; clear q1 q2) | (with_reducible refine at_store 24 ?_; first | (refine wl_store25 0 H rfl rfl rfl ?_; clear H; intro w' H)) | (with_reducible refine at_load 24 ?_; first | (refine wl_load25 0 H rfl rfl ?_)))
            refine (O2.out _ (hT.st H (fun _ _ h => h))).mono ?_
            rintro e w2 ⟨rfl, b2⟩
            replace H := H.call b2 (Nat.le_refl _)
            go_wp2_with (with_reducible refine at_store 24 ?_; first | (refine wl_store25 2 (s' := noSet) H rfl rfl rfl ?_; clear H; intro w' H))
            refine bodyPost_ret (results_cell2 rfl _ _ g _ rfl (load25 (H.get 2 rfl))) rfl ?_
            exact ⟨rfl, H.below⟩
          | some hi =>
            simp only [Option.getD_some, Option.isSome_some] at O2 ⊢
            obtain ⟨m1, m2⟩ := or2.out hi rfl
            by_cases hlt : hi < lo
            · rw [if_pos hlt]
              go_enter Tryz.func159, Tryz.ntmps159
              go_wp2_with (with_reducible refine at_alloc 24 ?_; refine wl_alloc25 H ?_; clear H; intro g w' H q1 q2; clear q1 q2)
              refine (P.out _ _ rfl).mono ?_
              rintro e w2 ⟨rfl, b2⟩
              replace H := H.call b2 (Nat.le_refl _)
              go_wp2_with (first | (with_reducible refine at_alloc 24 ?_; refine wl_alloc25 H ?_; clear H; intro g2 w' H q1 q2; clear q1 q2) | (with_reducible refine at_store 24 ?_; first | (refine wl_store25 0 H rfl rfl rfl ?_; clear H; intro w' H)))
              refine (byteAt_i s (d) _ (rfl)).mono ?_
              rintro e w1 ⟨rfl, rfl⟩
              rw [hc.out]
              go_wp2_with (with_reducible refine at_load 24 ?_; first | (refine wl_load25 0 H rfl rfl ?_))
              refine (O.out _ (hT.st H (fun _ _ h => h))).mono ?_
              rintro e w2 ⟨rfl, b2⟩
              replace H := H.call b2 (Nat.le_refl _)
              go_wp2_with fail
              refine (P2.out _ _ (by omega)).mono ?_
              rintro e w2 ⟨rfl, b2⟩
              replace H := H.call b2 (Nat.le_refl _)
              go_wp2_with (first | (with_reducible refine at_alloc 24 ?_; refine wl_alloc25 H ?_; clear H; intro g3 w' H q1 q2; clear q1 q2) | (with_reducible refine at_store 24 ?_; first | (refine wl_store25 0 H rfl rfl rfl ?_; clear H; intro w' H)) | (with_reducible refine at_load 24 ?_; first | (refine wl_load25 0 H rfl rfl ?_)))
              refine (O2.out _ (hT.st H (fun _ _ h => h))).mono ?_
              rintro e w2 ⟨rfl, b2⟩
              replace H := H.call b2 (Nat.le_refl _)
              go_wp2_with (with_reducible refine at_store 24 ?_; first | (refine wl_store25 2 (s' := noSet) H rfl rfl rfl ?_; clear H; intro w' H))
              refine bodyPost_ret (results_cell2 rfl _ _ g _ rfl (load25 (H.get 2 rfl))) rfl ?_
              exact ⟨rfl, H.below⟩
            · rw [if_neg hlt]
              go_enter Tryz.func159, Tryz.ntmps159
              go_wp2_with (with_reducible refine at_alloc 24 ?_; refine wl_alloc25 H ?_; clear H; intro g w' H q1 q2; clear q1 q2)
              refine (P.out _ _ rfl).mono ?_
              rintro e w2 ⟨rfl, b2⟩
              replace H := H.call b2 (Nat.le_refl _)
              go_wp2_with (first | (with_reducible refine at_alloc 24 ?_; refine wl_alloc25 H ?_; clear H; intro g2 w' H q1 q2; clear q1 q2) | (with_reducible refine at_store 24 ?_; first | (refine wl_store25 0 H rfl rfl rfl ?_; clear H; intro w' H)))
              refine (byteAt_i s (d) _ (rfl)).mono ?_
              rintro e w1 ⟨rfl, rfl⟩
              rw [hc.out]
              go_wp2_with (with_reducible refine at_load 24 ?_; first | (refine wl_load25 0 H rfl rfl ?_))
              refine (O.out _ (hT.st H (fun _ _ h => h))).mono ?_
              rintro e w2 ⟨rfl, b2⟩
              replace H := H.call b2 (Nat.le_refl _)
              go_wp2_with fail
              refine (P2.out _ _ (by omega)).mono ?_
              rintro e w2 ⟨rfl, b2⟩
              replace H := H.call b2 (Nat.le_refl _)
              go_wp2_with (first | (with_reducible refine at_alloc 24 ?_; refine wl_alloc25 H ?_; clear H; intro g3 w' H q1 q2; clear q1 q2) | (with_reducible refine at_store 24 ?_; first | (refine wl_store25 0 H rfl rfl rfl ?_; clear H; intro w' H)) | (with_reducible refine at_load 24 ?_; first | (refine wl_load25 0 H rfl rfl ?_)))
              refine (O2.out _ (hT.st H (fun _ _ h => h))).mono ?_
              rintro e w2 ⟨rfl, b2⟩
              replace H := H.call b2 (Nat.le_refl _)
              go_wp2_with fail
              refine (span_any lo.toNat hi.toNat (by omega) (by omega) _ (by omega) (by omega)).mono ?_
              rintro e w2 ⟨rfl, b2⟩
              replace H := H.call b2 (Nat.le_refl _)
              go_wp2_with (with_reducible refine at_store 24 ?_; first | (refine wl_store25 2 H rfl rfl rfl ?_; clear H; intro w' H))
              refine bodyPost_ret (results_cell2 rfl _ _ g _ rfl (load25 (H.get 2 rfl))) rfl ?_
              exact ⟨rfl, H.below⟩
    · rw [if_pos (.inr h1)]
      have h2 : (c != 45) = true := by simpa using h1
      replace h1 := hide h1
      replace ox := hide ox
      go_enter Tryz.func159, Tryz.ntmps159
      go_wp2_with (with_reducible refine at_alloc 24 ?_; refine wl_alloc25 H ?_; clear H; intro g w' H q1 q2; clear q1 q2)
      refine (P.out _ _ rfl).mono ?_
      rintro e w2 ⟨rfl, b2⟩
      replace H := H.call b2 (Nat.le_refl _)
      go_wp2_with (first | (with_reducible refine at_alloc 24 ?_; refine wl_alloc25 H ?_; clear H; intro g2 w' H q1 q2; clear q1 q2) | (with_reducible refine at_store 24 ?_; first | (refine wl_store25 0 H rfl rfl rfl ?_; clear H; intro w' H)))
      refine (byteAt_i s (d) _ (rfl)).mono ?_
      rintro e w1 ⟨rfl, rfl⟩
      rw [hc.out]
      go_wp2_with (first | (with_reducible refine at_load 24 ?_; first | (refine wl_load25 0 H rfl rfl ?_)) | (with_reducible refine at_store 24 ?_; first | (refine wl_store25 1 H rfl rfl rfl ?_; clear H; intro w' H)))
      refine bodyPost_ret (results_cell2 rfl _ _ g _ rfl (load25 (H.get 1 rfl))) rfl ?_
      exact ⟨rfl, H.below⟩
theorem item_far (s : ByteArray) (k : Nat) : Far s k (itemR s k) := by
  obtain ⟨o1, f1, f2, f3⟩ := mem_far s k
  obtain ⟨o2, g1, g2, g3⟩ := mem_far s ((memR s k).2.1 + 1)
  unfold itemR
  split
  · exact ⟨o1, f1, f2, f3⟩
  · rename_i h
    have hok : (memR s k).2.2 = true := by simpa using fun e => h (.inl e)
    have h45 : bt s (memR s k).2.1 = 45 := Classical.byContradiction fun e => h (.inr e)
    have hl := bt_lt (s := s) (k := (memR s k).2.1) (by omega)
    have f4 := f3 hok
    split
    · exact ⟨noSet_ok, f1, .inl (by simp; omega), fun h => by cases h⟩
    · rename_i lo e1
      split
      · exact ⟨noSet_ok, by simp; omega, .inl (by simp; omega), fun h => by cases h⟩
      · rename_i h2
        have h3 := g3 (by simpa using h2)
        split
        · exact ⟨noSet_ok, by simp; omega, .inl (by simp; omega), fun h => by cases h⟩
        · rename_i hi e2
          have r1 := only_range o1 e1
          have r2 := only_range o2 e2
          split
          · exact ⟨noSet_ok, Nat.le_refl _, .inr rfl, fun h => by cases h⟩
          · exact ⟨span_ok _ _ (by omega) (by omega), by simp; omega, .inl (by simp; omega), fun _ => by simp; omega⟩
end Go.Proofs.YtkfdikpnnkbgaaaGreatDoor
