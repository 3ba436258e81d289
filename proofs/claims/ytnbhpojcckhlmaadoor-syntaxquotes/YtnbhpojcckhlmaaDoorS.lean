/-
  The parser's closures, fifth part: brackets.
-/
import Derived.Test.YtnbhpojcckhlmaaDoorR
namespace Go.Proofs.YtnbhpojcckhlmaaDoor
open Go.RowKit
set_option linter.unusedVariables false
set_option linter.unusedSimpArgs false

theorem TrV.zeroV (w : World) (P : Nat → Prop) : TrV w P (reV 0 noSet (.slice none 0 0) 0 0) (⟨0, noSet, 0, 0⟩, .nil) := ⟨_, [], rfl, ⟨rfl, .inl ⟨rfl, rfl⟩⟩, fun b hb => (by cases hb), rfl⟩
def brE (s : ByteArray) (r : Out) : Out := match r with
  | .error p => .error p
  | .ok (t, d) => if bt s d = 41 then .ok (t, d + 1) else .error d
theorem brM_eq (s : ByteArray) (m a : Nat) : brM s (m + 1) a = if (opR s a).2 = true then brE s (altM (brM s m) s (opR s a).1) else .error (opR s a).1 := rfl
set_option maxHeartbeats 8000000 in
theorem br_zero (n : Nat) (s : ByteArray) : BrOk n s 32 (brM s 0) := by
  intro w a hE hT hb
  show Calls _ _ _ _ (Post n s 32 w (.error a))
  have H : St (S3 n) w w (env n s a 32 true) := hE.st
  go_enter Tryd.func27, Tryd.ntmps27
  go_wp2_with (first | (with_reducible refine at_alloc 28 ?_; refine wl_alloc28 H ?_; clear H; intro g w' H q1 q2) | (with_reducible refine at_load 9 ?_; first | (refine wl_ld9 4 0 H rfl rfl rfl ?_)) | (with_reducible refine at_load 3 ?_; first | (refine wl_ld3 1 0 H rfl rfl rfl ?_) | (refine wl_ld3 2 0 H rfl rfl rfl ?_)) | (with_reducible refine at_load 4 ?_; first | (refine wl_ld4 3 0 H rfl rfl rfl ?_)) | (with_reducible refine at_load 59 ?_; first | (refine wl_ld59 5 0 H rfl rfl rfl ?_; simp only [brF, atF, piF, seF, alF])) | (with_reducible refine at_store 3 ?_; first | (refine wl_st3 1 H rfl rfl rfl ?_; clear H; intro w' H) | (refine wl_st3 2 H rfl rfl rfl ?_; clear H; intro w' H)) | (with_reducible refine at_store 4 ?_; refine wl_st4 3 H rfl rfl rfl ?_; clear H; intro w' H) | (with_reducible refine at_load 28 ?_; refine wl_load28 0 H rfl rfl ?_) | (with_reducible refine at_store 28 ?_; refine wl_store28 0 H rfl rfl rfl rfl ?_; clear H; intro w' H))
  refine bodyPost_ret (results_cell0 rfl _ _ _ _ rfl (load28 (H.get 0 rfl))) rfl ?_
  exact ⟨_, (⟨0, noSet, 0, 0⟩, .nil), a, 33, false, rfl, TrV.zeroV _ _, St.ev (M := [_]) H, H.but, ⟨rfl, rfl⟩⟩

set_option maxHeartbeats 8000000 in
theorem br_succ (n : Nat) (hn : 1 < n) (s : ByteArray) (hs : s.size ≤ 256) (o : Int) (ho : 0 ≤ o ∧ o ≤ 31) (m : Nat) (IH : BrOk n s (o + 1) (brM s m)) : BrOk n s o (brM s (m + 1)) := by
  intro w a hE hT hb
  have H : St (S3 n) w w (env n s a o true) := hE.st
  have hlt := bt_lt (s := s) (k := a) (by omega)
  obtain ⟨o1, o2⟩ := op_far s a hlt
  have hE8 := hE.lt
  rw [brM_eq]
  have PO := hide (fun w => opening_any s a (by omega) w)
  have PA := hide (fun w hT hE => alt_any n hn s hs (o + 1) (brM s m) IH (3 * m + 1) (by omega) (br_good s m) w hT (opR s a).1 o2 hE)
  have GA := alt_good (by omega) (br_good s m) (opR s a).1 o2
  generalize altM (brM s m) s (opR s a).1 = rA at PA GA ⊢
  generalize opR s a = r0 at PO PA GA o1 o2 ⊢
  obtain ⟨d, ok⟩ := r0
  simp only at PO PA GA o1 o2 ⊢
  replace IH := hide IH
  replace hb := hide hb
  obtain ⟨ho1, ho2⟩ := ho
  have hw1 : o + 1 ≤ 32 := by omega
  cases ok with
  | false =>
    rw [if_neg (by simp)]
    go_enter Tryd.func27, Tryd.ntmps27
    go_wp2_with (first | (with_reducible refine at_alloc 28 ?_; refine wl_alloc28 H ?_; clear H; intro g w' H q1 q2) | (with_reducible refine at_load 9 ?_; first | (refine wl_ld9 4 0 H rfl rfl rfl ?_)) | (with_reducible refine at_load 3 ?_; first | (refine wl_ld3 1 0 H rfl rfl rfl ?_) | (refine wl_ld3 2 0 H rfl rfl rfl ?_)) | (with_reducible refine at_load 4 ?_; first | (refine wl_ld4 3 0 H rfl rfl rfl ?_)) | (with_reducible refine at_load 59 ?_; first | (refine wl_ld59 5 0 H rfl rfl rfl ?_; simp only [brF, atF, piF, seF, alF])) | (with_reducible refine at_store 3 ?_; first | (refine wl_st3 1 H rfl rfl rfl ?_; clear H; intro w' H) | (refine wl_st3 2 H rfl rfl rfl ?_; clear H; intro w' H)) | (with_reducible refine at_store 4 ?_; refine wl_st4 3 H rfl rfl rfl ?_; clear H; intro w' H) | (with_reducible refine at_load 28 ?_; refine wl_load28 0 H rfl rfl ?_) | (with_reducible refine at_store 28 ?_; refine wl_store28 0 H rfl rfl rfl rfl ?_; clear H; intro w' H))
    refine (PO.out _).mono ?_
    rintro e w1 ⟨rfl, rfl⟩
    go_wp2_with (first | (with_reducible refine at_alloc 28 ?_; refine wl_alloc28 H ?_; clear H; intro g w' H q1 q2) | (with_reducible refine at_load 9 ?_; first | (refine wl_ld9 4 0 H rfl rfl rfl ?_)) | (with_reducible refine at_load 3 ?_; first | (refine wl_ld3 1 0 H rfl rfl rfl ?_) | (refine wl_ld3 2 0 H rfl rfl rfl ?_)) | (with_reducible refine at_load 4 ?_; first | (refine wl_ld4 3 0 H rfl rfl rfl ?_)) | (with_reducible refine at_load 59 ?_; first | (refine wl_ld59 5 0 H rfl rfl rfl ?_; simp only [brF, atF, piF, seF, alF])) | (with_reducible refine at_store 3 ?_; first | (refine wl_st3 1 H rfl rfl rfl ?_; clear H; intro w' H) | (refine wl_st3 2 H rfl rfl rfl ?_; clear H; intro w' H)) | (with_reducible refine at_store 4 ?_; refine wl_st4 3 H rfl rfl rfl ?_; clear H; intro w' H) | (with_reducible refine at_load 28 ?_; refine wl_load28 0 H rfl rfl ?_) | (with_reducible refine at_store 28 ?_; refine wl_store28 0 H rfl rfl rfl rfl ?_; clear H; intro w' H))
    refine bodyPost_ret (results_cell0 rfl _ _ _ _ rfl (load28 (H.get 0 rfl))) rfl ?_
    exact ⟨_, (⟨0, noSet, 0, 0⟩, .nil), d, o + 1, false, rfl, TrV.zeroV _ _, St.ev (M := [_]) H, H.but, ⟨rfl, rfl⟩⟩
  | true =>
    rw [if_pos rfl]
    generalize hres : brE s rA = res
    replace hres := hide hres
    go_enter Tryd.func27, Tryd.ntmps27
    go_wp2_with (first | (with_reducible refine at_alloc 28 ?_; refine wl_alloc28 H ?_; clear H; intro g w' H q1 q2) | (with_reducible refine at_load 9 ?_; first | (refine wl_ld9 4 0 H rfl rfl rfl ?_)) | (with_reducible refine at_load 3 ?_; first | (refine wl_ld3 1 0 H rfl rfl rfl ?_) | (refine wl_ld3 2 0 H rfl rfl rfl ?_)) | (with_reducible refine at_load 4 ?_; first | (refine wl_ld4 3 0 H rfl rfl rfl ?_)) | (with_reducible refine at_load 59 ?_; first | (refine wl_ld59 5 0 H rfl rfl rfl ?_; simp only [brF, atF, piF, seF, alF])) | (with_reducible refine at_store 3 ?_; first | (refine wl_st3 1 H rfl rfl rfl ?_; clear H; intro w' H) | (refine wl_st3 2 H rfl rfl rfl ?_; clear H; intro w' H)) | (with_reducible refine at_store 4 ?_; refine wl_st4 3 H rfl rfl rfl ?_; clear H; intro w' H) | (with_reducible refine at_load 28 ?_; refine wl_load28 0 H rfl rfl ?_) | (with_reducible refine at_store 28 ?_; refine wl_store28 0 H rfl rfl rfl rfl ?_; clear H; intro w' H))
    refine (PO.out _).mono ?_
    rintro e w1 ⟨rfl, rfl⟩
    go_wp2_with (first | (with_reducible refine at_alloc 28 ?_; refine wl_alloc28 H ?_; clear H; intro g w' H q1 q2) | (with_reducible refine at_load 9 ?_; first | (refine wl_ld9 4 0 H rfl rfl rfl ?_)) | (with_reducible refine at_load 3 ?_; first | (refine wl_ld3 1 0 H rfl rfl rfl ?_) | (refine wl_ld3 2 0 H rfl rfl rfl ?_)) | (with_reducible refine at_load 4 ?_; first | (refine wl_ld4 3 0 H rfl rfl rfl ?_)) | (with_reducible refine at_load 59 ?_; first | (refine wl_ld59 5 0 H rfl rfl rfl ?_; simp only [brF, atF, piF, seF, alF])) | (with_reducible refine at_store 3 ?_; first | (refine wl_st3 1 H rfl rfl rfl ?_; clear H; intro w' H) | (refine wl_st3 2 H rfl rfl rfl ?_; clear H; intro w' H)) | (with_reducible refine at_store 4 ?_; refine wl_st4 3 H rfl rfl rfl ?_; clear H; intro w' H) | (with_reducible refine at_load 28 ?_; refine wl_load28 0 H rfl rfl ?_) | (with_reducible refine at_store 28 ?_; refine wl_store28 0 H rfl rfl rfl rfl ?_; clear H; intro w' H))
    have hgl := H.lti 0 rfl
    have hs1 := H.but.size
    refine (PA.out _ (tab_st hT H hn) (St.ev (M := [_]) H)).mono ?_
    rintro e w2 ⟨x, t, a2, o2', r2, rfl, T, E2, B2, A2⟩
    have W2 := St.closure (M := [_]) H B2 (fun i _ h => h) E2
    have hs2 := B2.size
    clear H PA
    have H := St.rebaseE (M := [_]) W2 (fun k => k = g) (fun x hx => by simp only [List.mem_cons, List.not_mem_nil, or_false] at hx; subst hx; rfl)
    obtain ⟨va, vn, vc, hx⟩ := T.val
    subst hx
    have keep : Hid (∀ w', But (fun k => S3 n k ∨ k = g) w2 w' → TrV w' (fun b => w.heap.size ≤ b) (reV t.1.k t.1.s (.slice va vn vc) t.1.mn t.1.mx) t) := fun w' hb =>
      ((T.mono (P' := fun b => w.heap.size ≤ b ∧ b ≠ g ∧ ¬ S3 n b) (fun b hb hP => by simp only [S3]; omega)).kept (fun b hP hl => hb.block b hl (fun h => by rcases h with h | h; exact hP.2.2 h; exact hP.2.1 h))).mono (fun b _ hP => hP.1)
    have fin : Hid (∀ w', But (fun k => S3 n k ∨ k = g) w2 w' → But (S3 n) w w') := fun w' hb => W2.but.trans hb (fun i hi h => by rcases h with h | h; exact h; omega)
    clear T B2 E2 W2
    cases rA with
    | error p =>
      obtain ⟨rfl, rfl⟩ := A2
      subst hres
      go_wp2_with (first | (with_reducible refine at_alloc 28 ?_; refine wl_alloc28 H ?_; clear H; intro g w' H q1 q2) | (with_reducible refine at_load 9 ?_; first | (refine wl_ld9 4 0 H rfl rfl rfl ?_)) | (with_reducible refine at_load 3 ?_; first | (refine wl_ld3 1 0 H rfl rfl rfl ?_) | (refine wl_ld3 2 0 H rfl rfl rfl ?_)) | (with_reducible refine at_load 4 ?_; first | (refine wl_ld4 3 0 H rfl rfl rfl ?_)) | (with_reducible refine at_load 59 ?_; first | (refine wl_ld59 5 0 H rfl rfl rfl ?_; simp only [brF, atF, piF, seF, alF])) | (with_reducible refine at_store 3 ?_; first | (refine wl_st3 1 H rfl rfl rfl ?_; clear H; intro w' H) | (refine wl_st3 2 H rfl rfl rfl ?_; clear H; intro w' H)) | (with_reducible refine at_store 4 ?_; refine wl_st4 3 H rfl rfl rfl ?_; clear H; intro w' H) | (with_reducible refine at_load 28 ?_; refine wl_load28 0 H rfl rfl ?_) | (with_reducible refine at_store 28 ?_; refine wl_store28 0 H rfl rfl rfl rfl ?_; clear H; intro w' H))
      refine bodyPost_ret (results_cell0 rfl _ _ _ _ rfl (load28 (H.get 0 rfl))) rfl ?_
      exact ⟨_, t, a2, o2', false, rfl, keep.out _ H.but, St.ev (M := [_]) H, fin.out _ H.but, ⟨rfl, rfl⟩⟩
    | ok td =>
      obtain ⟨t', d2⟩ := td
      obtain ⟨rfl, rfl, rfl, rfl⟩ := A2
      obtain ⟨c1, c2, c3, c4, c5⟩ := GA
      replace c3 := hide c3
      replace c4 := hide c4
      replace c5 := hide c5
      simp only [brE] at hres
      by_cases h41 : bt s a2 = 41
      · rw [if_pos h41] at hres
        subst hres
        replace h41 := hide h41
        go_wp2_with (first | (with_reducible refine at_alloc 28 ?_; refine wl_alloc28 H ?_; clear H; intro g w' H q1 q2) | (with_reducible refine at_load 9 ?_; first | (refine wl_ld9 4 0 H rfl rfl rfl ?_)) | (with_reducible refine at_load 3 ?_; first | (refine wl_ld3 1 0 H rfl rfl rfl ?_) | (refine wl_ld3 2 0 H rfl rfl rfl ?_)) | (with_reducible refine at_load 4 ?_; first | (refine wl_ld4 3 0 H rfl rfl rfl ?_)) | (with_reducible refine at_load 59 ?_; first | (refine wl_ld59 5 0 H rfl rfl rfl ?_; simp only [brF, atF, piF, seF, alF])) | (with_reducible refine at_store 3 ?_; first | (refine wl_st3 1 H rfl rfl rfl ?_; clear H; intro w' H) | (refine wl_st3 2 H rfl rfl rfl ?_; clear H; intro w' H)) | (with_reducible refine at_store 4 ?_; refine wl_st4 3 H rfl rfl rfl ?_; clear H; intro w' H) | (with_reducible refine at_load 28 ?_; refine wl_load28 0 H rfl rfl ?_) | (with_reducible refine at_store 28 ?_; refine wl_store28 0 H rfl rfl rfl rfl ?_; clear H; intro w' H; have cA := H.cell 1 0 rfl (v := .int .i64 (a2 : Int)) rfl; have cS := H.cell 4 0 rfl (v := .string s) rfl))
        refine (byteAt_i s a2 _ rfl).mono ?_
        rintro e w1 ⟨rfl, rfl⟩
        rw [h41.out]
        clear cA cS
        go_wp2_with (first | (with_reducible refine at_alloc 28 ?_; refine wl_alloc28 H ?_; clear H; intro g w' H q1 q2) | (with_reducible refine at_load 9 ?_; first | (refine wl_ld9 4 0 H rfl rfl rfl ?_)) | (with_reducible refine at_load 3 ?_; first | (refine wl_ld3 1 0 H rfl rfl rfl ?_) | (refine wl_ld3 2 0 H rfl rfl rfl ?_)) | (with_reducible refine at_load 4 ?_; first | (refine wl_ld4 3 0 H rfl rfl rfl ?_)) | (with_reducible refine at_load 59 ?_; first | (refine wl_ld59 5 0 H rfl rfl rfl ?_; simp only [brF, atF, piF, seF, alF])) | (with_reducible refine at_store 3 ?_; first | (refine wl_st3 1 H rfl rfl rfl ?_; clear H; intro w' H) | (refine wl_st3 2 H rfl rfl rfl ?_; clear H; intro w' H)) | (with_reducible refine at_store 4 ?_; refine wl_st4 3 H rfl rfl rfl ?_; clear H; intro w' H) | (with_reducible refine at_load 28 ?_; refine wl_load28 0 H rfl rfl ?_) | (with_reducible refine at_store 28 ?_; refine wl_store28 0 H rfl rfl rfl rfl ?_; clear H; intro w' H))
        refine bodyPost_ret (results_cell0 rfl _ _ _ _ rfl (load28 (H.get 0 rfl))) rfl ?_
        exact ⟨_, t, a2 + 1, o, true, rfl, keep.out _ H.but, St.ev (M := [_]) (a := a2 + 1) (o := o) (r := true) H, fin.out _ H.but, ⟨rfl, rfl, rfl, rfl⟩⟩
      · rw [if_neg h41] at hres
        subst hres
        generalize hq : bt s a2 = q at h41
        have n41 : (q == 41) = false := beq_eq_false_iff_ne.2 h41
        replace h41 := hide h41
        replace hq := hide hq
        go_wp2_with (first | (with_reducible refine at_alloc 28 ?_; refine wl_alloc28 H ?_; clear H; intro g w' H q1 q2) | (with_reducible refine at_load 9 ?_; first | (refine wl_ld9 4 0 H rfl rfl rfl ?_)) | (with_reducible refine at_load 3 ?_; first | (refine wl_ld3 1 0 H rfl rfl rfl ?_) | (refine wl_ld3 2 0 H rfl rfl rfl ?_)) | (with_reducible refine at_load 4 ?_; first | (refine wl_ld4 3 0 H rfl rfl rfl ?_)) | (with_reducible refine at_load 59 ?_; first | (refine wl_ld59 5 0 H rfl rfl rfl ?_; simp only [brF, atF, piF, seF, alF])) | (with_reducible refine at_store 3 ?_; first | (refine wl_st3 1 H rfl rfl rfl ?_; clear H; intro w' H) | (refine wl_st3 2 H rfl rfl rfl ?_; clear H; intro w' H)) | (with_reducible refine at_store 4 ?_; refine wl_st4 3 H rfl rfl rfl ?_; clear H; intro w' H) | (with_reducible refine at_load 28 ?_; refine wl_load28 0 H rfl rfl ?_) | (with_reducible refine at_store 28 ?_; refine wl_store28 0 H rfl rfl rfl rfl ?_; clear H; intro w' H; have cA := H.cell 1 0 rfl (v := .int .i64 (a2 : Int)) rfl; have cS := H.cell 4 0 rfl (v := .string s) rfl))
        refine (byteAt_i s a2 _ rfl).mono ?_
        rintro e w1 ⟨rfl, rfl⟩
        rw [hq.out]
        clear cA cS
        go_wp2_with (first | (with_reducible refine at_alloc 28 ?_; refine wl_alloc28 H ?_; clear H; intro g w' H q1 q2) | (with_reducible refine at_load 9 ?_; first | (refine wl_ld9 4 0 H rfl rfl rfl ?_)) | (with_reducible refine at_load 3 ?_; first | (refine wl_ld3 1 0 H rfl rfl rfl ?_) | (refine wl_ld3 2 0 H rfl rfl rfl ?_)) | (with_reducible refine at_load 4 ?_; first | (refine wl_ld4 3 0 H rfl rfl rfl ?_)) | (with_reducible refine at_load 59 ?_; first | (refine wl_ld59 5 0 H rfl rfl rfl ?_; simp only [brF, atF, piF, seF, alF])) | (with_reducible refine at_store 3 ?_; first | (refine wl_st3 1 H rfl rfl rfl ?_; clear H; intro w' H) | (refine wl_st3 2 H rfl rfl rfl ?_; clear H; intro w' H)) | (with_reducible refine at_store 4 ?_; refine wl_st4 3 H rfl rfl rfl ?_; clear H; intro w' H) | (with_reducible refine at_load 28 ?_; refine wl_load28 0 H rfl rfl ?_) | (with_reducible refine at_store 28 ?_; refine wl_store28 0 H rfl rfl rfl rfl ?_; clear H; intro w' H))
        refine bodyPost_ret (results_cell0 rfl _ _ _ _ rfl (load28 (H.get 0 rfl))) rfl ?_
        exact ⟨_, t, a2, _, false, rfl, keep.out _ H.but, St.ev (M := [_]) H, fin.out _ H.but, ⟨rfl, rfl⟩⟩

theorem br_any (n : Nat) (hn : 1 < n) (s : ByteArray) (hs : s.size ≤ 256) : ∀ m : Nat, m ≤ 32 → BrOk n s (32 - (m : Int)) (brM s m)
  | 0, _ => br_zero n s
  | m + 1, h => by
    have := br_succ n hn s hs (32 - ((m + 1 : Nat) : Int)) (by omega) m (by
      rw [show (32 : Int) - ((m + 1 : Nat) : Int) + 1 = 32 - (m : Int) by omega]
      exact br_any n hn s hs m (by omega))
    exact this
end Go.Proofs.YtnbhpojcckhlmaaDoor
