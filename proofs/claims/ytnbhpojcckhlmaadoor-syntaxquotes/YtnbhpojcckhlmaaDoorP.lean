/-
  The parser's closures, second part: piece.
-/
import Derived.Test.YtnbhpojcckhlmaaDoorN
import Derived.Test.YtnbhpojcckhlmaaDoorO
namespace Go.Proofs.YtnbhpojcckhlmaaDoor
open Go.RowKit
set_option linter.unusedVariables false
set_option linter.unusedSimpArgs false

section
variable {S : Nat → Prop} {w0 w : World} {L : List Ent} {ops : Array Oper} {rest : List Oper} {a : Act} {Q : Exit → Act → World → Prop} {dst : Option Nat} {x : Operand} {ty : TypeId} {pos : String} {after : Array Edge}
theorem at_bs26 (h : wpList Tryd.prog ops Q (⟨dst, .buildSlice 26 1 #[(0, x)], ty, pos, after, none⟩ :: rest) a w) : wpList Tryd.prog ops Q (⟨dst, .buildSlice 26 1 #[(0, x)], ty, pos, after, none⟩ :: rest) a w := h
theorem wl_ldKind (i : Nat) (H : St S w0 w L) {b : Bool} {g : Nat} {n : Int} {s : S4} {l : Value} {mn mx : Int} (h : L[i]? = some (b, g, 28, reA n s l mn mx)) (hx : a.eval x = .pointer (some ⟨g, 0, none⟩)) (k : wpList Tryd.prog ops Q rest (a.put dst (.int .i64 n)) w) : wpList Tryd.prog ops Q (⟨dst, .load 3 x, ty, pos, after, none⟩ :: rest) a w := wl_ld3 i 0 H h rfl hx k
theorem wl_ldMin (i : Nat) (H : St S w0 w L) {b : Bool} {g : Nat} {n : Int} {s : S4} {l : Value} {mn mx : Int} (h : L[i]? = some (b, g, 28, reA n s l mn mx)) (hx : a.eval x = .pointer (some ⟨g, 6, none⟩)) (k : wpList Tryd.prog ops Q rest (a.put dst (.int .i64 mn)) w) : wpList Tryd.prog ops Q (⟨dst, .load 3 x, ty, pos, after, none⟩ :: rest) a w := wl_ld3 i 6 H h rfl hx k
theorem wl_ldMax (i : Nat) (H : St S w0 w L) {b : Bool} {g : Nat} {n : Int} {s : S4} {l : Value} {mn mx : Int} (h : L[i]? = some (b, g, 28, reA n s l mn mx)) (hx : a.eval x = .pointer (some ⟨g, 7, none⟩)) (k : wpList Tryd.prog ops Q rest (a.put dst (.int .i64 mx)) w) : wpList Tryd.prog ops Q (⟨dst, .load 3 x, ty, pos, after, none⟩ :: rest) a w := wl_ld3 i 7 H h rfl hx k
theorem wl_ldL (i : Nat) (H : St S w0 w L) {b : Bool} {g : Nat} {n : Int} {s : S4} {l : Value} {mn mx : Int} (h : L[i]? = some (b, g, 28, reA n s l mn mx)) (hx : a.eval x = .pointer (some ⟨g, 5, none⟩)) (k : wpList Tryd.prog ops Q rest (a.put dst l) w) : wpList Tryd.prog ops Q (⟨dst, .load 26 x, ty, pos, after, none⟩ :: rest) a w := wl_ld26 i 5 H h rfl hx k
/-- A list of one pattern is made; its row is a box that is not written. -/
theorem wl_bs26 (H : St S w0 w L) {k : Int} {s : S4} {v : Value} {mn mx : Int} (hx : a.eval x = reV k s v mn mx)
    (h : ∀ b w', St S w0 w' ((false, b, 28, reA k s v mn mx) :: L) → w.heap.size ≤ b → w0.heap.size ≤ b → wpList Tryd.prog ops Q rest (a.put dst (.slice (some ⟨b, 0, none⟩) 1 1)) w') : wpList Tryd.prog ops Q (⟨dst, .buildSlice 26 1 #[(0, x)], ty, pos, after, none⟩ :: rest) a w := by
  refine wpList_plain rfl fun K hK => ?_
  unfold Oper.wp execOp
  simp only [List.map_toArray, List.map_cons, List.map_nil, hx, Sem.run_bind, run_bs26, Result.andThen_ok, Sem.run_pure]
  have H1 := H.alloc 28 (reA k s v mn mx)
  refine hK _ _ (h _ _ ⟨H1.but, fun e he => ?_, fun e he hr => ?_, H1.nd⟩ (Nat.le_refl _) H.but.size)
  · rcases List.mem_cons.1 he with rfl | he
    · exact H1.all (true, w.heap.size, 28, reA k s v mn mx) (by simp)
    · exact H1.all e (by simp [he])
  · rcases List.mem_cons.1 he with rfl | he
    · cases hr
    · exact H1.ok e (by simp [he]) hr
end
/-- A row of one pattern. -/
theorem owns_one {w : World} {b : Nat} {k : Int} {s : S4} {v : Value} {mn mx : Int} (h : w.heap[b]? = some (.cells (reA k s v mn mx) 28 (0, 0))) : w.ownsRow 0 28 8 (.slice (some ⟨b, 0, none⟩) 1 1) 1 (reA k s v mn mx).toList :=
  ⟨rfl, .inr ⟨b, 1, _, rfl, Nat.zero_le _, h, Nat.le_refl _, by unfold maxLen; omega, rfl, rfl⟩⟩
theorem TrV.repV {w : World} {P : Nat → Prop} {t : Tr} {v : Value} (T : TrV w P (reV t.1.k t.1.s v t.1.mn t.1.mx) t) {b : Nat} (h : w.heap[b]? = some (.cells (reA t.1.k t.1.s v t.1.mn t.1.mx) 28 (0, 0))) (hb : P b) (mn mx : Int) : TrV w P (reV 4 noSet (.slice (some ⟨b, 0, none⟩) 1 1) mn mx) (rep t mn mx) := by
  obtain ⟨v', zs, e, o, p, k⟩ := T
  have e2 : v = v' := by simpa [reV, reA] using e
  subst e2
  refine ⟨_, _, rfl, owns_one h, fun x hx => ?_, ⟨v, [], zs, by simp, o, p, k, rfl⟩⟩
  have : b = x := by simpa [Value.ownBlock] using hx
  rw [← this]; exact hb
def pieceE (s : ByteArray) (r : Out) : Out := match r with
  | .error p => .error p
  | .ok (t, d) => if (timesR s d).2.2 = true then (if (timesR s d).1.1 = 4 then .ok (rep t (timesR s d).1.2.1 (timesR s d).1.2.2, (timesR s d).2.1) else .ok (t, (timesR s d).2.1)) else .error (timesR s d).2.1
theorem pieceM_eq (br : Nat → Out) (s : ByteArray) (a : Nat) : pieceM br s a = pieceE s (atomM br s a) := rfl
set_option maxHeartbeats 8000000 in
theorem piece_any (n : Nat) (hn : 1 < n) (s : ByteArray) (hs : s.size ≤ 256) (o : Int) (br : Nat → Out) (hbr : BrOk n s o br) (D : Nat) (hD : 1 ≤ D) (hg : BrGood s D br) (w : World) (hT : Tab w) (a : Nat) (ha : a ≤ s.size) (hE : Ev w n s a o true) :
    Calls Tryd.prog 32 #[.pointer (some ⟨n + 6, 0, none⟩), .pointer (some ⟨n + 3, 0, none⟩), .pointer (some ⟨n, 0, none⟩), .pointer (some ⟨n + 1, 0, none⟩)] w (Post n s o w (pieceM br s a)) := by
  have H : St (S3 n) w w (env n s a o true) := hE.st
  rw [pieceM_eq]
  have PA := hide (fun w hT hE => atom_any n hn s hs o br hbr w hT a ha hE)
  have gA := atom_good hD hg a ha
  generalize atomM br s a = rA at PA gA ⊢
  replace hbr := hide hbr
  replace hg := hide hg
  generalize hres : pieceE s rA = res
  replace hres := hide hres
  go_enter Tryd.func32, Tryd.ntmps32
  go_wp2_with (first | (with_reducible refine at_alloc 28 ?_; refine wl_alloc28 H ?_; clear H; intro g w' H q1 q2) | (with_reducible refine at_load 9 ?_; first | (refine wl_ld9 4 0 H rfl rfl rfl ?_)) | (with_reducible refine at_load 3 ?_; first | (refine wl_ld3 1 0 H rfl rfl rfl ?_)) | (with_reducible refine at_load 4 ?_; first | (refine wl_ld4 3 0 H rfl rfl rfl ?_)) | (with_reducible refine at_load 59 ?_; first | (refine wl_ld59 7 0 H rfl rfl rfl ?_; simp only [brF, atF, piF, seF, alF])))
  have P1 := PA.out _ (tab_st hT H hn) (St.ev (M := [_]) H)
  have hgl := H.lti 0 rfl
  have hge := q1
  have hE8 := (St.ev (M := [_]) H).lt
  have hs1 := H.but.size
  refine P1.mono ?_
  rintro e w2 ⟨x, t, a', o', r', rfl, T, E2, B2, A2⟩
  have W2 := St.closure (M := [_]) H B2 (fun i _ h => h) E2
  have hs2 := B2.size
  have hT2 := hide (tab_st hT W2 hn)
  clear H P1 PA
  have H := St.rebaseE (M := [_]) W2 (fun k => k = g) (fun x hx => by simp only [List.mem_cons, List.not_mem_nil, or_false] at hx; subst hx; rfl)
  obtain ⟨va, vn, vc, hx⟩ := T.val
  subst hx
  have keep : Hid (∀ w', But (fun k => S3 n k ∨ k = g) w2 w' → TrV w' (fun b => w.heap.size ≤ b ∧ b < w2.heap.size) (reV t.1.k t.1.s (.slice va vn vc) t.1.mn t.1.mx) t) := fun w' hb =>
    ((T.mono (P' := fun b => (w.heap.size ≤ b ∧ b < w2.heap.size) ∧ b ≠ g ∧ ¬ S3 n b) (fun b hb hP => by simp only [S3]; omega)).kept (fun b hP hl => hb.block b hl (fun h => by rcases h with h | h; exact hP.2.2 h; exact hP.2.1 h))).mono (fun b _ hP => hP.1)
  have fin : Hid (∀ w', But (fun k => S3 n k ∨ k = g) w2 w' → But (S3 n) w w') := fun w' hb => W2.but.trans hb (fun i hi h => by rcases h with h | h; exact h; omega)
  clear T B2 E2 W2
  cases rA with
  | error p =>
    obtain ⟨rfl, rfl⟩ := A2
    subst hres
    go_wp2_with (first | (with_reducible refine at_alloc 28 ?_; refine wl_alloc28 H ?_; clear H; intro g5 w' H q1 q2) | (with_reducible refine at_load 9 ?_; first | (refine wl_ld9 5 0 H rfl rfl rfl ?_)) | (with_reducible refine at_load 3 ?_; first | (refine wl_ld3 2 0 H rfl rfl rfl ?_)) | (with_reducible refine at_load 4 ?_; first | (refine wl_ld4 4 0 H rfl rfl rfl ?_)) | (with_reducible refine at_load 59 ?_; first | (refine wl_ld59 8 0 H rfl rfl rfl ?_; simp only [brF, atF, piF, seF, alF])) | (with_reducible refine at_load 28 ?_; refine wl_load28 0 H rfl rfl ?_) | (with_reducible refine at_store 28 ?_; first | (refine wl_store28 0 H rfl rfl rfl rfl ?_; clear H; intro w' H) | (refine wl_store28 1 H rfl rfl rfl rfl ?_; clear H; intro w' H)))
    refine bodyPost_ret (results_cell0 rfl _ _ _ _ rfl (load28 (H.get 1 rfl))) rfl ?_
    exact ⟨_, t, a', o', false, rfl, (keep.out _ H.but).mono (fun b _ h => h.1), St.ev (M := [_, _]) H, fin.out _ H.but, ⟨rfl, rfl⟩⟩
  | ok td =>
    obtain ⟨t', d⟩ := td
    obtain ⟨rfl, rfl, rfl, rfl⟩ := A2
    obtain ⟨c1, c2, c3, c4, c5⟩ := gA
    replace c3 := hide c3
    replace c4 := hide c4
    replace c5 := hide c5
    have PT := hide (fun w z hz => times_any s hs a' c2 w (z := z) hz)
    simp only [pieceE] at hres
    generalize timesR s a' = r0 at PT hres
    obtain ⟨⟨tk, tm, tx⟩, d2, ok2⟩ := r0
    simp only at PT hres
    go_wp2_with (first | (with_reducible refine at_alloc 28 ?_; refine wl_alloc28 H ?_; clear H; intro g6 w' H q1 q2) | (with_reducible refine at_load 9 ?_; first | (refine wl_ld9 5 0 H rfl rfl rfl ?_) | (refine wl_ld9 6 0 H rfl rfl rfl ?_)) | (with_reducible refine at_load 3 ?_; first | (refine wl_ld3 2 0 H rfl rfl rfl ?_) | (refine wl_ld3 3 0 H rfl rfl rfl ?_)) | (with_reducible refine at_load 4 ?_; first | (refine wl_ld4 4 0 H rfl rfl rfl ?_) | (refine wl_ld4 5 0 H rfl rfl rfl ?_)) | (with_reducible refine at_load 59 ?_; first | (refine wl_ld59 8 0 H rfl rfl rfl ?_; simp only [brF, atF, piF, seF, alF]) | (refine wl_ld59 9 0 H rfl rfl rfl ?_; simp only [brF, atF, piF, seF, alF])) | (with_reducible refine at_load 28 ?_; refine wl_load28 0 H rfl rfl ?_) | (with_reducible refine at_store 28 ?_; first | (refine wl_store28 0 H rfl rfl rfl rfl ?_; clear H; intro w' H) | (refine wl_store28 1 H rfl rfl rfl rfl ?_; clear H; intro w' H)))
    refine (PT.out _ _ rfl).mono ?_
    rintro e w3 ⟨rfl, b3⟩
    replace H := H.call b3 (Nat.le_refl _)
    by_cases h4 : tk = 4
    · subst h4
      go_wp2_with (first | (with_reducible refine at_load 3 ?_; refine wl_ldKind 0 H rfl rfl ?_) | (with_reducible refine at_load 9 ?_; first | (refine wl_ld9 6 0 H rfl rfl rfl ?_)) | (with_reducible refine at_load 3 ?_; first | (refine wl_ld3 3 0 H rfl rfl rfl ?_)) | (with_reducible refine at_load 4 ?_; first | (refine wl_ld4 5 0 H rfl rfl rfl ?_)) | (with_reducible refine at_load 59 ?_; first | (refine wl_ld59 9 0 H rfl rfl rfl ?_; simp only [brF, atF, piF, seF, alF])) | (with_reducible refine at_store 3 ?_; first | (refine wl_st3 3 H rfl rfl rfl ?_; clear H; intro w' H)) | (with_reducible refine at_store 4 ?_; refine wl_st4 5 H rfl rfl rfl ?_; clear H; intro w' H) | (with_reducible refine at_load 28 ?_; first | (refine wl_load28 2 H rfl rfl ?_) | (refine wl_load28 1 H rfl rfl ?_)) | (with_reducible refine at_bs26 ?_; refine wl_bs26 H rfl ?_; clear H; intro b w' H u1 u2) | (with_reducible refine at_store 26 ?_; refine wl_setL 1 H rfl rfl rfl ?_; clear H; intro w' H) | (with_reducible refine at_store 28 ?_; first | (refine wl_store28 0 H rfl rfl rfl rfl ?_; clear H; intro w' H) | (refine wl_store28 3 H rfl rfl rfl rfl ?_; clear H; intro w' H)))
      have hbb := H.get 0 rfl
      refine bodyPost_ret (results_cell0 rfl _ _ _ _ rfl (load28 (H.get 3 rfl))) rfl ?_
      refine ⟨_, rep t tm tx, d2, o', ok2, rfl, TrV.repV ((keep.out _ H.but).mono (fun b _ h => h.1)) hbb (by omega) tm tx, St.ev (M := [_, _, _, _]) H, fin.out _ H.but, ?_⟩
      rw [← hres.out]
      cases ok2 with
      | true => exact ⟨rfl, rfl, by simp, rfl⟩
      | false => exact ⟨rfl, rfl⟩
    · have n4 : (tk == 4) = false := beq_eq_false_iff_ne.2 h4
      replace h4 := hide h4
      go_wp2_with (first | (with_reducible refine at_load 3 ?_; refine wl_ldKind 0 H rfl rfl ?_) | (with_reducible refine at_load 9 ?_; first | (refine wl_ld9 6 0 H rfl rfl rfl ?_)) | (with_reducible refine at_load 3 ?_; first | (refine wl_ld3 3 0 H rfl rfl rfl ?_)) | (with_reducible refine at_load 4 ?_; first | (refine wl_ld4 5 0 H rfl rfl rfl ?_)) | (with_reducible refine at_load 59 ?_; first | (refine wl_ld59 9 0 H rfl rfl rfl ?_; simp only [brF, atF, piF, seF, alF])) | (with_reducible refine at_store 3 ?_; first | (refine wl_st3 3 H rfl rfl rfl ?_; clear H; intro w' H)) | (with_reducible refine at_store 4 ?_; refine wl_st4 5 H rfl rfl rfl ?_; clear H; intro w' H) | (with_reducible refine at_load 28 ?_; refine wl_load28 1 H rfl rfl ?_) | (with_reducible refine at_store 28 ?_; first | (refine wl_store28 0 H rfl rfl rfl rfl ?_; clear H; intro w' H) | (refine wl_store28 2 H rfl rfl rfl rfl ?_; clear H; intro w' H)))
      refine bodyPost_ret (results_cell0 rfl _ _ _ _ rfl (load28 (H.get 2 rfl))) rfl ?_
      refine ⟨_, t, d2, o', ok2, rfl, (keep.out _ H.but).mono (fun b _ h => h.1), St.ev (M := [_, _, _]) H, fin.out _ H.but, ?_⟩
      rw [← hres.out, if_neg h4.out]
      cases ok2 with
      | true => exact ⟨rfl, rfl, rfl, rfl⟩
      | false => exact ⟨rfl, rfl⟩
end Go.Proofs.YtnbhpojcckhlmaaDoor
