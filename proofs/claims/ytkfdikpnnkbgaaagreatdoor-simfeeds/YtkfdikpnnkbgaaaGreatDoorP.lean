/-
  Pieces, sequences, alternations, brackets.
-/
import Derived.Test.YtkfdikpnnkbgaaaGreatDoorL
namespace Go.Proofs.YtkfdikpnnkbgaaaGreatDoor
open Go.RowKit
set_option linter.unusedVariables false
set_option linter.unusedSimpArgs false

section
variable {S : Nat → Prop} {w0 w : World} {L : List Ent} {ops : Array Oper} {rest : List Oper} {a : Act} {Q : Exit → Act → World → Prop} {dst : Option Nat} {x : Operand} {ty : TypeId} {pos : String} {after : Array Edge}
theorem at_bs26 (h : wpList Tryz.prog ops Q (⟨dst, .buildSlice 25 1 #[(0, x)], ty, pos, after, none⟩ :: rest) a w) : wpList Tryz.prog ops Q (⟨dst, .buildSlice 25 1 #[(0, x)], ty, pos, after, none⟩ :: rest) a w := h
theorem wl_ldKind (i : Nat) (H : St S w0 w L) {b : Bool} {g : Nat} {n : Int} {s : S4} {l : Value} {mn mx : Int} (h : L[i]? = some (b, g, 27, reA n s l mn mx)) (hx : a.eval x = .pointer (some ⟨g, 0, none⟩)) (k : wpList Tryz.prog ops Q rest (a.put dst (.int .i64 n)) w) : wpList Tryz.prog ops Q (⟨dst, .load 3 x, ty, pos, after, none⟩ :: rest) a w := wl_ld3 i 0 H h rfl hx k
theorem wl_ldMin (i : Nat) (H : St S w0 w L) {b : Bool} {g : Nat} {n : Int} {s : S4} {l : Value} {mn mx : Int} (h : L[i]? = some (b, g, 27, reA n s l mn mx)) (hx : a.eval x = .pointer (some ⟨g, 6, none⟩)) (k : wpList Tryz.prog ops Q rest (a.put dst (.int .i64 mn)) w) : wpList Tryz.prog ops Q (⟨dst, .load 3 x, ty, pos, after, none⟩ :: rest) a w := wl_ld3 i 6 H h rfl hx k
theorem wl_ldMax (i : Nat) (H : St S w0 w L) {b : Bool} {g : Nat} {n : Int} {s : S4} {l : Value} {mn mx : Int} (h : L[i]? = some (b, g, 27, reA n s l mn mx)) (hx : a.eval x = .pointer (some ⟨g, 7, none⟩)) (k : wpList Tryz.prog ops Q rest (a.put dst (.int .i64 mx)) w) : wpList Tryz.prog ops Q (⟨dst, .load 3 x, ty, pos, after, none⟩ :: rest) a w := wl_ld3 i 7 H h rfl hx k
theorem wl_ldL (i : Nat) (H : St S w0 w L) {b : Bool} {g : Nat} {n : Int} {s : S4} {l : Value} {mn mx : Int} (h : L[i]? = some (b, g, 27, reA n s l mn mx)) (hx : a.eval x = .pointer (some ⟨g, 5, none⟩)) (k : wpList Tryz.prog ops Q rest (a.put dst l) w) : wpList Tryz.prog ops Q (⟨dst, .load 25 x, ty, pos, after, none⟩ :: rest) a w := wl_ld26 i 5 H h rfl hx k
/-- A list of one pattern is made; its row is a box that is not written. -/
theorem wl_bs26 (H : St S w0 w L) {k : Int} {s : S4} {v : Value} {mn mx : Int} (hx : a.eval x = reV k s v mn mx)
    (h : ∀ b w', St S w0 w' ((false, b, 27, reA k s v mn mx) :: L) → w.heap.size ≤ b → w0.heap.size ≤ b → wpList Tryz.prog ops Q rest (a.put dst (.slice (some ⟨b, 0, none⟩) 1 1)) w') : wpList Tryz.prog ops Q (⟨dst, .buildSlice 25 1 #[(0, x)], ty, pos, after, none⟩ :: rest) a w := by
  refine wpList_plain rfl fun K hK => ?_
  unfold Oper.wp execOp
  simp only [List.map_toArray, List.map_cons, List.map_nil, hx, Sem.run_bind, run_bs26, Result.andThen_ok, Sem.run_pure]
  have H1 := H.alloc 27 (reA k s v mn mx)
  refine hK _ _ (h _ _ ⟨H1.but, fun e he => ?_, fun e he hr => ?_, H1.nd⟩ (Nat.le_refl _) H.but.size)
  · rcases List.mem_cons.1 he with rfl | he
    · exact H1.all (true, w.heap.size, 27, reA k s v mn mx) (by simp)
    · exact H1.all e (by simp [he])
  · rcases List.mem_cons.1 he with rfl | he
    · cases hr
    · exact H1.ok e (by simp [he]) hr
end
/-- A row of one pattern. -/
theorem owns_one {w : World} {b : Nat} {k : Int} {s : S4} {v : Value} {mn mx : Int} (h : w.heap[b]? = some (.cells (reA k s v mn mx) 27 (0, 0))) : w.ownsRow 0 27 8 (.slice (some ⟨b, 0, none⟩) 1 1) 1 (reA k s v mn mx).toList :=
  ⟨rfl, .inr ⟨b, 1, _, rfl, Nat.zero_le _, h, Nat.le_refl _, by unfold maxLen; omega, rfl, rfl⟩⟩
theorem TrV.repV {w : World} {P : Nat → Prop} {t : Tr} {v : Value} (T : TrV w P (reV t.1.k t.1.s v t.1.mn t.1.mx) t) {b : Nat} (h : w.heap[b]? = some (.cells (reA t.1.k t.1.s v t.1.mn t.1.mx) 27 (0, 0))) (hb : P b) (mn mx : Int) : TrV w P (reV 4 noSet (.slice (some ⟨b, 0, none⟩) 1 1) mn mx) (rep t mn mx) := by
  obtain ⟨v', zs, e, o, p, k⟩ := T
  have e2 : v = v' := by simpa [reV, reA] using e
  subst e2
  refine ⟨_, _, rfl, owns_one h, fun x hx => ?_, ⟨v, [], zs, by simp, o, p, k, rfl⟩⟩
  have : b = x := by simpa [Value.ownBlock] using hx
  rw [← this]; exact hb
def pieceE (s : ByteArray) (r : Out) : Out := match r with
  | .error p => .error p
  | .ok (t, d) => if (timesR s d).2.2 = true then (if (timesR s d).1.1 = 4 then .ok (rep t (timesR s d).1.2.1 (timesR s d).1.2.2, (timesR s d).2.1) else .ok (t, (timesR s d).2.1)) else .error (timesR s d).2.1
theorem pieceM_eq (br : Nat → Out) (s : ByteArray) (a : Nat) : pieceM br s a = pieceE s (atomM br s a) := rfl
set_option maxHeartbeats 8000000 in
theorem piece_any (n : Nat) (hn : 0 < n) (s : ByteArray) (hs : s.size ≤ 256) (o : Int) (br : Nat → Out) (hbr : BrOk n s o br) (D : Nat) (hD : 1 ≤ D) (hg : BrGood s D br) (w : World) (hT : Tab w) (a : Nat) (ha : a ≤ s.size) (hE : Ev w n s a o true) :
    Calls Tryz.prog 107 #[.pointer (some ⟨n + 6, 0, none⟩), .pointer (some ⟨n + 3, 0, none⟩), .pointer (some ⟨n, 0, none⟩), .pointer (some ⟨n + 1, 0, none⟩)] w (Post n s o w (pieceM br s a)) := by
  have H : St (S3 n) w w (env n s a o true) := hE.st
  rw [pieceM_eq]
  have PA := hide (fun w hT hE => atom_any n hn s hs o br hbr w hT a ha hE)
  have gA := atom_good hD hg a ha
  generalize atomM br s a = rA at PA gA ⊢
  replace hbr := hide hbr
  replace hg := hide hg
  generalize hres : pieceE s rA = res
  replace hres := hide hres
  go_enter Tryz.func107, Tryz.ntmps107
  go_wp2_with (first | (with_reducible refine at_alloc 27 ?_; refine wl_alloc28 H ?_; clear H; intro g w' H q1 q2) | (with_reducible refine at_load 9 ?_; first | (refine wl_ld9 4 0 H rfl rfl rfl ?_)) | (with_reducible refine at_load 3 ?_; first | (refine wl_ld3 1 0 H rfl rfl rfl ?_)) | (with_reducible refine at_load 4 ?_; first | (refine wl_ld4 3 0 H rfl rfl rfl ?_)) | (with_reducible refine at_load 160 ?_; first | (refine wl_ld59 7 0 H rfl rfl rfl ?_; simp only [brF, atF, piF, seF, alF])))
  have P1 := PA.out _ (tab_st hT H hn) (St.ev (M := [_]) H)
  have hgl := H.lti 0 rfl
  have hge := q1
  have hE8 := (St.ev (M := [_]) H).lt
  have hs1 := H.but.size
  refine P1.mono ?_
  rintro e w2 ⟨x, t, a', o', r', rfl, T, E2, B2, A2⟩
  have W2 := St.closure (M := [_]) H B2 (fun i _ h => h) E2
  have hs2 := B2.size
  have hT2 := hide (tab_st hT W2 hn)
  clear H P1 PA
  have H := St.rebaseE (M := [_]) W2 (fun k => k = g) (fun x hx => by simp only [List.mem_cons, List.not_mem_nil, or_false] at hx; subst hx; rfl)
  obtain ⟨va, vn, vc, hx⟩ := T.val
  subst hx
  have keep : Hid (∀ w', But (fun k => S3 n k ∨ k = g) w2 w' → TrV w' (fun b => w.heap.size ≤ b ∧ b < w2.heap.size) (reV t.1.k t.1.s (.slice va vn vc) t.1.mn t.1.mx) t) := fun w' hb =>
    ((T.mono (P' := fun b => (w.heap.size ≤ b ∧ b < w2.heap.size) ∧ b ≠ g ∧ ¬ S3 n b) (fun b hb hP => by simp only [S3]; omega)).kept (fun b hP hl => hb.block b hl (fun h => by rcases h with h | h; exact hP.2.2 h; exact hP.2.1 h))).mono (fun b _ hP => hP.1)
  have fin : Hid (∀ w', But (fun k => S3 n k ∨ k = g) w2 w' → But (S3 n) w w') := fun w' hb => W2.but.trans hb (fun i hi h => by rcases h with h | h; exact h; omega)
  clear T B2 E2 W2
  cases rA with
  | error p =>
    obtain ⟨rfl, rfl⟩ := A2
    subst hres
    go_wp2_with (first | (with_reducible refine at_alloc 27 ?_; refine wl_alloc28 H ?_; clear H; intro g5 w' H q1 q2) | (with_reducible refine at_load 9 ?_; first | (refine wl_ld9 5 0 H rfl rfl rfl ?_)) | (with_reducible refine at_load 3 ?_; first | (refine wl_ld3 2 0 H rfl rfl rfl ?_)) | (with_reducible refine at_load 4 ?_; first | (refine wl_ld4 4 0 H rfl rfl rfl ?_)) | (with_reducible refine at_load 160 ?_; first | (refine wl_ld59 8 0 H rfl rfl rfl ?_; simp only [brF, atF, piF, seF, alF])) | (with_reducible refine at_load 27 ?_; refine wl_load28 0 H rfl rfl ?_) | (with_reducible refine at_store 27 ?_; first | (refine wl_store28 0 H rfl rfl rfl rfl ?_; clear H; intro w' H) | (refine wl_store28 1 H rfl rfl rfl rfl ?_; clear H; intro w' H)))
    refine bodyPost_ret (results_cell0 rfl _ _ _ _ rfl (load28 (H.get 1 rfl))) rfl ?_
    exact ⟨_, t, a', o', false, rfl, (keep.out _ H.but).mono (fun b _ h => h.1), St.ev (M := [_, _]) H, fin.out _ H.but, ⟨rfl, rfl⟩⟩
  | ok td =>
    obtain ⟨t', d⟩ := td
    obtain ⟨rfl, rfl, rfl, rfl⟩ := A2
    obtain ⟨c1, c2, c3, c4, c5⟩ := gA
    replace c3 := hide c3
    replace c4 := hide c4
    replace c5 := hide c5
    have PT := hide (fun w z hz => times_any s hs a' c2 w (z := z) hz)
    simp only [pieceE] at hres
    generalize timesR s a' = r0 at PT hres
    obtain ⟨⟨tk, tm, tx⟩, d2, ok2⟩ := r0
    simp only at PT hres
    go_wp2_with (first | (with_reducible refine at_alloc 27 ?_; refine wl_alloc28 H ?_; clear H; intro g6 w' H q1 q2) | (with_reducible refine at_load 9 ?_; first | (refine wl_ld9 5 0 H rfl rfl rfl ?_) | (refine wl_ld9 6 0 H rfl rfl rfl ?_)) | (with_reducible refine at_load 3 ?_; first | (refine wl_ld3 2 0 H rfl rfl rfl ?_) | (refine wl_ld3 3 0 H rfl rfl rfl ?_)) | (with_reducible refine at_load 4 ?_; first | (refine wl_ld4 4 0 H rfl rfl rfl ?_) | (refine wl_ld4 5 0 H rfl rfl rfl ?_)) | (with_reducible refine at_load 160 ?_; first | (refine wl_ld59 8 0 H rfl rfl rfl ?_; simp only [brF, atF, piF, seF, alF]) | (refine wl_ld59 9 0 H rfl rfl rfl ?_; simp only [brF, atF, piF, seF, alF])) | (with_reducible refine at_load 27 ?_; refine wl_load28 0 H rfl rfl ?_) | (with_reducible refine at_store 27 ?_; first | (refine wl_store28 0 H rfl rfl rfl rfl ?_; clear H; intro w' H) | (refine wl_store28 1 H rfl rfl rfl rfl ?_; clear H; intro w' H)))
    refine (PT.out _ _ rfl).mono ?_
    rintro e w3 ⟨rfl, b3⟩
    replace H := H.call b3 (Nat.le_refl _)
    by_cases h4 : tk = 4
    · subst h4
      go_wp2_with (first | (with_reducible refine at_load 3 ?_; refine wl_ldKind 0 H rfl rfl ?_) | (with_reducible refine at_load 9 ?_; first | (refine wl_ld9 6 0 H rfl rfl rfl ?_)) | (with_reducible refine at_load 3 ?_; first | (refine wl_ld3 3 0 H rfl rfl rfl ?_)) | (with_reducible refine at_load 4 ?_; first | (refine wl_ld4 5 0 H rfl rfl rfl ?_)) | (with_reducible refine at_load 160 ?_; first | (refine wl_ld59 9 0 H rfl rfl rfl ?_; simp only [brF, atF, piF, seF, alF])) | (with_reducible refine at_store 3 ?_; first | (refine wl_st3 3 H rfl rfl rfl ?_; clear H; intro w' H)) | (with_reducible refine at_store 4 ?_; refine wl_st4 5 H rfl rfl rfl ?_; clear H; intro w' H) | (with_reducible refine at_load 27 ?_; first | (refine wl_load28 2 H rfl rfl ?_) | (refine wl_load28 1 H rfl rfl ?_)) | (with_reducible refine at_bs26 ?_; refine wl_bs26 H rfl ?_; clear H; intro b w' H u1 u2) | (with_reducible refine at_store 25 ?_; refine wl_setL 1 H rfl rfl rfl ?_; clear H; intro w' H) | (with_reducible refine at_store 27 ?_; first | (refine wl_store28 0 H rfl rfl rfl rfl ?_; clear H; intro w' H) | (refine wl_store28 3 H rfl rfl rfl rfl ?_; clear H; intro w' H)))
      have hbb := H.get 0 rfl
      refine bodyPost_ret (results_cell0 rfl _ _ _ _ rfl (load28 (H.get 3 rfl))) rfl ?_
      refine ⟨_, rep t tm tx, d2, o', ok2, rfl, TrV.repV ((keep.out _ H.but).mono (fun b _ h => h.1)) hbb (by omega) tm tx, St.ev (M := [_, _, _, _]) H, fin.out _ H.but, ?_⟩
      rw [← hres.out]
      cases ok2 with
      | true => exact ⟨rfl, rfl, by simp, rfl⟩
      | false => exact ⟨rfl, rfl⟩
    · have n4 : (tk == 4) = false := beq_eq_false_iff_ne.2 h4
      replace h4 := hide h4
      go_wp2_with (first | (with_reducible refine at_load 3 ?_; refine wl_ldKind 0 H rfl rfl ?_) | (with_reducible refine at_load 9 ?_; first | (refine wl_ld9 6 0 H rfl rfl rfl ?_)) | (with_reducible refine at_load 3 ?_; first | (refine wl_ld3 3 0 H rfl rfl rfl ?_)) | (with_reducible refine at_load 4 ?_; first | (refine wl_ld4 5 0 H rfl rfl rfl ?_)) | (with_reducible refine at_load 160 ?_; first | (refine wl_ld59 9 0 H rfl rfl rfl ?_; simp only [brF, atF, piF, seF, alF])) | (with_reducible refine at_store 3 ?_; first | (refine wl_st3 3 H rfl rfl rfl ?_; clear H; intro w' H)) | (with_reducible refine at_store 4 ?_; refine wl_st4 5 H rfl rfl rfl ?_; clear H; intro w' H) | (with_reducible refine at_load 27 ?_; refine wl_load28 1 H rfl rfl ?_) | (with_reducible refine at_store 27 ?_; first | (refine wl_store28 0 H rfl rfl rfl rfl ?_; clear H; intro w' H) | (refine wl_store28 2 H rfl rfl rfl rfl ?_; clear H; intro w' H)))
      refine bodyPost_ret (results_cell0 rfl _ _ _ _ rfl (load28 (H.get 2 rfl))) rfl ?_
      refine ⟨_, t, d2, o', ok2, rfl, (keep.out _ H.but).mono (fun b _ h => h.1), St.ev (M := [_, _, _]) H, fin.out _ H.but, ?_⟩
      rw [← hres.out, if_neg h4.out]
      cases ok2 with
      | true => exact ⟨rfl, rfl, rfl, rfl⟩
      | false => exact ⟨rfl, rfl⟩
open Go.RowKit
set_option linter.unusedVariables false
set_option linter.unusedSimpArgs false

/-- How much is left to read. -/
def muP (s : ByteArray) (n : Nat) (w : World) : Nat := okN ((w.cell? ⟨n + 3, 0, none⟩).getD undef) * (s.size + 2 - (intOf ((w.cell? ⟨n + 1, 0, none⟩).getD undef)).toNat)
theorem muP_of {s : ByteArray} {n : Nat} {w : World} {a : Nat} {o : Int} {r : Bool} (h : Ev w n s a o r) : muP s n w = okN (.bool r) * (s.size + 2 - a) := by
  have c1 : w.cell? ⟨n + 3, 0, none⟩ = some (.bool r) := by rw [cell_of_row w (n + 3) 0 _ 4 (0, 0) (h (true, n + 3, 4, #[.bool r]) (by simp [env]))]; rfl
  have c2 : w.cell? ⟨n + 1, 0, none⟩ = some (.int .i64 (a : Int)) := by rw [cell_of_row w (n + 1) 0 _ 3 (0, 0) (h (true, n + 1, 3, #[.int .i64 (a : Int)]) (by simp [env]))]; rfl
  unfold muP
  rw [c1, c2]
  simp [intOf]
/-- What holds between the rounds: what is still to be read comes to R. -/
def SqI (L : Nat → Fo → Nat → Except Nat (Fo × Nat)) (s : ByteArray) (R : Except Nat (Fo × Nat)) (f : Fo) (a : Nat) (o' o : Int) (r : Bool) : Prop :=
  (r = true → ∃ N, s.size - a < N ∧ L N f a = R ∧ o' = o) ∧ (r = false → R = .error a)
def togE (k : Int) (r : Except Nat (Fo × Nat)) : Out := match r with
  | .error p => .error p
  | .ok (f, d) => .ok (tog k f, d)
theorem seqM_eq (br : Nat → Out) (s : ByteArray) (a : Nat) : seqM br s a = togE 2 (seqL br s (s.size + 1 - a) .nil a) := rfl
theorem SqI.agree {L : Nat → Fo → Nat → Except Nat (Fo × Nat)} {s : ByteArray} {R : Except Nat (Fo × Nat)} {f : Fo} {a : Nat} {o' o : Int} {r : Bool} (h : SqI L s R f a o' o r) (k : Int) (he : r = true → R = .ok (f, a)) : Agree (togE k R) (tog k f) a o' r o := by
  cases r with
  | false => rw [h.2 rfl]; exact ⟨rfl, rfl⟩
  | true => obtain ⟨N, _, _, e⟩ := h.1 rfl; rw [he rfl]; exact ⟨rfl, rfl, rfl, e⟩
theorem blocks_lt {n g : Nat} {s : ByteArray} {a : Nat} {o : Int} {r : Bool} {e1 : Ent} (h1 : e1.2.1 = g) (hg : n + 8 < g) : ∀ e ∈ [e1] ++ env n s a o r, e.2.1 < g + 1 := fun e he => by
  simp only [env, List.cons_append, List.nil_append, List.mem_cons, List.not_mem_nil, or_false] at he
  rcases he with rfl | rfl | rfl | rfl | rfl | rfl | rfl | rfl | rfl | rfl <;> first | omega | (simp only; omega)
set_option maxHeartbeats 8000000 in
theorem seq_any (n : Nat) (hn : 0 < n) (s : ByteArray) (hs : s.size ≤ 256) (o : Int) (br : Nat → Out) (hbr : BrOk n s o br) (D : Nat) (hD : 1 ≤ D) (hg : BrGood s D br) (w : World) (hT : Tab w) (a : Nat) (ha : a ≤ s.size) (hE : Ev w n s a o true) :
    Calls Tryz.prog 109 #[.pointer (some ⟨n + 3, 0, none⟩), .pointer (some ⟨n + 1, 0, none⟩), .pointer (some ⟨n, 0, none⟩), .pointer (some ⟨n + 7, 0, none⟩)] w (Post n s o w (seqM br s a)) := by
  have H : St (S3 n) w w (env n s a o true) := hE.st
  rw [seqM_eq]
  generalize hR : seqL br s (s.size + 1 - a) .nil a = R
  have PP := hide (fun a ha w hT hE => piece_any n hn s hs o br hbr D hD hg w hT a ha hE)
  have GP := hide (fun a ha => piece_good hD hg a ha)
  have hE8 := hE.lt
  have hI0 : Hid (SqI (seqL br s) s R .nil a o o true) := ⟨fun _ => ⟨_, by omega, hR, rfl⟩, fun h => (by cases h)⟩
  replace hR := hide hR
  replace hbr := hide hbr
  replace hg := hide hg
  go_enter Tryz.func109, Tryz.ntmps109
  go_wp2_with (first | (with_reducible refine at_alloc 27 ?_; refine wl_alloc28 H ?_; clear H; intro g w' H q1 q2))
  have hsz := H.lti 0 rfl
  go_loopw [5] (fun l wr => ∃ f a' o' r, Hid (St (S3 n) w wr ([(true, g, 27, reA 0 noSet (.slice none 0 0) 0 0)] ++ env n s a' o' r)) ∧ Hid (Rw wr (g + 1) l f) ∧ Hid (SqI (seqL br s) s R f a' o' o r) ∧ a' ≤ s.size ∧ Hid ((r = true → f.len ≤ a') ∧ f.len ≤ s.size + 1)) (fun _ wr => muP s n wr)
  case atStart => exact ⟨.nil, a, o, true, H, Rw.start _ _, hI0, ha, ⟨fun _ => Nat.zero_le _, Nat.zero_le _⟩⟩
  case round =>
    clear H hsz
    obtain ⟨f, a', o', r, H1, R1, hI, ha', hf⟩ := hrel
    have H := H1.out
    clear H1
    have hgl := H.lti 0 rfl
    obtain ⟨ra, rc, hv, -, -⟩ : ∃ x c, u5 = .slice x f.len c ∧ True ∧ True := by
      obtain ⟨xs, ro, _⟩ := R1.out
      obtain ⟨x, c, e, _, _⟩ := owns8_val ro
      exact ⟨x, c, e, trivial, trivial⟩
    subst hv
    generalize hv : Value.slice ra f.len rc = v at *
    have cA := H.cell 1 0 rfl (v := .int .i64 (a' : Int)) rfl
    have cR := H.cell 3 0 rfl (v := .bool r) rfl
    have cS := H.cell 4 0 rfl (v := .string s) rfl
    by_cases hc : r = true ∧ a' < s.size ∧ bt s a' ≠ 124 ∧ bt s a' ≠ 41
    · obtain ⟨rfl, hlt, n124, n41⟩ := hc
      have i1 : (a' : Int) < (s.size : Int) := by omega
      have bk := bt_eq hlt
      have t1 : (((s[a']'hlt).toNat : Int) != 124) = true := by rw [bk]; simpa using n124
      have t2 : (((s[a']'hlt).toNat : Int) != 41) = true := by rw [bk]; simpa using n41
      obtain ⟨N, hN, hL, ho⟩ := hI.out.1 rfl
      subst ho
      obtain ⟨m, rfl⟩ : ∃ m, N = m + 1 := ⟨N - 1, by omega⟩
      rw [seqL, if_pos ⟨hlt, n124, n41⟩] at hL
      have P1 := hide (PP.out a' ha' wr)
      have G1 := GP.out a' ha'
      generalize pieceM br s a' = rp at P1 G1 hL
      replace n124 := hide n124
      replace n41 := hide n41
      replace hL := hide hL
      replace bk := hide bk
      have mu1 := hide (muP_of (St.ev (M := [_]) H))
      have hf1 := hf.out.1 rfl
      clear hI PP GP hf
      go_wp2_with (first | (with_reducible refine at_load 9 ?_; first | (refine wl_ld9 4 0 H rfl rfl rfl ?_)) | (with_reducible refine at_load 3 ?_; first | (refine wl_ld3 1 0 H rfl rfl rfl ?_)) | (with_reducible refine at_load 4 ?_; first | (refine wl_ld4 3 0 H rfl rfl rfl ?_)) | (with_reducible refine at_load 160 ?_; first | (refine wl_ld59 5 0 H rfl rfl rfl ?_; simp only [brF, atF, piF, seF, alF]) | (refine wl_ld59 6 0 H rfl rfl rfl ?_; simp only [brF, atF, piF, seF, alF]) | (refine wl_ld59 7 0 H rfl rfl rfl ?_; simp only [brF, atF, piF, seF, alF]) | (refine wl_ld59 8 0 H rfl rfl rfl ?_; simp only [brF, atF, piF, seF, alF]) | (refine wl_ld59 9 0 H rfl rfl rfl ?_; simp only [brF, atF, piF, seF, alF])))
      refine (P1.out (tab_st hT H hn) (St.ev (M := [_]) H)).mono ?_
      rintro e w3 ⟨x, t, a2, o2, r2, rfl, T, E3, B3, A3⟩
      have R3 := hide (R1.out.kept (w' := w3) (fun b hb hl => B3.block b hl (fun h => by simp only [S3] at h; omega)))
      have hs3 := B3.size
      have hown : ∀ k, v.ownBlock = some k → k < wr.heap.size := fun k hk => (R1.out.lt hk).2
      replace H := St.closure (M := [_]) H B3 (fun i _ h => h) E3
      obtain ⟨va, vn, vc, hx⟩ := T.val
      subst hx
      clear cA cR cS P1
      have facts : a2 ≤ s.size ∧ ((r2 = true → (f.snoc t).len ≤ a2) ∧ (f.snoc t).len ≤ s.size + 1) ∧ okN (.bool r2) * (s.size + 2 - a2) < s.size + 2 - a' ∧ SqI (seqL br s) s R (f.snoc t) a2 o2 o' r2 := by
        cases rp with
        | error p =>
          obtain ⟨rfl, rfl⟩ := A3
          refine ⟨G1, ⟨fun h => (by cases h), by rw [Fo.len_snoc]; omega⟩, by simp [okN]; omega, fun h => (by cases h), fun _ => hL.out.symm⟩
        | ok td =>
          obtain ⟨t', d⟩ := td
          obtain ⟨rfl, rfl, rfl, rfl⟩ := A3
          obtain ⟨g1, g2, -⟩ := G1
          exact ⟨g2, ⟨fun _ => by rw [Fo.len_snoc]; omega, by rw [Fo.len_snoc]; omega⟩, by simp [okN]; omega, fun _ => ⟨m, by omega, hL.out, rfl⟩, fun h => (by cases h)⟩
      obtain ⟨k1, k2, k3, k4⟩ := facts
      replace k2 := hide k2
      replace k3 := hide k3
      replace k4 := hide k4
      go_wp2_with (first | (with_reducible refine at_snoc ?_; refine wl_snoc (L := [_] ++ env n s a2 o2 r2) H R3.out T (fun _ => rfl) (fun _ => rfl) rfl hown (by omega) hs3 (by omega) (blocks_lt rfl (by omega)) (by omega) ?_; clear H; intro u v2 w' H R4 hz))
      go_roundw
      case rel => exact ⟨f.snoc t, a2, o2, r2, H, R4, k4, k1, k2⟩
      case measure =>
        show muP s n _ < muP s n wr
        rw [muP_of (St.ev (M := [_]) H), mu1.out]
        have := k3.out; simpa [okN] using this
    · have hend : r = true → R = .ok (f, a') := fun hr => by
        obtain ⟨N, hN, hL, _⟩ := hI.out.1 hr
        obtain ⟨m, rfl⟩ : ∃ m, N = m + 1 := ⟨N - 1, by omega⟩
        rw [← hL, seqL, if_neg (fun h => hc ⟨hr, h⟩)]
      replace hend := hide hend
      have hf2 := hf.out.2
      have TG := hide (fun xs ro rk => together_any 2 f v wr (fun b => g + 1 ≤ b) xs ro (fun b hb => (R1.out.lt hb).1) rk)
      clear PP GP hf
      cases r with
      | false =>
        clear hc
        go_wp2_with fail
        obtain ⟨xs, ro, rk⟩ := R1.out
        refine (TG.out xs (owns8_mono ro (Nat.zero_le _)) (rk.mono (fun b _ h => h.1))).mono ?_
        rintro e w4 ⟨x, rfl, T4, b4⟩
        have W4 := H.call b4 (Nat.le_refl _)
        clear H TG ro rk
        have H := St.rebaseE (M := [_]) W4 (fun k => k = g) (fun x hx => by simp only [List.mem_cons, List.not_mem_nil, or_false] at hx; subst hx; rfl)
        obtain ⟨va, vn, vc, hx⟩ := T4.val
        subst hx
        clear cA cR cS
        go_wp2_with (first | (with_reducible refine at_store 27 ?_; refine wl_store28 0 H rfl rfl rfl rfl ?_; clear H; intro w' H))
        refine bodyPost_ret (results_cell0 rfl _ _ _ _ rfl (load28 (H.get 0 rfl))) rfl ?_
        refine ⟨_, tog 2 f, a', o', _, rfl, ?_, St.ev (M := [_]) H, W4.but.trans H.but (fun i hi h => by rcases h with h | h; exact h; omega), hI.out.agree 2 (fun h => hend.out (by first | exact h | trivial))⟩
        exact (T4.kept (fun b hP hb => H.but.block b hb (fun h => by rcases h with h | h; simp only [S3] at h; omega; omega))).mono (fun b _ hP => by omega)
      | true =>
        by_cases hlt : a' < s.size
        · have i1 : (a' : Int) < (s.size : Int) := by omega
          have bk := bt_eq hlt
          by_cases h124 : bt s a' = 124
          · have t1 : (((s[a']'hlt).toNat : Int) != 124) = false := by rw [bk, h124]; rfl
            replace h124 := hide h124
            replace bk := hide bk
            replace hc := hide hc
            go_wp2_with fail
            obtain ⟨xs, ro, rk⟩ := R1.out
            refine (TG.out xs (owns8_mono ro (Nat.zero_le _)) (rk.mono (fun b _ h => h.1))).mono ?_
            rintro e w4 ⟨x, rfl, T4, b4⟩
            have W4 := H.call b4 (Nat.le_refl _)
            clear H TG ro rk
            have H := St.rebaseE (M := [_]) W4 (fun k => k = g) (fun x hx => by simp only [List.mem_cons, List.not_mem_nil, or_false] at hx; subst hx; rfl)
            obtain ⟨va, vn, vc, hx⟩ := T4.val
            subst hx
            clear cA cR cS
            go_wp2_with (first | (with_reducible refine at_store 27 ?_; refine wl_store28 0 H rfl rfl rfl rfl ?_; clear H; intro w' H))
            refine bodyPost_ret (results_cell0 rfl _ _ _ _ rfl (load28 (H.get 0 rfl))) rfl ?_
            refine ⟨_, tog 2 f, a', o', _, rfl, ?_, St.ev (M := [_]) H, W4.but.trans H.but (fun i hi h => by rcases h with h | h; exact h; omega), hI.out.agree 2 (fun h => hend.out (by first | exact h | trivial))⟩
            exact (T4.kept (fun b hP hb => H.but.block b hb (fun h => by rcases h with h | h; simp only [S3] at h; omega; omega))).mono (fun b _ hP => by omega)
          · have h41 : bt s a' = 41 := Classical.byContradiction fun h => hc ⟨rfl, hlt, h124, h⟩
            have t1 : (((s[a']'hlt).toNat : Int) != 124) = true := by rw [bk]; simpa using h124
            have t2 : (((s[a']'hlt).toNat : Int) != 41) = false := by rw [bk, h41]; rfl
            replace h124 := hide h124
            replace h41 := hide h41
            replace bk := hide bk
            replace hc := hide hc
            go_wp2_with fail
            obtain ⟨xs, ro, rk⟩ := R1.out
            refine (TG.out xs (owns8_mono ro (Nat.zero_le _)) (rk.mono (fun b _ h => h.1))).mono ?_
            rintro e w4 ⟨x, rfl, T4, b4⟩
            have W4 := H.call b4 (Nat.le_refl _)
            clear H TG ro rk
            have H := St.rebaseE (M := [_]) W4 (fun k => k = g) (fun x hx => by simp only [List.mem_cons, List.not_mem_nil, or_false] at hx; subst hx; rfl)
            obtain ⟨va, vn, vc, hx⟩ := T4.val
            subst hx
            clear cA cR cS
            go_wp2_with (first | (with_reducible refine at_store 27 ?_; refine wl_store28 0 H rfl rfl rfl rfl ?_; clear H; intro w' H))
            refine bodyPost_ret (results_cell0 rfl _ _ _ _ rfl (load28 (H.get 0 rfl))) rfl ?_
            refine ⟨_, tog 2 f, a', o', _, rfl, ?_, St.ev (M := [_]) H, W4.but.trans H.but (fun i hi h => by rcases h with h | h; exact h; omega), hI.out.agree 2 (fun h => hend.out (by first | exact h | trivial))⟩
            exact (T4.kept (fun b hP hb => H.but.block b hb (fun h => by rcases h with h | h; simp only [S3] at h; omega; omega))).mono (fun b _ hP => by omega)
        · have i1 : ¬ ((a' : Int) < (s.size : Int)) := by omega
          clear hc
          go_wp2_with fail
          obtain ⟨xs, ro, rk⟩ := R1.out
          refine (TG.out xs (owns8_mono ro (Nat.zero_le _)) (rk.mono (fun b _ h => h.1))).mono ?_
          rintro e w4 ⟨x, rfl, T4, b4⟩
          have W4 := H.call b4 (Nat.le_refl _)
          clear H TG ro rk
          have H := St.rebaseE (M := [_]) W4 (fun k => k = g) (fun x hx => by simp only [List.mem_cons, List.not_mem_nil, or_false] at hx; subst hx; rfl)
          obtain ⟨va, vn, vc, hx⟩ := T4.val
          subst hx
          clear cA cR cS
          go_wp2_with (first | (with_reducible refine at_store 27 ?_; refine wl_store28 0 H rfl rfl rfl rfl ?_; clear H; intro w' H))
          refine bodyPost_ret (results_cell0 rfl _ _ _ _ rfl (load28 (H.get 0 rfl))) rfl ?_
          refine ⟨_, tog 2 f, a', o', _, rfl, ?_, St.ev (M := [_]) H, W4.but.trans H.but (fun i hi h => by rcases h with h | h; exact h; omega), hI.out.agree 2 (fun h => hend.out (by first | exact h | trivial))⟩
          exact (T4.kept (fun b hP hb => H.but.block b hb (fun h => by rcases h with h | h; simp only [S3] at h; omega; omega))).mono (fun b _ hP => by omega)
open Go.RowKit
set_option linter.unusedVariables false
set_option linter.unusedSimpArgs false

theorem wl_st3b {S : Nat → Prop} {w0 w : World} {L : List Ent} {ops : Array Oper} {rest : List Oper} {a : Act} {Q : Exit → Act → World → Prop} {x y : Operand} {ty : TypeId} {pos : String} {after : Array Edge} (i : Nat) (H : St S w0 w L) {g : Nat} {u : Value} {v : Int} (h : L[i]? = some (true, g, 3, #[u])) (hx : a.eval x = .pointer (some ⟨g, 0, none⟩)) (hy : a.eval y = .int .i64 v)
    (k : ∀ w', St S w0 w' (L.set i (true, g, 3, #[.int .i64 v])) → But (fun k => k = g) w w' → wpList Tryz.prog ops Q rest a w') : wpList Tryz.prog ops Q (⟨none, .store 3 x y, ty, pos, after, none⟩ :: rest) a w := by
  have H2 := H.rebase (fun k => k = g ∨ ∃ x ∈ L, x.1 = true ∧ x.2.1 = k ∧ k ≠ g) (fun x hx hr => by
    by_cases e : x.2.1 = g
    · exact .inl e
    · exact .inr ⟨x, hx, hr, rfl, e⟩)
  refine wpList_plain rfl fun K hK => ?_
  have hgt := H.get i h
  have hc : w.cell? ⟨g, 0, none⟩ = some u := H.cell i 0 h rfl
  have hf := H.fz i 0 h
  have hst : (storeVar 3 ⟨g, 0, none⟩ (.int .i64 v)).run Tryz.prog w = .ok () (w.setCell ⟨g, 0, none⟩ (.int .i64 v)) := by
    have e : (storeCells ⟨g, 0, none⟩ [.int .i64 v]).run Tryz.prog w = .ok () (w.setCell ⟨g, 0, none⟩ (.int .i64 v)) := by simp [storeCells, go_sem, stored, hc, hf]
    unfold storeVar
    have e4 : (Value.int IntKind.i64 v).cells = #[.int .i64 v] := rfl
    simp only [Sem.run_bind, one3, Result.andThen_ok, e4]
    simpa using e
  unfold Oper.wp execOp
  simp only [hx, hy, Instr.storeAt, Instr.sureAddr, Sem.run_bind, Sem.run_pure, Result.andThen_ok, hst]
  refine hK _ _ (k _ (H.setCell i h 0 (.int .i64 v)) ?_)
  rw [setCell_eq_setRow w g 0 _ 3 (0, 0) _ hgt]
  exact (But.refl (fun k => k = g) w).setRow (fun _ => rfl) _
theorem St.comb {S S' : Nat → Prop} {w0 w1 w2 : World} {L1 L2 : List Ent} (H1 : St S w0 w1 L1) (H2 : St S' w1 w2 L2) (h : ∀ i, i < w0.heap.size → S' i → S i) : St S w0 w2 L2 :=
  ⟨H1.but.trans H2.but h, H2.all, fun x hx hr hl => h _ hl (H2.ok x hx hr (Nat.lt_of_lt_of_le hl H1.but.size)), H2.nd⟩
theorem Rw.one {w : World} {base : Nat} {t : Tr} {v : Value} {b : Nat} (T : TrV w (fun x => base ≤ x ∧ x ≠ b) (reV t.1.k t.1.s v t.1.mn t.1.mx) t) (h : w.heap[b]? = some (.cells (reA t.1.k t.1.s v t.1.mn t.1.mx) 27 (0, 0))) (hb : base ≤ b) : Rw w base (.slice (some ⟨b, 0, none⟩) 1 1) (Fo.nil.snoc t) := by
  obtain ⟨v', zs, e, o, p, k⟩ := T
  have e2 : v = v' := by simpa [reV, reA] using e
  subst e2
  have hne : ∀ x, x ≠ b → (Value.slice (some ⟨b, 0, none⟩) 1 1).ownBlock ≠ some x := fun x hx e => hx (by simpa [Value.ownBlock] using e.symm)
  refine ⟨(reA t.1.k t.1.s v t.1.mn t.1.mx).toList, ⟨rfl, .inr ⟨b, 1, _, rfl, hb, h, Nat.le_refl _, by unfold maxLen; omega, rfl, rfl⟩⟩, ⟨v, [], zs, by simp, o, fun x hx => ⟨(p x hx).1, hne x (p x hx).2⟩, k.mono (fun x _ hx => ⟨hx.1, hne x hx.2⟩), rfl⟩⟩
def altR (br : Nat → Out) (s : ByteArray) (r : Out) : Except Nat (Fo × Nat) := match r with
  | .error p => .error p
  | .ok (t, d) => altL br s (s.size + 1 - d) (Fo.nil.snoc t) d
theorem altM_eq (br : Nat → Out) (s : ByteArray) (a : Nat) : altM br s a = togE 3 (altR br s (seqM br s a)) := by
  unfold altM altR togE
  cases seqM br s a with
  | error p => rfl
  | ok td => rfl
set_option maxHeartbeats 8000000 in
theorem alt_any (n : Nat) (hn : 0 < n) (s : ByteArray) (hs : s.size ≤ 256) (o : Int) (br : Nat → Out) (hbr : BrOk n s o br) (D : Nat) (hD : 1 ≤ D) (hg : BrGood s D br) (w : World) (hT : Tab w) (a : Nat) (ha : a ≤ s.size) (hE : Ev w n s a o true) :
    Calls Tryz.prog 111 #[.pointer (some ⟨n + 8, 0, none⟩), .pointer (some ⟨n + 3, 0, none⟩), .pointer (some ⟨n, 0, none⟩), .pointer (some ⟨n + 1, 0, none⟩)] w (Post n s o w (altM br s a)) := by
  have H : St (S3 n) w w (env n s a o true) := hE.st
  rw [altM_eq]
  have PP := hide (fun a ha w hT hE => seq_any n hn s hs o br hbr D hD hg w hT a ha hE)
  have GP := hide (fun a ha => seq_good hD hg a ha)
  have hE8 := hE.lt
  have P0 := hide (PP.out a ha)
  have G0 := GP.out a ha
  generalize seqM br s a = r0 at P0 G0 ⊢
  generalize hR : altR br s r0 = R
  replace hR := hide hR
  replace hbr := hide hbr
  replace hg := hide hg
  go_enter Tryz.func111, Tryz.ntmps111
  go_wp2_with (first | (with_reducible refine at_alloc 27 ?_; refine wl_alloc28 H ?_; clear H; intro g w' H q1 q2) | (with_reducible refine at_load 9 ?_; first | (refine wl_ld9 4 0 H rfl rfl rfl ?_)) | (with_reducible refine at_load 3 ?_; first | (refine wl_ld3 1 0 H rfl rfl rfl ?_)) | (with_reducible refine at_load 4 ?_; first | (refine wl_ld4 3 0 H rfl rfl rfl ?_)) | (with_reducible refine at_load 160 ?_; first | (refine wl_ld59 5 0 H rfl rfl rfl ?_; simp only [brF, atF, piF, seF, alF]) | (refine wl_ld59 6 0 H rfl rfl rfl ?_; simp only [brF, atF, piF, seF, alF]) | (refine wl_ld59 7 0 H rfl rfl rfl ?_; simp only [brF, atF, piF, seF, alF]) | (refine wl_ld59 8 0 H rfl rfl rfl ?_; simp only [brF, atF, piF, seF, alF]) | (refine wl_ld59 9 0 H rfl rfl rfl ?_; simp only [brF, atF, piF, seF, alF])))
  have hgl := H.lti 0 rfl
  have hs1 := H.but.size
  refine (P0.out _ (tab_st hT H hn) (St.ev (M := [_]) H)).mono ?_
  rintro e w2 ⟨x, t, a1, o1, r1, rfl, T, E2, B2, A2⟩
  have W2 := St.closure (M := [_]) H B2 (fun i _ h => h) E2
  have hs2 := B2.size
  clear H
  have H := St.rebaseE (M := [_]) W2 (fun k => k = g) (fun x hx => by simp only [List.mem_cons, List.not_mem_nil, or_false] at hx; subst hx; rfl)
  obtain ⟨va, vn, vc, hx⟩ := T.val
  subst hx
  have ini : a1 ≤ s.size ∧ SqI (altL br s) s R (Fo.nil.snoc t) a1 o1 o r1 := by
    cases r0 with
    | error p =>
      obtain ⟨rfl, rfl⟩ := A2
      exact ⟨G0, fun h => (by cases h), fun _ => hR.out.symm⟩
    | ok td =>
      obtain ⟨t', d⟩ := td
      obtain ⟨rfl, rfl, rfl, rfl⟩ := A2
      obtain ⟨g1, g2, -⟩ := G0
      exact ⟨g2, fun _ => ⟨_, by omega, hR.out, rfl⟩, fun h => (by cases h)⟩
  obtain ⟨ha1, hI0⟩ := ini
  replace hI0 := hide hI0
  go_wp2_with (first | (with_reducible refine at_bs26 ?_; refine wl_bs26 H rfl ?_; clear H; intro b w' H u1 u2))
  have hbb := H.get 0 rfl
  have R0 : Hid (Rw w' (g + 1) (.slice (some ⟨b, 0, none⟩) 1 1) (Fo.nil.snoc t)) := Rw.one (((T.mono (P' := fun x => (g + 1 ≤ x ∧ x ≠ b) ∧ x ≠ g ∧ ¬ S3 n x) (fun x hx hP => by simp only [S3]; omega)).kept (fun x hP hl => H.but.block x hl (fun h => by rcases h with h | h; exact hP.2.2 h; exact hP.2.1 h))).mono (fun x _ hP => hP.1)) hbb (by omega)
  replace H := W2.comb H.tail (fun i hi h => by rcases h with h | h; exact h; omega)
  clear W2 T B2 E2 A2 P0 hbb
  generalize hv0 : Value.slice (some ⟨b, 0, none⟩) 1 1 = v0 at *
  go_loopw [5] (fun l wr => ∃ f a' o' r, Hid (St (S3 n) w wr ([(true, g, 27, reA 0 noSet (.slice none 0 0) 0 0)] ++ env n s a' o' r)) ∧ Hid (Rw wr (g + 1) l f) ∧ Hid (SqI (altL br s) s R f a' o' o r) ∧ a' ≤ s.size ∧ Hid ((r = true → f.len ≤ a' + 1) ∧ f.len ≤ s.size + 2)) (fun _ wr => muP s n wr)
  case atStart => exact ⟨Fo.nil.snoc t, a1, o1, r1, H, R0, hI0, ha1, ⟨fun _ => by simp [Fo.snoc, Fo.len], by simp [Fo.snoc, Fo.len]⟩⟩
  case round =>
    clear H R0 hI0 ha1 hv0
    obtain ⟨f, a', o', r, H1, R1, hI, ha', hf⟩ := hrel
    have H := H1.out
    clear H1
    have hgl := H.lti 0 rfl
    obtain ⟨ra, rc, hv, -, -⟩ : ∃ x c, u5 = .slice x f.len c ∧ True ∧ True := by
      obtain ⟨xs, ro, _⟩ := R1.out
      obtain ⟨x, c, e, _, _⟩ := owns8_val ro
      exact ⟨x, c, e, trivial, trivial⟩
    subst hv
    generalize hv : Value.slice ra f.len rc = v at *
    have cA := H.cell 1 0 rfl (v := .int .i64 (a' : Int)) rfl
    have cR := H.cell 3 0 rfl (v := .bool r) rfl
    have cS := H.cell 4 0 rfl (v := .string s) rfl
    by_cases hc : r = true ∧ bt s a' = 124
    · obtain ⟨rfl, h124⟩ := hc
      have hlt := bt_lt (s := s) (k := a') (by omega)
      obtain ⟨N, hN, hL, ho⟩ := hI.out.1 rfl
      subst ho
      obtain ⟨m, rfl⟩ : ∃ m, N = m + 1 := ⟨N - 1, by omega⟩
      rw [altL, if_pos h124] at hL
      have P1 := hide (PP.out (a' + 1) (by omega))
      have G1 := GP.out (a' + 1) (by omega)
      generalize seqM br s (a' + 1) = rp at P1 G1 hL
      replace h124 := hide h124
      replace hL := hide hL
      have mu1 := hide (muP_of (St.ev (M := [_]) H))
      have hf1 := hf.out.1 rfl
      clear hI PP GP hf
      go_wp2_with fail
      refine (byteAt_i s a' _ rfl).mono ?_
      rintro e w1 ⟨rfl, rfl⟩
      rw [h124.out]
      clear cA cR cS
      go_wp2_with (first | (with_reducible refine at_store 3 ?_; refine wl_st3b 1 H rfl rfl rfl ?_; clear H; intro w' H B1) | (with_reducible refine at_load 9 ?_; first | (refine wl_ld9 4 0 H rfl rfl rfl ?_)) | (with_reducible refine at_load 3 ?_; first | (refine wl_ld3 1 0 H rfl rfl rfl ?_)) | (with_reducible refine at_load 4 ?_; first | (refine wl_ld4 3 0 H rfl rfl rfl ?_)) | (with_reducible refine at_load 160 ?_; first | (refine wl_ld59 5 0 H rfl rfl rfl ?_; simp only [brF, atF, piF, seF, alF]) | (refine wl_ld59 6 0 H rfl rfl rfl ?_; simp only [brF, atF, piF, seF, alF]) | (refine wl_ld59 7 0 H rfl rfl rfl ?_; simp only [brF, atF, piF, seF, alF]) | (refine wl_ld59 8 0 H rfl rfl rfl ?_; simp only [brF, atF, piF, seF, alF]) | (refine wl_ld59 9 0 H rfl rfl rfl ?_; simp only [brF, atF, piF, seF, alF])))
      replace H : St (S3 n) w w' ([(true, g, 27, reA 0 noSet (.slice none 0 0) 0 0)] ++ env n s (a' + 1) o' true) := H
      have R2 := hide (R1.out.kept (w' := w') (fun b hb hl => B1.block b hl (fun h => by omega)))
      have hsb := B1.size
      refine (P1.out w' (tab_st hT H hn) (St.ev (M := [_]) H)).mono ?_
      rintro e w3 ⟨x, t, a2, o2, r2, rfl, T, E3, B3, A3⟩
      have hE9 := E3.lt
      have R3 := hide (R2.out.kept (w' := w3) (fun b hb hl => B3.block b hl (fun h => by simp only [S3] at h; omega)))
      have hs3 := B3.size
      have hown : ∀ k, v.ownBlock = some k → k < w'.heap.size := fun k hk => (R2.out.lt hk).2
      replace H := St.closure (M := [_]) H B3 (fun i _ h => h) E3
      obtain ⟨va, vn, vc, hx⟩ := T.val
      subst hx
      clear P1
      have facts : a2 ≤ s.size ∧ ((r2 = true → (f.snoc t).len ≤ a2 + 1) ∧ (f.snoc t).len ≤ s.size + 2) ∧ okN (.bool r2) * (s.size + 2 - a2) < s.size + 2 - a' ∧ SqI (altL br s) s R (f.snoc t) a2 o2 o' r2 := by
        cases rp with
        | error p =>
          obtain ⟨rfl, rfl⟩ := A3
          refine ⟨G1, ⟨fun h => (by cases h), by rw [Fo.len_snoc]; omega⟩, by simp [okN]; omega, fun h => (by cases h), fun _ => hL.out.symm⟩
        | ok td =>
          obtain ⟨t', d⟩ := td
          obtain ⟨rfl, rfl, rfl, rfl⟩ := A3
          obtain ⟨g1, g2, -⟩ := G1
          exact ⟨g2, ⟨fun _ => by rw [Fo.len_snoc]; omega, by rw [Fo.len_snoc]; omega⟩, by simp [okN]; omega, fun _ => ⟨m, by omega, hL.out, rfl⟩, fun h => (by cases h)⟩
      obtain ⟨k1, k2, k3, k4⟩ := facts
      replace k2 := hide k2
      replace k3 := hide k3
      replace k4 := hide k4
      go_wp2_with (first | (with_reducible refine at_snoc ?_; refine wl_snoc (L := [_] ++ env n s a2 o2 r2) H R3.out T (fun _ => rfl) (fun _ => rfl) rfl hown (by omega) hs3 (by omega) (blocks_lt rfl (by omega)) (by omega) ?_; clear H; intro u v2 w' H R4 hz))
      go_roundw
      case rel => exact ⟨f.snoc t, a2, o2, r2, H, R4, k4, k1, k2⟩
      case measure =>
        show muP s n _ < muP s n _
        rw [muP_of (St.ev (M := [_]) H), mu1.out]
        have := k3.out; simpa [okN] using this
    · have hend : r = true → R = .ok (f, a') := fun hr => by
        obtain ⟨N, hN, hL, _⟩ := hI.out.1 hr
        obtain ⟨m, rfl⟩ : ∃ m, N = m + 1 := ⟨N - 1, by omega⟩
        rw [← hL, altL, if_neg (fun h => hc ⟨hr, h⟩)]
      replace hend := hide hend
      have hf2 := hf.out.2
      have TG := hide (fun xs ro rk => together_any 3 f v wr (fun b => g + 1 ≤ b) xs ro (fun b hb => (R1.out.lt hb).1) rk)
      clear PP GP hf
      cases r with
      | false =>
        clear hc
        go_wp2_with fail
        obtain ⟨xs, ro, rk⟩ := R1.out
        refine (TG.out xs (owns8_mono ro (Nat.zero_le _)) (rk.mono (fun b _ h => h.1))).mono ?_
        rintro e w4 ⟨x, rfl, T4, b4⟩
        have W4 := H.call b4 (Nat.le_refl _)
        clear H TG ro rk
        have H := St.rebaseE (M := [_]) W4 (fun k => k = g) (fun x hx => by simp only [List.mem_cons, List.not_mem_nil, or_false] at hx; subst hx; rfl)
        obtain ⟨va, vn, vc, hx⟩ := T4.val
        subst hx
        clear cA cR cS
        go_wp2_with (first | (with_reducible refine at_store 27 ?_; refine wl_store28 0 H rfl rfl rfl rfl ?_; clear H; intro w' H))
        refine bodyPost_ret (results_cell0 rfl _ _ _ _ rfl (load28 (H.get 0 rfl))) rfl ?_
        refine ⟨_, tog 3 f, a', o', _, rfl, ?_, St.ev (M := [_]) H, W4.but.trans H.but (fun i hi h => by rcases h with h | h; exact h; omega), hI.out.agree 3 (fun h => hend.out (by first | exact h | trivial))⟩
        exact (T4.kept (fun b hP hb => H.but.block b hb (fun h => by rcases h with h | h; simp only [S3] at h; omega; omega))).mono (fun b _ hP => by omega)
      | true =>
        generalize hq : bt s a' = q at hc
        have n124 : (q == 124) = false := beq_eq_false_iff_ne.2 (fun h => hc ⟨rfl, h⟩)
        replace hc := hide hc
        replace hq := hide hq
        go_wp2_with fail
        refine (byteAt_i s a' _ rfl).mono ?_
        rintro e w1 ⟨rfl, rfl⟩
        rw [hq.out]
        go_wp2_with fail
        obtain ⟨xs, ro, rk⟩ := R1.out
        refine (TG.out xs (owns8_mono ro (Nat.zero_le _)) (rk.mono (fun b _ h => h.1))).mono ?_
        rintro e w4 ⟨x, rfl, T4, b4⟩
        have W4 := H.call b4 (Nat.le_refl _)
        clear H TG ro rk
        have H := St.rebaseE (M := [_]) W4 (fun k => k = g) (fun x hx => by simp only [List.mem_cons, List.not_mem_nil, or_false] at hx; subst hx; rfl)
        obtain ⟨va, vn, vc, hx⟩ := T4.val
        subst hx
        clear cA cR cS
        go_wp2_with (first | (with_reducible refine at_store 27 ?_; refine wl_store28 0 H rfl rfl rfl rfl ?_; clear H; intro w' H))
        refine bodyPost_ret (results_cell0 rfl _ _ _ _ rfl (load28 (H.get 0 rfl))) rfl ?_
        refine ⟨_, tog 3 f, a', o', _, rfl, ?_, St.ev (M := [_]) H, W4.but.trans H.but (fun i hi h => by rcases h with h | h; exact h; omega), hI.out.agree 3 (fun h => hend.out (by first | exact h | trivial))⟩
        exact (T4.kept (fun b hP hb => H.but.block b hb (fun h => by rcases h with h | h; simp only [S3] at h; omega; omega))).mono (fun b _ hP => by omega)
open Go.RowKit
set_option linter.unusedVariables false
set_option linter.unusedSimpArgs false

theorem TrV.zeroV (w : World) (P : Nat → Prop) : TrV w P (reV 0 noSet (.slice none 0 0) 0 0) (⟨0, noSet, 0, 0⟩, .nil) := ⟨_, [], rfl, ⟨rfl, .inl ⟨rfl, rfl⟩⟩, fun b hb => (by cases hb), rfl⟩
def brE (s : ByteArray) (r : Out) : Out := match r with
  | .error p => .error p
  | .ok (t, d) => if bt s d = 41 then .ok (t, d + 1) else .error d
theorem brM_eq (s : ByteArray) (m a : Nat) : brM s (m + 1) a = if (opR s a).2 = true then brE s (altM (brM s m) s (opR s a).1) else .error (opR s a).1 := rfl
set_option maxHeartbeats 8000000 in
theorem br_zero (n : Nat) (s : ByteArray) : BrOk n s 32 (brM s 0) := by
  intro w a hE hT hb
  show Calls _ _ _ _ (Post n s 32 w (.error a))
  have H : St (S3 n) w w (env n s a 32 true) := hE.st
  go_enter Tryz.func102, Tryz.ntmps102
  go_wp2_with (first | (with_reducible refine at_alloc 27 ?_; refine wl_alloc28 H ?_; clear H; intro g w' H q1 q2) | (with_reducible refine at_load 9 ?_; first | (refine wl_ld9 4 0 H rfl rfl rfl ?_)) | (with_reducible refine at_load 3 ?_; first | (refine wl_ld3 1 0 H rfl rfl rfl ?_) | (refine wl_ld3 2 0 H rfl rfl rfl ?_)) | (with_reducible refine at_load 4 ?_; first | (refine wl_ld4 3 0 H rfl rfl rfl ?_)) | (with_reducible refine at_load 160 ?_; first | (refine wl_ld59 5 0 H rfl rfl rfl ?_; simp only [brF, atF, piF, seF, alF])) | (with_reducible refine at_store 3 ?_; first | (refine wl_st3 1 H rfl rfl rfl ?_; clear H; intro w' H) | (refine wl_st3 2 H rfl rfl rfl ?_; clear H; intro w' H)) | (with_reducible refine at_store 4 ?_; refine wl_st4 3 H rfl rfl rfl ?_; clear H; intro w' H) | (with_reducible refine at_load 27 ?_; refine wl_load28 0 H rfl rfl ?_) | (with_reducible refine at_store 27 ?_; refine wl_store28 0 H rfl rfl rfl rfl ?_; clear H; intro w' H))
  refine bodyPost_ret (results_cell0 rfl _ _ _ _ rfl (load28 (H.get 0 rfl))) rfl ?_
  exact ⟨_, (⟨0, noSet, 0, 0⟩, .nil), a, 33, false, rfl, TrV.zeroV _ _, St.ev (M := [_]) H, H.but, ⟨rfl, rfl⟩⟩

set_option maxHeartbeats 8000000 in
theorem br_succ (n : Nat) (hn : 0 < n) (s : ByteArray) (hs : s.size ≤ 256) (o : Int) (ho : 0 ≤ o ∧ o ≤ 31) (m : Nat) (IH : BrOk n s (o + 1) (brM s m)) : BrOk n s o (brM s (m + 1)) := by
  intro w a hE hT hb
  have H : St (S3 n) w w (env n s a o true) := hE.st
  have hlt := bt_lt (s := s) (k := a) (by omega)
  obtain ⟨o1, o2⟩ := op_far s a hlt
  have hE8 := hE.lt
  rw [brM_eq]
  have PO := hide (fun w => opening_any s a (by omega) w)
  have PA := hide (fun w hT hE => alt_any n hn s hs (o + 1) (brM s m) IH (3 * m + 1) (by omega) (br_good s m) w hT (opR s a).1 o2 hE)
  have GA := alt_good (by omega) (br_good s m) (opR s a).1 o2
  generalize altM (brM s m) s (opR s a).1 = rA at PA GA ⊢
  generalize opR s a = r0 at PO PA GA o1 o2 ⊢
  obtain ⟨d, ok⟩ := r0
  simp only at PO PA GA o1 o2 ⊢
  replace IH := hide IH
  replace hb := hide hb
  obtain ⟨ho1, ho2⟩ := ho
  have hw1 : o + 1 ≤ 32 := by omega
  cases ok with
  | false =>
    rw [if_neg (by simp)]
    go_enter Tryz.func102, Tryz.ntmps102
    go_wp2_with (first | (with_reducible refine at_alloc 27 ?_; refine wl_alloc28 H ?_; clear H; intro g w' H q1 q2) | (with_reducible refine at_load 9 ?_; first | (refine wl_ld9 4 0 H rfl rfl rfl ?_)) | (with_reducible refine at_load 3 ?_; first | (refine wl_ld3 1 0 H rfl rfl rfl ?_) | (refine wl_ld3 2 0 H rfl rfl rfl ?_)) | (with_reducible refine at_load 4 ?_; first | (refine wl_ld4 3 0 H rfl rfl rfl ?_)) | (with_reducible refine at_load 160 ?_; first | (refine wl_ld59 5 0 H rfl rfl rfl ?_; simp only [brF, atF, piF, seF, alF])) | (with_reducible refine at_store 3 ?_; first | (refine wl_st3 1 H rfl rfl rfl ?_; clear H; intro w' H) | (refine wl_st3 2 H rfl rfl rfl ?_; clear H; intro w' H)) | (with_reducible refine at_store 4 ?_; refine wl_st4 3 H rfl rfl rfl ?_; clear H; intro w' H) | (with_reducible refine at_load 27 ?_; refine wl_load28 0 H rfl rfl ?_) | (with_reducible refine at_store 27 ?_; refine wl_store28 0 H rfl rfl rfl rfl ?_; clear H; intro w' H))
    refine (PO.out _).mono ?_
    rintro e w1 ⟨rfl, rfl⟩
    go_wp2_with (first | (with_reducible refine at_alloc 27 ?_; refine wl_alloc28 H ?_; clear H; intro g w' H q1 q2) | (with_reducible refine at_load 9 ?_; first | (refine wl_ld9 4 0 H rfl rfl rfl ?_)) | (with_reducible refine at_load 3 ?_; first | (refine wl_ld3 1 0 H rfl rfl rfl ?_) | (refine wl_ld3 2 0 H rfl rfl rfl ?_)) | (with_reducible refine at_load 4 ?_; first | (refine wl_ld4 3 0 H rfl rfl rfl ?_)) | (with_reducible refine at_load 160 ?_; first | (refine wl_ld59 5 0 H rfl rfl rfl ?_; simp only [brF, atF, piF, seF, alF])) | (with_reducible refine at_store 3 ?_; first | (refine wl_st3 1 H rfl rfl rfl ?_; clear H; intro w' H) | (refine wl_st3 2 H rfl rfl rfl ?_; clear H; intro w' H)) | (with_reducible refine at_store 4 ?_; refine wl_st4 3 H rfl rfl rfl ?_; clear H; intro w' H) | (with_reducible refine at_load 27 ?_; refine wl_load28 0 H rfl rfl ?_) | (with_reducible refine at_store 27 ?_; refine wl_store28 0 H rfl rfl rfl rfl ?_; clear H; intro w' H))
    refine bodyPost_ret (results_cell0 rfl _ _ _ _ rfl (load28 (H.get 0 rfl))) rfl ?_
    exact ⟨_, (⟨0, noSet, 0, 0⟩, .nil), d, o + 1, false, rfl, TrV.zeroV _ _, St.ev (M := [_]) H, H.but, ⟨rfl, rfl⟩⟩
  | true =>
    rw [if_pos rfl]
    generalize hres : brE s rA = res
    replace hres := hide hres
    go_enter Tryz.func102, Tryz.ntmps102
    go_wp2_with (first | (with_reducible refine at_alloc 27 ?_; refine wl_alloc28 H ?_; clear H; intro g w' H q1 q2) | (with_reducible refine at_load 9 ?_; first | (refine wl_ld9 4 0 H rfl rfl rfl ?_)) | (with_reducible refine at_load 3 ?_; first | (refine wl_ld3 1 0 H rfl rfl rfl ?_) | (refine wl_ld3 2 0 H rfl rfl rfl ?_)) | (with_reducible refine at_load 4 ?_; first | (refine wl_ld4 3 0 H rfl rfl rfl ?_)) | (with_reducible refine at_load 160 ?_; first | (refine wl_ld59 5 0 H rfl rfl rfl ?_; simp only [brF, atF, piF, seF, alF])) | (with_reducible refine at_store 3 ?_; first | (refine wl_st3 1 H rfl rfl rfl ?_; clear H; intro w' H) | (refine wl_st3 2 H rfl rfl rfl ?_; clear H; intro w' H)) | (with_reducible refine at_store 4 ?_; refine wl_st4 3 H rfl rfl rfl ?_; clear H; intro w' H) | (with_reducible refine at_load 27 ?_; refine wl_load28 0 H rfl rfl ?_) | (with_reducible refine at_store 27 ?_; refine wl_store28 0 H rfl rfl rfl rfl ?_; clear H; intro w' H))
    refine (PO.out _).mono ?_
    rintro e w1 ⟨rfl, rfl⟩
    go_wp2_with (first | (with_reducible refine at_alloc 27 ?_; refine wl_alloc28 H ?_; clear H; intro g w' H q1 q2) | (with_reducible refine at_load 9 ?_; first | (refine wl_ld9 4 0 H rfl rfl rfl ?_)) | (with_reducible refine at_load 3 ?_; first | (refine wl_ld3 1 0 H rfl rfl rfl ?_) | (refine wl_ld3 2 0 H rfl rfl rfl ?_)) | (with_reducible refine at_load 4 ?_; first | (refine wl_ld4 3 0 H rfl rfl rfl ?_)) | (with_reducible refine at_load 160 ?_; first | (refine wl_ld59 5 0 H rfl rfl rfl ?_; simp only [brF, atF, piF, seF, alF])) | (with_reducible refine at_store 3 ?_; first | (refine wl_st3 1 H rfl rfl rfl ?_; clear H; intro w' H) | (refine wl_st3 2 H rfl rfl rfl ?_; clear H; intro w' H)) | (with_reducible refine at_store 4 ?_; refine wl_st4 3 H rfl rfl rfl ?_; clear H; intro w' H) | (with_reducible refine at_load 27 ?_; refine wl_load28 0 H rfl rfl ?_) | (with_reducible refine at_store 27 ?_; refine wl_store28 0 H rfl rfl rfl rfl ?_; clear H; intro w' H))
    have hgl := H.lti 0 rfl
    have hs1 := H.but.size
    refine (PA.out _ (tab_st hT H hn) (St.ev (M := [_]) H)).mono ?_
    rintro e w2 ⟨x, t, a2, o2', r2, rfl, T, E2, B2, A2⟩
    have W2 := St.closure (M := [_]) H B2 (fun i _ h => h) E2
    have hs2 := B2.size
    clear H PA
    have H := St.rebaseE (M := [_]) W2 (fun k => k = g) (fun x hx => by simp only [List.mem_cons, List.not_mem_nil, or_false] at hx; subst hx; rfl)
    obtain ⟨va, vn, vc, hx⟩ := T.val
    subst hx
    have keep : Hid (∀ w', But (fun k => S3 n k ∨ k = g) w2 w' → TrV w' (fun b => w.heap.size ≤ b) (reV t.1.k t.1.s (.slice va vn vc) t.1.mn t.1.mx) t) := fun w' hb =>
      ((T.mono (P' := fun b => w.heap.size ≤ b ∧ b ≠ g ∧ ¬ S3 n b) (fun b hb hP => by simp only [S3]; omega)).kept (fun b hP hl => hb.block b hl (fun h => by rcases h with h | h; exact hP.2.2 h; exact hP.2.1 h))).mono (fun b _ hP => hP.1)
    have fin : Hid (∀ w', But (fun k => S3 n k ∨ k = g) w2 w' → But (S3 n) w w') := fun w' hb => W2.but.trans hb (fun i hi h => by rcases h with h | h; exact h; omega)
    clear T B2 E2 W2
    cases rA with
    | error p =>
      obtain ⟨rfl, rfl⟩ := A2
      subst hres
      go_wp2_with (first | (with_reducible refine at_alloc 27 ?_; refine wl_alloc28 H ?_; clear H; intro g w' H q1 q2) | (with_reducible refine at_load 9 ?_; first | (refine wl_ld9 4 0 H rfl rfl rfl ?_)) | (with_reducible refine at_load 3 ?_; first | (refine wl_ld3 1 0 H rfl rfl rfl ?_) | (refine wl_ld3 2 0 H rfl rfl rfl ?_)) | (with_reducible refine at_load 4 ?_; first | (refine wl_ld4 3 0 H rfl rfl rfl ?_)) | (with_reducible refine at_load 160 ?_; first | (refine wl_ld59 5 0 H rfl rfl rfl ?_; simp only [brF, atF, piF, seF, alF])) | (with_reducible refine at_store 3 ?_; first | (refine wl_st3 1 H rfl rfl rfl ?_; clear H; intro w' H) | (refine wl_st3 2 H rfl rfl rfl ?_; clear H; intro w' H)) | (with_reducible refine at_store 4 ?_; refine wl_st4 3 H rfl rfl rfl ?_; clear H; intro w' H) | (with_reducible refine at_load 27 ?_; refine wl_load28 0 H rfl rfl ?_) | (with_reducible refine at_store 27 ?_; refine wl_store28 0 H rfl rfl rfl rfl ?_; clear H; intro w' H))
      refine bodyPost_ret (results_cell0 rfl _ _ _ _ rfl (load28 (H.get 0 rfl))) rfl ?_
      exact ⟨_, t, a2, o2', false, rfl, keep.out _ H.but, St.ev (M := [_]) H, fin.out _ H.but, ⟨rfl, rfl⟩⟩
    | ok td =>
      obtain ⟨t', d2⟩ := td
      obtain ⟨rfl, rfl, rfl, rfl⟩ := A2
      obtain ⟨c1, c2, c3, c4, c5⟩ := GA
      replace c3 := hide c3
      replace c4 := hide c4
      replace c5 := hide c5
      simp only [brE] at hres
      by_cases h41 : bt s a2 = 41
      · rw [if_pos h41] at hres
        subst hres
        replace h41 := hide h41
        go_wp2_with (first | (with_reducible refine at_alloc 27 ?_; refine wl_alloc28 H ?_; clear H; intro g w' H q1 q2) | (with_reducible refine at_load 9 ?_; first | (refine wl_ld9 4 0 H rfl rfl rfl ?_)) | (with_reducible refine at_load 3 ?_; first | (refine wl_ld3 1 0 H rfl rfl rfl ?_) | (refine wl_ld3 2 0 H rfl rfl rfl ?_)) | (with_reducible refine at_load 4 ?_; first | (refine wl_ld4 3 0 H rfl rfl rfl ?_)) | (with_reducible refine at_load 160 ?_; first | (refine wl_ld59 5 0 H rfl rfl rfl ?_; simp only [brF, atF, piF, seF, alF])) | (with_reducible refine at_store 3 ?_; first | (refine wl_st3 1 H rfl rfl rfl ?_; clear H; intro w' H) | (refine wl_st3 2 H rfl rfl rfl ?_; clear H; intro w' H)) | (with_reducible refine at_store 4 ?_; refine wl_st4 3 H rfl rfl rfl ?_; clear H; intro w' H) | (with_reducible refine at_load 27 ?_; refine wl_load28 0 H rfl rfl ?_) | (with_reducible refine at_store 27 ?_; refine wl_store28 0 H rfl rfl rfl rfl ?_; clear H; intro w' H; have cA := H.cell 1 0 rfl (v := .int .i64 (a2 : Int)) rfl; have cS := H.cell 4 0 rfl (v := .string s) rfl))
        refine (byteAt_i s a2 _ rfl).mono ?_
        rintro e w1 ⟨rfl, rfl⟩
        rw [h41.out]
        clear cA cS
        go_wp2_with (first | (with_reducible refine at_alloc 27 ?_; refine wl_alloc28 H ?_; clear H; intro g w' H q1 q2) | (with_reducible refine at_load 9 ?_; first | (refine wl_ld9 4 0 H rfl rfl rfl ?_)) | (with_reducible refine at_load 3 ?_; first | (refine wl_ld3 1 0 H rfl rfl rfl ?_) | (refine wl_ld3 2 0 H rfl rfl rfl ?_)) | (with_reducible refine at_load 4 ?_; first | (refine wl_ld4 3 0 H rfl rfl rfl ?_)) | (with_reducible refine at_load 160 ?_; first | (refine wl_ld59 5 0 H rfl rfl rfl ?_; simp only [brF, atF, piF, seF, alF])) | (with_reducible refine at_store 3 ?_; first | (refine wl_st3 1 H rfl rfl rfl ?_; clear H; intro w' H) | (refine wl_st3 2 H rfl rfl rfl ?_; clear H; intro w' H)) | (with_reducible refine at_store 4 ?_; refine wl_st4 3 H rfl rfl rfl ?_; clear H; intro w' H) | (with_reducible refine at_load 27 ?_; refine wl_load28 0 H rfl rfl ?_) | (with_reducible refine at_store 27 ?_; refine wl_store28 0 H rfl rfl rfl rfl ?_; clear H; intro w' H))
        refine bodyPost_ret (results_cell0 rfl _ _ _ _ rfl (load28 (H.get 0 rfl))) rfl ?_
        exact ⟨_, t, a2 + 1, o, true, rfl, keep.out _ H.but, St.ev (M := [_]) (a := a2 + 1) (o := o) (r := true) H, fin.out _ H.but, ⟨rfl, rfl, rfl, rfl⟩⟩
      · rw [if_neg h41] at hres
        subst hres
        generalize hq : bt s a2 = q at h41
        have n41 : (q == 41) = false := beq_eq_false_iff_ne.2 h41
        replace h41 := hide h41
        replace hq := hide hq
        go_wp2_with (first | (with_reducible refine at_alloc 27 ?_; refine wl_alloc28 H ?_; clear H; intro g w' H q1 q2) | (with_reducible refine at_load 9 ?_; first | (refine wl_ld9 4 0 H rfl rfl rfl ?_)) | (with_reducible refine at_load 3 ?_; first | (refine wl_ld3 1 0 H rfl rfl rfl ?_) | (refine wl_ld3 2 0 H rfl rfl rfl ?_)) | (with_reducible refine at_load 4 ?_; first | (refine wl_ld4 3 0 H rfl rfl rfl ?_)) | (with_reducible refine at_load 160 ?_; first | (refine wl_ld59 5 0 H rfl rfl rfl ?_; simp only [brF, atF, piF, seF, alF])) | (with_reducible refine at_store 3 ?_; first | (refine wl_st3 1 H rfl rfl rfl ?_; clear H; intro w' H) | (refine wl_st3 2 H rfl rfl rfl ?_; clear H; intro w' H)) | (with_reducible refine at_store 4 ?_; refine wl_st4 3 H rfl rfl rfl ?_; clear H; intro w' H) | (with_reducible refine at_load 27 ?_; refine wl_load28 0 H rfl rfl ?_) | (with_reducible refine at_store 27 ?_; refine wl_store28 0 H rfl rfl rfl rfl ?_; clear H; intro w' H; have cA := H.cell 1 0 rfl (v := .int .i64 (a2 : Int)) rfl; have cS := H.cell 4 0 rfl (v := .string s) rfl))
        refine (byteAt_i s a2 _ rfl).mono ?_
        rintro e w1 ⟨rfl, rfl⟩
        rw [hq.out]
        clear cA cS
        go_wp2_with (first | (with_reducible refine at_alloc 27 ?_; refine wl_alloc28 H ?_; clear H; intro g w' H q1 q2) | (with_reducible refine at_load 9 ?_; first | (refine wl_ld9 4 0 H rfl rfl rfl ?_)) | (with_reducible refine at_load 3 ?_; first | (refine wl_ld3 1 0 H rfl rfl rfl ?_) | (refine wl_ld3 2 0 H rfl rfl rfl ?_)) | (with_reducible refine at_load 4 ?_; first | (refine wl_ld4 3 0 H rfl rfl rfl ?_)) | (with_reducible refine at_load 160 ?_; first | (refine wl_ld59 5 0 H rfl rfl rfl ?_; simp only [brF, atF, piF, seF, alF])) | (with_reducible refine at_store 3 ?_; first | (refine wl_st3 1 H rfl rfl rfl ?_; clear H; intro w' H) | (refine wl_st3 2 H rfl rfl rfl ?_; clear H; intro w' H)) | (with_reducible refine at_store 4 ?_; refine wl_st4 3 H rfl rfl rfl ?_; clear H; intro w' H) | (with_reducible refine at_load 27 ?_; refine wl_load28 0 H rfl rfl ?_) | (with_reducible refine at_store 27 ?_; refine wl_store28 0 H rfl rfl rfl rfl ?_; clear H; intro w' H))
        refine bodyPost_ret (results_cell0 rfl _ _ _ _ rfl (load28 (H.get 0 rfl))) rfl ?_
        exact ⟨_, t, a2, _, false, rfl, keep.out _ H.but, St.ev (M := [_]) H, fin.out _ H.but, ⟨rfl, rfl⟩⟩

theorem br_any (n : Nat) (hn : 0 < n) (s : ByteArray) (hs : s.size ≤ 256) : ∀ m : Nat, m ≤ 32 → BrOk n s (32 - (m : Int)) (brM s m)
  | 0, _ => br_zero n s
  | m + 1, h => by
    have := br_succ n hn s hs (32 - ((m + 1 : Nat) : Int)) (by omega) m (by
      rw [show (32 : Int) - ((m + 1 : Nat) : Int) + 1 = 32 - (m : Int) by omega]
      exact br_any n hn s hs m (by omega))
    exact this
end Go.Proofs.YtkfdikpnnkbgaaaGreatDoor
