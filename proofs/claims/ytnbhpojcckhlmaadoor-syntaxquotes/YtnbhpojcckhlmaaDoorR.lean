/-
  The parser's closures, fourth part: alternation.
-/
import Derived.Test.YtnbhpojcckhlmaaDoorQ
namespace Go.Proofs.YtnbhpojcckhlmaaDoor
open Go.RowKit
set_option linter.unusedVariables false
set_option linter.unusedSimpArgs false

theorem wl_st3b {S : Nat → Prop} {w0 w : World} {L : List Ent} {ops : Array Oper} {rest : List Oper} {a : Act} {Q : Exit → Act → World → Prop} {x y : Operand} {ty : TypeId} {pos : String} {after : Array Edge} (i : Nat) (H : St S w0 w L) {g : Nat} {u : Value} {v : Int} (h : L[i]? = some (true, g, 3, #[u])) (hx : a.eval x = .pointer (some ⟨g, 0, none⟩)) (hy : a.eval y = .int .i64 v)
    (k : ∀ w', St S w0 w' (L.set i (true, g, 3, #[.int .i64 v])) → But (fun k => k = g) w w' → wpList Tryd.prog ops Q rest a w') : wpList Tryd.prog ops Q (⟨none, .store 3 x y, ty, pos, after, none⟩ :: rest) a w := by
  have H2 := H.rebase (fun k => k = g ∨ ∃ x ∈ L, x.1 = true ∧ x.2.1 = k ∧ k ≠ g) (fun x hx hr => by
    by_cases e : x.2.1 = g
    · exact .inl e
    · exact .inr ⟨x, hx, hr, rfl, e⟩)
  refine wpList_plain rfl fun K hK => ?_
  have hgt := H.get i h
  have hc : w.cell? ⟨g, 0, none⟩ = some u := H.cell i 0 h rfl
  have hf := H.fz i 0 h
  have hst : (storeVar 3 ⟨g, 0, none⟩ (.int .i64 v)).run Tryd.prog w = .ok () (w.setCell ⟨g, 0, none⟩ (.int .i64 v)) := by
    have e : (storeCells ⟨g, 0, none⟩ [.int .i64 v]).run Tryd.prog w = .ok () (w.setCell ⟨g, 0, none⟩ (.int .i64 v)) := by simp [storeCells, go_sem, stored, hc, hf]
    unfold storeVar
    have e4 : (Value.int IntKind.i64 v).cells = #[.int .i64 v] := rfl
    simp only [Sem.run_bind, one3, Result.andThen_ok, e4]
    simpa using e
  unfold Oper.wp execOp
  simp only [hx, hy, Instr.storeAt, Instr.sureAddr, Sem.run_bind, Sem.run_pure, Result.andThen_ok, hst]
  refine hK _ _ (k _ (H.setCell i h 0 (.int .i64 v)) ?_)
  rw [setCell_eq_setRow w g 0 _ 3 (0, 0) _ hgt]
  exact (But.refl (fun k => k = g) w).setRow (fun _ => rfl) _
theorem St.comb {S S' : Nat → Prop} {w0 w1 w2 : World} {L1 L2 : List Ent} (H1 : St S w0 w1 L1) (H2 : St S' w1 w2 L2) (h : ∀ i, i < w0.heap.size → S' i → S i) : St S w0 w2 L2 :=
  ⟨H1.but.trans H2.but h, H2.all, fun x hx hr hl => h _ hl (H2.ok x hx hr (Nat.lt_of_lt_of_le hl H1.but.size)), H2.nd⟩
theorem Rw.one {w : World} {base : Nat} {t : Tr} {v : Value} {b : Nat} (T : TrV w (fun x => base ≤ x ∧ x ≠ b) (reV t.1.k t.1.s v t.1.mn t.1.mx) t) (h : w.heap[b]? = some (.cells (reA t.1.k t.1.s v t.1.mn t.1.mx) 28 (0, 0))) (hb : base ≤ b) : Rw w base (.slice (some ⟨b, 0, none⟩) 1 1) (Fo.nil.snoc t) := by
  obtain ⟨v', zs, e, o, p, k⟩ := T
  have e2 : v = v' := by simpa [reV, reA] using e
  subst e2
  have hne : ∀ x, x ≠ b → (Value.slice (some ⟨b, 0, none⟩) 1 1).ownBlock ≠ some x := fun x hx e => hx (by simpa [Value.ownBlock] using e.symm)
  refine ⟨(reA t.1.k t.1.s v t.1.mn t.1.mx).toList, ⟨rfl, .inr ⟨b, 1, _, rfl, hb, h, Nat.le_refl _, by unfold maxLen; omega, rfl, rfl⟩⟩, ⟨v, [], zs, by simp, o, fun x hx => ⟨(p x hx).1, hne x (p x hx).2⟩, k.mono (fun x _ hx => ⟨hx.1, hne x hx.2⟩), rfl⟩⟩
def altR (br : Nat → Out) (s : ByteArray) (r : Out) : Except Nat (Fo × Nat) := match r with
  | .error p => .error p
  | .ok (t, d) => altL br s (s.size + 1 - d) (Fo.nil.snoc t) d
theorem altM_eq (br : Nat → Out) (s : ByteArray) (a : Nat) : altM br s a = togE 3 (altR br s (seqM br s a)) := by
  unfold altM altR togE
  cases seqM br s a with
  | error p => rfl
  | ok td => rfl
set_option maxHeartbeats 8000000 in
theorem alt_any (n : Nat) (hn : 1 < n) (s : ByteArray) (hs : s.size ≤ 256) (o : Int) (br : Nat → Out) (hbr : BrOk n s o br) (D : Nat) (hD : 1 ≤ D) (hg : BrGood s D br) (w : World) (hT : Tab w) (a : Nat) (ha : a ≤ s.size) (hE : Ev w n s a o true) :
    Calls Tryd.prog 36 #[.pointer (some ⟨n + 8, 0, none⟩), .pointer (some ⟨n + 3, 0, none⟩), .pointer (some ⟨n, 0, none⟩), .pointer (some ⟨n + 1, 0, none⟩)] w (Post n s o w (altM br s a)) := by
  have H : St (S3 n) w w (env n s a o true) := hE.st
  rw [altM_eq]
  have PP := hide (fun a ha w hT hE => seq_any n hn s hs o br hbr D hD hg w hT a ha hE)
  have GP := hide (fun a ha => seq_good hD hg a ha)
  have hE8 := hE.lt
  have P0 := hide (PP.out a ha)
  have G0 := GP.out a ha
  generalize seqM br s a = r0 at P0 G0 ⊢
  generalize hR : altR br s r0 = R
  replace hR := hide hR
  replace hbr := hide hbr
  replace hg := hide hg
  go_enter Tryd.func36, Tryd.ntmps36
  go_wp2_with (first | (with_reducible refine at_alloc 28 ?_; refine wl_alloc28 H ?_; clear H; intro g w' H q1 q2) | (with_reducible refine at_load 9 ?_; first | (refine wl_ld9 4 0 H rfl rfl rfl ?_)) | (with_reducible refine at_load 3 ?_; first | (refine wl_ld3 1 0 H rfl rfl rfl ?_)) | (with_reducible refine at_load 4 ?_; first | (refine wl_ld4 3 0 H rfl rfl rfl ?_)) | (with_reducible refine at_load 59 ?_; first | (refine wl_ld59 5 0 H rfl rfl rfl ?_; simp only [brF, atF, piF, seF, alF]) | (refine wl_ld59 6 0 H rfl rfl rfl ?_; simp only [brF, atF, piF, seF, alF]) | (refine wl_ld59 7 0 H rfl rfl rfl ?_; simp only [brF, atF, piF, seF, alF]) | (refine wl_ld59 8 0 H rfl rfl rfl ?_; simp only [brF, atF, piF, seF, alF]) | (refine wl_ld59 9 0 H rfl rfl rfl ?_; simp only [brF, atF, piF, seF, alF])))
  have hgl := H.lti 0 rfl
  have hs1 := H.but.size
  refine (P0.out _ (tab_st hT H hn) (St.ev (M := [_]) H)).mono ?_
  rintro e w2 ⟨x, t, a1, o1, r1, rfl, T, E2, B2, A2⟩
  have W2 := St.closure (M := [_]) H B2 (fun i _ h => h) E2
  have hs2 := B2.size
  clear H
  have H := St.rebaseE (M := [_]) W2 (fun k => k = g) (fun x hx => by simp only [List.mem_cons, List.not_mem_nil, or_false] at hx; subst hx; rfl)
  obtain ⟨va, vn, vc, hx⟩ := T.val
  subst hx
  have ini : a1 ≤ s.size ∧ SqI (altL br s) s R (Fo.nil.snoc t) a1 o1 o r1 := by
    cases r0 with
    | error p =>
      obtain ⟨rfl, rfl⟩ := A2
      exact ⟨G0, fun h => (by cases h), fun _ => hR.out.symm⟩
    | ok td =>
      obtain ⟨t', d⟩ := td
      obtain ⟨rfl, rfl, rfl, rfl⟩ := A2
      obtain ⟨g1, g2, -⟩ := G0
      exact ⟨g2, fun _ => ⟨_, by omega, hR.out, rfl⟩, fun h => (by cases h)⟩
  obtain ⟨ha1, hI0⟩ := ini
  replace hI0 := hide hI0
  go_wp2_with (first | (with_reducible refine at_bs26 ?_; refine wl_bs26 H rfl ?_; clear H; intro b w' H u1 u2))
  have hbb := H.get 0 rfl
  have R0 : Hid (Rw w' (g + 1) (.slice (some ⟨b, 0, none⟩) 1 1) (Fo.nil.snoc t)) := Rw.one (((T.mono (P' := fun x => (g + 1 ≤ x ∧ x ≠ b) ∧ x ≠ g ∧ ¬ S3 n x) (fun x hx hP => by simp only [S3]; omega)).kept (fun x hP hl => H.but.block x hl (fun h => by rcases h with h | h; exact hP.2.2 h; exact hP.2.1 h))).mono (fun x _ hP => hP.1)) hbb (by omega)
  replace H := W2.comb H.tail (fun i hi h => by rcases h with h | h; exact h; omega)
  clear W2 T B2 E2 A2 P0 hbb
  generalize hv0 : Value.slice (some ⟨b, 0, none⟩) 1 1 = v0 at *
  go_loopw [5] (fun l wr => ∃ f a' o' r, Hid (St (S3 n) w wr ([(true, g, 28, reA 0 noSet (.slice none 0 0) 0 0)] ++ env n s a' o' r)) ∧ Hid (Rw wr (g + 1) l f) ∧ Hid (SqI (altL br s) s R f a' o' o r) ∧ a' ≤ s.size ∧ Hid ((r = true → f.len ≤ a' + 1) ∧ f.len ≤ s.size + 2)) (fun _ wr => muP s n wr)
  case atStart => exact ⟨Fo.nil.snoc t, a1, o1, r1, H, R0, hI0, ha1, ⟨fun _ => by simp [Fo.snoc, Fo.len], by simp [Fo.snoc, Fo.len]⟩⟩
  case round =>
    clear H R0 hI0 ha1 hv0
    obtain ⟨f, a', o', r, H1, R1, hI, ha', hf⟩ := hrel
    have H := H1.out
    clear H1
    have hgl := H.lti 0 rfl
    obtain ⟨ra, rc, hv, -, -⟩ : ∃ x c, u5 = .slice x f.len c ∧ True ∧ True := by
      obtain ⟨xs, ro, _⟩ := R1.out
      obtain ⟨x, c, e, _, _⟩ := owns8_val ro
      exact ⟨x, c, e, trivial, trivial⟩
    subst hv
    generalize hv : Value.slice ra f.len rc = v at *
    have cA := H.cell 1 0 rfl (v := .int .i64 (a' : Int)) rfl
    have cR := H.cell 3 0 rfl (v := .bool r) rfl
    have cS := H.cell 4 0 rfl (v := .string s) rfl
    by_cases hc : r = true ∧ bt s a' = 124
    · obtain ⟨rfl, h124⟩ := hc
      have hlt := bt_lt (s := s) (k := a') (by omega)
      obtain ⟨N, hN, hL, ho⟩ := hI.out.1 rfl
      subst ho
      obtain ⟨m, rfl⟩ : ∃ m, N = m + 1 := ⟨N - 1, by omega⟩
      rw [altL, if_pos h124] at hL
      have P1 := hide (PP.out (a' + 1) (by omega))
      have G1 := GP.out (a' + 1) (by omega)
      generalize seqM br s (a' + 1) = rp at P1 G1 hL
      replace h124 := hide h124
      replace hL := hide hL
      have mu1 := hide (muP_of (St.ev (M := [_]) H))
      have hf1 := hf.out.1 rfl
      clear hI PP GP hf
      go_wp2_with fail
      refine (byteAt_i s a' _ rfl).mono ?_
      rintro e w1 ⟨rfl, rfl⟩
      rw [h124.out]
      clear cA cR cS
      go_wp2_with (first | (with_reducible refine at_store 3 ?_; refine wl_st3b 1 H rfl rfl rfl ?_; clear H; intro w' H B1) | (with_reducible refine at_load 9 ?_; first | (refine wl_ld9 4 0 H rfl rfl rfl ?_)) | (with_reducible refine at_load 3 ?_; first | (refine wl_ld3 1 0 H rfl rfl rfl ?_)) | (with_reducible refine at_load 4 ?_; first | (refine wl_ld4 3 0 H rfl rfl rfl ?_)) | (with_reducible refine at_load 59 ?_; first | (refine wl_ld59 5 0 H rfl rfl rfl ?_; simp only [brF, atF, piF, seF, alF]) | (refine wl_ld59 6 0 H rfl rfl rfl ?_; simp only [brF, atF, piF, seF, alF]) | (refine wl_ld59 7 0 H rfl rfl rfl ?_; simp only [brF, atF, piF, seF, alF]) | (refine wl_ld59 8 0 H rfl rfl rfl ?_; simp only [brF, atF, piF, seF, alF]) | (refine wl_ld59 9 0 H rfl rfl rfl ?_; simp only [brF, atF, piF, seF, alF])))
      replace H : St (S3 n) w w' ([(true, g, 28, reA 0 noSet (.slice none 0 0) 0 0)] ++ env n s (a' + 1) o' true) := H
      have R2 := hide (R1.out.kept (w' := w') (fun b hb hl => B1.block b hl (fun h => by omega)))
      have hsb := B1.size
      refine (P1.out w' (tab_st hT H hn) (St.ev (M := [_]) H)).mono ?_
      rintro e w3 ⟨x, t, a2, o2, r2, rfl, T, E3, B3, A3⟩
      have hE9 := E3.lt
      have R3 := hide (R2.out.kept (w' := w3) (fun b hb hl => B3.block b hl (fun h => by simp only [S3] at h; omega)))
      have hs3 := B3.size
      have hown : ∀ k, v.ownBlock = some k → k < w'.heap.size := fun k hk => (R2.out.lt hk).2
      replace H := St.closure (M := [_]) H B3 (fun i _ h => h) E3
      obtain ⟨va, vn, vc, hx⟩ := T.val
      subst hx
      clear P1
      have facts : a2 ≤ s.size ∧ ((r2 = true → (f.snoc t).len ≤ a2 + 1) ∧ (f.snoc t).len ≤ s.size + 2) ∧ okN (.bool r2) * (s.size + 2 - a2) < s.size + 2 - a' ∧ SqI (altL br s) s R (f.snoc t) a2 o2 o' r2 := by
        cases rp with
        | error p =>
          obtain ⟨rfl, rfl⟩ := A3
          refine ⟨G1, ⟨fun h => (by cases h), by rw [Fo.len_snoc]; omega⟩, by simp [okN]; omega, fun h => (by cases h), fun _ => hL.out.symm⟩
        | ok td =>
          obtain ⟨t', d⟩ := td
          obtain ⟨rfl, rfl, rfl, rfl⟩ := A3
          obtain ⟨g1, g2, -⟩ := G1
          exact ⟨g2, ⟨fun _ => by rw [Fo.len_snoc]; omega, by rw [Fo.len_snoc]; omega⟩, by simp [okN]; omega, fun _ => ⟨m, by omega, hL.out, rfl⟩, fun h => (by cases h)⟩
      obtain ⟨k1, k2, k3, k4⟩ := facts
      replace k2 := hide k2
      replace k3 := hide k3
      replace k4 := hide k4
      go_wp2_with (first | (with_reducible refine at_snoc ?_; refine wl_snoc (L := [_] ++ env n s a2 o2 r2) H R3.out T (fun _ => rfl) (fun _ => rfl) rfl hown (by omega) hs3 (by omega) (blocks_lt rfl (by omega)) (by omega) ?_; clear H; intro u v2 w' H R4 hz))
      go_roundw
      case rel => exact ⟨f.snoc t, a2, o2, r2, H, R4, k4, k1, k2⟩
      case measure =>
        show muP s n _ < muP s n _
        rw [muP_of (St.ev (M := [_]) H), mu1.out]
        have := k3.out; simpa [okN] using this
    · have hend : r = true → R = .ok (f, a') := fun hr => by
        obtain ⟨N, hN, hL, _⟩ := hI.out.1 hr
        obtain ⟨m, rfl⟩ : ∃ m, N = m + 1 := ⟨N - 1, by omega⟩
        rw [← hL, altL, if_neg (fun h => hc ⟨hr, h⟩)]
      replace hend := hide hend
      have hf2 := hf.out.2
      have TG := hide (fun xs ro rk => together_any 3 f v wr (fun b => g + 1 ≤ b) xs ro (fun b hb => (R1.out.lt hb).1) rk)
      clear PP GP hf
      cases r with
      | false =>
        clear hc
        go_wp2_with fail
        obtain ⟨xs, ro, rk⟩ := R1.out
        refine (TG.out xs (owns8_mono ro (Nat.zero_le _)) (rk.mono (fun b _ h => h.1))).mono ?_
        rintro e w4 ⟨x, rfl, T4, b4⟩
        have W4 := H.call b4 (Nat.le_refl _)
        clear H TG ro rk
        have H := St.rebaseE (M := [_]) W4 (fun k => k = g) (fun x hx => by simp only [List.mem_cons, List.not_mem_nil, or_false] at hx; subst hx; rfl)
        obtain ⟨va, vn, vc, hx⟩ := T4.val
        subst hx
        clear cA cR cS
        go_wp2_with (first | (with_reducible refine at_store 28 ?_; refine wl_store28 0 H rfl rfl rfl rfl ?_; clear H; intro w' H))
        refine bodyPost_ret (results_cell0 rfl _ _ _ _ rfl (load28 (H.get 0 rfl))) rfl ?_
        refine ⟨_, tog 3 f, a', o', _, rfl, ?_, St.ev (M := [_]) H, W4.but.trans H.but (fun i hi h => by rcases h with h | h; exact h; omega), hI.out.agree 3 (fun h => hend.out (by first | exact h | trivial))⟩
        exact (T4.kept (fun b hP hb => H.but.block b hb (fun h => by rcases h with h | h; simp only [S3] at h; omega; omega))).mono (fun b _ hP => by omega)
      | true =>
        generalize hq : bt s a' = q at hc
        have n124 : (q == 124) = false := beq_eq_false_iff_ne.2 (fun h => hc ⟨rfl, h⟩)
        replace hc := hide hc
        replace hq := hide hq
        go_wp2_with fail
        refine (byteAt_i s a' _ rfl).mono ?_
        rintro e w1 ⟨rfl, rfl⟩
        rw [hq.out]
        go_wp2_with fail
        obtain ⟨xs, ro, rk⟩ := R1.out
        refine (TG.out xs (owns8_mono ro (Nat.zero_le _)) (rk.mono (fun b _ h => h.1))).mono ?_
        rintro e w4 ⟨x, rfl, T4, b4⟩
        have W4 := H.call b4 (Nat.le_refl _)
        clear H TG ro rk
        have H := St.rebaseE (M := [_]) W4 (fun k => k = g) (fun x hx => by simp only [List.mem_cons, List.not_mem_nil, or_false] at hx; subst hx; rfl)
        obtain ⟨va, vn, vc, hx⟩ := T4.val
        subst hx
        clear cA cR cS
        go_wp2_with (first | (with_reducible refine at_store 28 ?_; refine wl_store28 0 H rfl rfl rfl rfl ?_; clear H; intro w' H))
        refine bodyPost_ret (results_cell0 rfl _ _ _ _ rfl (load28 (H.get 0 rfl))) rfl ?_
        refine ⟨_, tog 3 f, a', o', _, rfl, ?_, St.ev (M := [_]) H, W4.but.trans H.but (fun i hi h => by rcases h with h | h; exact h; omega), hI.out.agree 3 (fun h => hend.out (by first | exact h | trivial))⟩
        exact (T4.kept (fun b hP hb => H.but.block b hb (fun h => by rcases h with h | h; simp only [S3] at h; omega; omega))).mono (fun b _ hP => by omega)
end Go.Proofs.YtnbhpojcckhlmaaDoor
