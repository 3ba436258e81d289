/-
  The parser's closures, third part: sequence.
-/
import Derived.Test.YtnbhpojcckhlmaaDoorP
namespace Go.Proofs.YtnbhpojcckhlmaaDoor
open Go.RowKit
set_option linter.unusedVariables false
set_option linter.unusedSimpArgs false

/-- How much is left to read. -/
def muP (s : ByteArray) (n : Nat) (w : World) : Nat := okN ((w.cell? ⟨n + 3, 0, none⟩).getD undef) * (s.size + 2 - (intOf ((w.cell? ⟨n + 1, 0, none⟩).getD undef)).toNat)
theorem muP_of {s : ByteArray} {n : Nat} {w : World} {a : Nat} {o : Int} {r : Bool} (h : Ev w n s a o r) : muP s n w = okN (.bool r) * (s.size + 2 - a) := by
  have c1 : w.cell? ⟨n + 3, 0, none⟩ = some (.bool r) := by rw [cell_of_row w (n + 3) 0 _ 4 (0, 0) (h (true, n + 3, 4, #[.bool r]) (by simp [env]))]; rfl
  have c2 : w.cell? ⟨n + 1, 0, none⟩ = some (.int .i64 (a : Int)) := by rw [cell_of_row w (n + 1) 0 _ 3 (0, 0) (h (true, n + 1, 3, #[.int .i64 (a : Int)]) (by simp [env]))]; rfl
  unfold muP
  rw [c1, c2]
  simp [intOf]
/-- What holds between the rounds: what is still to be read comes to R. -/
def SqI (L : Nat → Fo → Nat → Except Nat (Fo × Nat)) (s : ByteArray) (R : Except Nat (Fo × Nat)) (f : Fo) (a : Nat) (o' o : Int) (r : Bool) : Prop :=
  (r = true → ∃ N, s.size - a < N ∧ L N f a = R ∧ o' = o) ∧ (r = false → R = .error a)
def togE (k : Int) (r : Except Nat (Fo × Nat)) : Out := match r with
  | .error p => .error p
  | .ok (f, d) => .ok (tog k f, d)
theorem seqM_eq (br : Nat → Out) (s : ByteArray) (a : Nat) : seqM br s a = togE 2 (seqL br s (s.size + 1 - a) .nil a) := rfl
theorem SqI.agree {L : Nat → Fo → Nat → Except Nat (Fo × Nat)} {s : ByteArray} {R : Except Nat (Fo × Nat)} {f : Fo} {a : Nat} {o' o : Int} {r : Bool} (h : SqI L s R f a o' o r) (k : Int) (he : r = true → R = .ok (f, a)) : Agree (togE k R) (tog k f) a o' r o := by
  cases r with
  | false => rw [h.2 rfl]; exact ⟨rfl, rfl⟩
  | true => obtain ⟨N, _, _, e⟩ := h.1 rfl; rw [he rfl]; exact ⟨rfl, rfl, rfl, e⟩
theorem blocks_lt {n g : Nat} {s : ByteArray} {a : Nat} {o : Int} {r : Bool} {e1 : Ent} (h1 : e1.2.1 = g) (hg : n + 8 < g) : ∀ e ∈ [e1] ++ env n s a o r, e.2.1 < g + 1 := fun e he => by
  simp only [env, List.cons_append, List.nil_append, List.mem_cons, List.not_mem_nil, or_false] at he
  rcases he with rfl | rfl | rfl | rfl | rfl | rfl | rfl | rfl | rfl | rfl <;> first | omega | (simp only; omega)
set_option maxHeartbeats 8000000 in
theorem seq_any (n : Nat) (hn : 1 < n) (s : ByteArray) (hs : s.size ≤ 256) (o : Int) (br : Nat → Out) (hbr : BrOk n s o br) (D : Nat) (hD : 1 ≤ D) (hg : BrGood s D br) (w : World) (hT : Tab w) (a : Nat) (ha : a ≤ s.size) (hE : Ev w n s a o true) :
    Calls Tryd.prog 34 #[.pointer (some ⟨n + 3, 0, none⟩), .pointer (some ⟨n + 1, 0, none⟩), .pointer (some ⟨n, 0, none⟩), .pointer (some ⟨n + 7, 0, none⟩)] w (Post n s o w (seqM br s a)) := by
  have H : St (S3 n) w w (env n s a o true) := hE.st
  rw [seqM_eq]
  generalize hR : seqL br s (s.size + 1 - a) .nil a = R
  have PP := hide (fun a ha w hT hE => piece_any n hn s hs o br hbr D hD hg w hT a ha hE)
  have GP := hide (fun a ha => piece_good hD hg a ha)
  have hE8 := hE.lt
  have hI0 : Hid (SqI (seqL br s) s R .nil a o o true) := ⟨fun _ => ⟨_, by omega, hR, rfl⟩, fun h => (by cases h)⟩
  replace hR := hide hR
  replace hbr := hide hbr
  replace hg := hide hg
  go_enter Tryd.func34, Tryd.ntmps34
  go_wp2_with (first | (with_reducible refine at_alloc 28 ?_; refine wl_alloc28 H ?_; clear H; intro g w' H q1 q2))
  have hsz := H.lti 0 rfl
  go_loopw [5] (fun l wr => ∃ f a' o' r, Hid (St (S3 n) w wr ([(true, g, 28, reA 0 noSet (.slice none 0 0) 0 0)] ++ env n s a' o' r)) ∧ Hid (Rw wr (g + 1) l f) ∧ Hid (SqI (seqL br s) s R f a' o' o r) ∧ a' ≤ s.size ∧ Hid ((r = true → f.len ≤ a') ∧ f.len ≤ s.size + 1)) (fun _ wr => muP s n wr)
  case atStart => exact ⟨.nil, a, o, true, H, Rw.start _ _, hI0, ha, ⟨fun _ => Nat.zero_le _, Nat.zero_le _⟩⟩
  case round =>
    clear H hsz
    obtain ⟨f, a', o', r, H1, R1, hI, ha', hf⟩ := hrel
    have H := H1.out
    clear H1
    have hgl := H.lti 0 rfl
    obtain ⟨ra, rc, hv, -, -⟩ : ∃ x c, u5 = .slice x f.len c ∧ True ∧ True := by
      obtain ⟨xs, ro, _⟩ := R1.out
      obtain ⟨x, c, e, _, _⟩ := owns8_val ro
      exact ⟨x, c, e, trivial, trivial⟩
    subst hv
    generalize hv : Value.slice ra f.len rc = v at *
    have cA := H.cell 1 0 rfl (v := .int .i64 (a' : Int)) rfl
    have cR := H.cell 3 0 rfl (v := .bool r) rfl
    have cS := H.cell 4 0 rfl (v := .string s) rfl
    by_cases hc : r = true ∧ a' < s.size ∧ bt s a' ≠ 124 ∧ bt s a' ≠ 41
    · obtain ⟨rfl, hlt, n124, n41⟩ := hc
      have i1 : (a' : Int) < (s.size : Int) := by omega
      have bk := bt_eq hlt
      have t1 : (((s[a']'hlt).toNat : Int) != 124) = true := by rw [bk]; simpa using n124
      have t2 : (((s[a']'hlt).toNat : Int) != 41) = true := by rw [bk]; simpa using n41
      obtain ⟨N, hN, hL, ho⟩ := hI.out.1 rfl
      subst ho
      obtain ⟨m, rfl⟩ : ∃ m, N = m + 1 := ⟨N - 1, by omega⟩
      rw [seqL, if_pos ⟨hlt, n124, n41⟩] at hL
      have P1 := hide (PP.out a' ha' wr)
      have G1 := GP.out a' ha'
      generalize pieceM br s a' = rp at P1 G1 hL
      replace n124 := hide n124
      replace n41 := hide n41
      replace hL := hide hL
      replace bk := hide bk
      have mu1 := hide (muP_of (St.ev (M := [_]) H))
      have hf1 := hf.out.1 rfl
      clear hI PP GP hf
      go_wp2_with (first | (with_reducible refine at_load 9 ?_; first | (refine wl_ld9 4 0 H rfl rfl rfl ?_)) | (with_reducible refine at_load 3 ?_; first | (refine wl_ld3 1 0 H rfl rfl rfl ?_)) | (with_reducible refine at_load 4 ?_; first | (refine wl_ld4 3 0 H rfl rfl rfl ?_)) | (with_reducible refine at_load 59 ?_; first | (refine wl_ld59 5 0 H rfl rfl rfl ?_; simp only [brF, atF, piF, seF, alF]) | (refine wl_ld59 6 0 H rfl rfl rfl ?_; simp only [brF, atF, piF, seF, alF]) | (refine wl_ld59 7 0 H rfl rfl rfl ?_; simp only [brF, atF, piF, seF, alF]) | (refine wl_ld59 8 0 H rfl rfl rfl ?_; simp only [brF, atF, piF, seF, alF]) | (refine wl_ld59 9 0 H rfl rfl rfl ?_; simp only [brF, atF, piF, seF, alF])))
      refine (P1.out (tab_st hT H hn) (St.ev (M := [_]) H)).mono ?_
      rintro e w3 ⟨x, t, a2, o2, r2, rfl, T, E3, B3, A3⟩
      have R3 := hide (R1.out.kept (w' := w3) (fun b hb hl => B3.block b hl (fun h => by simp only [S3] at h; omega)))
      have hs3 := B3.size
      have hown : ∀ k, v.ownBlock = some k → k < wr.heap.size := fun k hk => (R1.out.lt hk).2
      replace H := St.closure (M := [_]) H B3 (fun i _ h => h) E3
      obtain ⟨va, vn, vc, hx⟩ := T.val
      subst hx
      clear cA cR cS P1
      have facts : a2 ≤ s.size ∧ ((r2 = true → (f.snoc t).len ≤ a2) ∧ (f.snoc t).len ≤ s.size + 1) ∧ okN (.bool r2) * (s.size + 2 - a2) < s.size + 2 - a' ∧ SqI (seqL br s) s R (f.snoc t) a2 o2 o' r2 := by
        cases rp with
        | error p =>
          obtain ⟨rfl, rfl⟩ := A3
          refine ⟨G1, ⟨fun h => (by cases h), by rw [Fo.len_snoc]; omega⟩, by simp [okN]; omega, fun h => (by cases h), fun _ => hL.out.symm⟩
        | ok td =>
          obtain ⟨t', d⟩ := td
          obtain ⟨rfl, rfl, rfl, rfl⟩ := A3
          obtain ⟨g1, g2, -⟩ := G1
          exact ⟨g2, ⟨fun _ => by rw [Fo.len_snoc]; omega, by rw [Fo.len_snoc]; omega⟩, by simp [okN]; omega, fun _ => ⟨m, by omega, hL.out, rfl⟩, fun h => (by cases h)⟩
      obtain ⟨k1, k2, k3, k4⟩ := facts
      replace k2 := hide k2
      replace k3 := hide k3
      replace k4 := hide k4
      go_wp2_with (first | (with_reducible refine at_snoc ?_; refine wl_snoc (L := [_] ++ env n s a2 o2 r2) H R3.out T (fun _ => rfl) (fun _ => rfl) rfl hown (by omega) hs3 (by omega) (blocks_lt rfl (by omega)) (by omega) ?_; clear H; intro u v2 w' H R4 hz))
      go_roundw
      case rel => exact ⟨f.snoc t, a2, o2, r2, H, R4, k4, k1, k2⟩
      case measure =>
        show muP s n _ < muP s n wr
        rw [muP_of (St.ev (M := [_]) H), mu1.out]
        have := k3.out; simpa [okN] using this
    · have hend : r = true → R = .ok (f, a') := fun hr => by
        obtain ⟨N, hN, hL, _⟩ := hI.out.1 hr
        obtain ⟨m, rfl⟩ : ∃ m, N = m + 1 := ⟨N - 1, by omega⟩
        rw [← hL, seqL, if_neg (fun h => hc ⟨hr, h⟩)]
      replace hend := hide hend
      have hf2 := hf.out.2
      have TG := hide (fun xs ro rk => together_any 2 f v wr (fun b => g + 1 ≤ b) xs ro (fun b hb => (R1.out.lt hb).1) rk)
      clear PP GP hf
      cases r with
      | false =>
        clear hc
        go_wp2_with fail
        obtain ⟨xs, ro, rk⟩ := R1.out
        refine (TG.out xs (owns8_mono ro (Nat.zero_le _)) (rk.mono (fun b _ h => h.1))).mono ?_
        rintro e w4 ⟨x, rfl, T4, b4⟩
        have W4 := H.call b4 (Nat.le_refl _)
        clear H TG ro rk
        have H := St.rebaseE (M := [_]) W4 (fun k => k = g) (fun x hx => by simp only [List.mem_cons, List.not_mem_nil, or_false] at hx; subst hx; rfl)
        obtain ⟨va, vn, vc, hx⟩ := T4.val
        subst hx
        clear cA cR cS
        go_wp2_with (first | (with_reducible refine at_store 28 ?_; refine wl_store28 0 H rfl rfl rfl rfl ?_; clear H; intro w' H))
        refine bodyPost_ret (results_cell0 rfl _ _ _ _ rfl (load28 (H.get 0 rfl))) rfl ?_
        refine ⟨_, tog 2 f, a', o', _, rfl, ?_, St.ev (M := [_]) H, W4.but.trans H.but (fun i hi h => by rcases h with h | h; exact h; omega), hI.out.agree 2 (fun h => hend.out (by first | exact h | trivial))⟩
        exact (T4.kept (fun b hP hb => H.but.block b hb (fun h => by rcases h with h | h; simp only [S3] at h; omega; omega))).mono (fun b _ hP => by omega)
      | true =>
        by_cases hlt : a' < s.size
        · have i1 : (a' : Int) < (s.size : Int) := by omega
          have bk := bt_eq hlt
          by_cases h124 : bt s a' = 124
          · have t1 : (((s[a']'hlt).toNat : Int) != 124) = false := by rw [bk, h124]; rfl
            replace h124 := hide h124
            replace bk := hide bk
            replace hc := hide hc
            go_wp2_with fail
            obtain ⟨xs, ro, rk⟩ := R1.out
            refine (TG.out xs (owns8_mono ro (Nat.zero_le _)) (rk.mono (fun b _ h => h.1))).mono ?_
            rintro e w4 ⟨x, rfl, T4, b4⟩
            have W4 := H.call b4 (Nat.le_refl _)
            clear H TG ro rk
            have H := St.rebaseE (M := [_]) W4 (fun k => k = g) (fun x hx => by simp only [List.mem_cons, List.not_mem_nil, or_false] at hx; subst hx; rfl)
            obtain ⟨va, vn, vc, hx⟩ := T4.val
            subst hx
            clear cA cR cS
            go_wp2_with (first | (with_reducible refine at_store 28 ?_; refine wl_store28 0 H rfl rfl rfl rfl ?_; clear H; intro w' H))
            refine bodyPost_ret (results_cell0 rfl _ _ _ _ rfl (load28 (H.get 0 rfl))) rfl ?_
            refine ⟨_, tog 2 f, a', o', _, rfl, ?_, St.ev (M := [_]) H, W4.but.trans H.but (fun i hi h => by rcases h with h | h; exact h; omega), hI.out.agree 2 (fun h => hend.out (by first | exact h | trivial))⟩
            exact (T4.kept (fun b hP hb => H.but.block b hb (fun h => by rcases h with h | h; simp only [S3] at h; omega; omega))).mono (fun b _ hP => by omega)
          · have h41 : bt s a' = 41 := Classical.byContradiction fun h => hc ⟨rfl, hlt, h124, h⟩
            have t1 : (((s[a']'hlt).toNat : Int) != 124) = true := by rw [bk]; simpa using h124
            have t2 : (((s[a']'hlt).toNat : Int) != 41) = false := by rw [bk, h41]; rfl
            replace h124 := hide h124
            replace h41 := hide h41
            replace bk := hide bk
            replace hc := hide hc
            go_wp2_with fail
            obtain ⟨xs, ro, rk⟩ := R1.out
            refine (TG.out xs (owns8_mono ro (Nat.zero_le _)) (rk.mono (fun b _ h => h.1))).mono ?_
            rintro e w4 ⟨x, rfl, T4, b4⟩
            have W4 := H.call b4 (Nat.le_refl _)
            clear H TG ro rk
            have H := St.rebaseE (M := [_]) W4 (fun k => k = g) (fun x hx => by simp only [List.mem_cons, List.not_mem_nil, or_false] at hx; subst hx; rfl)
            obtain ⟨va, vn, vc, hx⟩ := T4.val
            subst hx
            clear cA cR cS
            go_wp2_with (first | (with_reducible refine at_store 28 ?_; refine wl_store28 0 H rfl rfl rfl rfl ?_; clear H; intro w' H))
            refine bodyPost_ret (results_cell0 rfl _ _ _ _ rfl (load28 (H.get 0 rfl))) rfl ?_
            refine ⟨_, tog 2 f, a', o', _, rfl, ?_, St.ev (M := [_]) H, W4.but.trans H.but (fun i hi h => by rcases h with h | h; exact h; omega), hI.out.agree 2 (fun h => hend.out (by first | exact h | trivial))⟩
            exact (T4.kept (fun b hP hb => H.but.block b hb (fun h => by rcases h with h | h; simp only [S3] at h; omega; omega))).mono (fun b _ hP => by omega)
        · have i1 : ¬ ((a' : Int) < (s.size : Int)) := by omega
          clear hc
          go_wp2_with fail
          obtain ⟨xs, ro, rk⟩ := R1.out
          refine (TG.out xs (owns8_mono ro (Nat.zero_le _)) (rk.mono (fun b _ h => h.1))).mono ?_
          rintro e w4 ⟨x, rfl, T4, b4⟩
          have W4 := H.call b4 (Nat.le_refl _)
          clear H TG ro rk
          have H := St.rebaseE (M := [_]) W4 (fun k => k = g) (fun x hx => by simp only [List.mem_cons, List.not_mem_nil, or_false] at hx; subst hx; rfl)
          obtain ⟨va, vn, vc, hx⟩ := T4.val
          subst hx
          clear cA cR cS
          go_wp2_with (first | (with_reducible refine at_store 28 ?_; refine wl_store28 0 H rfl rfl rfl rfl ?_; clear H; intro w' H))
          refine bodyPost_ret (results_cell0 rfl _ _ _ _ rfl (load28 (H.get 0 rfl))) rfl ?_
          refine ⟨_, tog 2 f, a', o', _, rfl, ?_, St.ev (M := [_]) H, W4.but.trans H.but (fun i hi h => by rcases h with h | h; exact h; omega), hI.out.agree 2 (fun h => hend.out (by first | exact h | trivial))⟩
          exact (T4.kept (fun b hP hb => H.but.block b hb (fun h => by rcases h with h | h; simp only [S3] at h; omega; omega))).mono (fun b _ hP => by omega)
end Go.Proofs.YtnbhpojcckhlmaaDoor
