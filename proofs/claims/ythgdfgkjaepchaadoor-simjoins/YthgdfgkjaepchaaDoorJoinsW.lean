/-
  The walk of SimJoins.
-/
import Derived.Test.YthgdfgkjaepchaaDoorJD
namespace Go.Proofs.YthgdfgkjaepchaaDoor
open Go.RowKit
set_option linter.unusedVariables false
set_option linter.unusedSimpArgs false

section
variable {w w' : World} {ops : Array Oper} {rest : List Oper} {a : Act} {Q : Exit → Act → World → Prop} {dst : Option Nat} {x y z : Operand} {ty : TypeId} {pos : String} {after : Array Edge}
theorem at_bd3 (h : wpList Tryd.prog ops Q (⟨dst, .build 27 #[(0, x), (2, y), (4, z)], ty, pos, after, none⟩ :: rest) a w) : wpList Tryd.prog ops Q (⟨dst, .build 27 #[(0, x), (2, y), (4, z)], ty, pos, after, none⟩ :: rest) a w := h
theorem run_bd3 (ev : Operand → Value) {m mx : Int} {v : Value} (h0 : ev x = .int .i64 m) (h1 : ev y = v) (h2 : ev z = .int .i64 mx) (hv : ∃ a n c, v = .slice a n c) (w : World) : (execOp ev ⟨dst, .build 27 #[(0, x), (2, y), (4, z)], ty, pos, after, none⟩).run Tryd.prog w = .ok (.value (reV m noSet v 0 mx)) w := by
  obtain ⟨a, n, c, rfl⟩ := hv
  unfold execOp
  simp only [List.map_toArray, List.map_cons, List.map_nil, h0, h1, h2]
  kernel_rfl
end
theorem st2 {w : World} {g3 g4 : Nat} {A B : Array Value} (h3 : w.heap[g3]? = some (.cells A 27 (0, 0))) (h4 : w.heap[g4]? = some (.cells B 27 (0, 0))) (hn : g4 ≠ g3) : St (fun k => k = g3 ∨ k = g4) w w [(true, g4, 27, B), (true, g3, 27, A)] := by
  refine ⟨But.refl _ _, fun x hx => ?_, fun x hx _ _ => ?_, by simp [hn]⟩
  · rcases List.mem_cons.1 hx with rfl | hx
    · exact h4
    · rw [List.mem_singleton.1 hx]; exact h3
  · rcases List.mem_cons.1 hx with rfl | hx
    · exact .inr rfl
    · rw [List.mem_singleton.1 hx]; exact .inl rfl
theorem empt (t : ByteArray) : t.toList.isEmpty = true ↔ bys t = [] := by
  rw [ByteArray.toList_eq, List.isEmpty_iff]
  constructor
  · intro h
    apply List.eq_nil_of_length_eq_zero
    rw [bys_len]
    have := congrArg List.length h
    simpa using this
  · intro h
    have := congrArg List.length h
    rw [bys_len] at this
    apply List.eq_nil_of_length_eq_zero
    simpa using this
theorem run_cutL (s : ByteArray) (i : Nat) (h : i ≤ s.size) (w : World) : (Instr.sliceAt 9 (.string s) none (some (.int .i64 (i : Int))) none).run Tryd.prog w = .ok (.string (s.extract 0 i)) w := by
  have hu := Tryd.underlying9
  have h1 : (i : Int) ≤ (s.size : Int) := by omega
  simp [go_sem, hu, h1]
theorem run_cutR (s : ByteArray) (i : Nat) (h : i ≤ s.size) (w : World) : (Instr.sliceAt 9 (.string s) (some (.int .i64 (i : Int))) none none).run Tryd.prog w = .ok (.string (s.extract i s.size)) w := by
  have hu := Tryd.underlying9
  have h1 : (i : Int) ≤ (s.size : Int) := by omega
  simp [go_sem, hu, h1]
theorem bool_eq {a b : Bool} (h : a = true ↔ b = true) : a = b := by cases a <;> cases b <;> simp_all
set_option maxHeartbeats 8000000 in
set_option maxRecDepth 100000 in
theorem joinsW (c0 c1 : Array Value) (a2 : ByteArray) (w : World) (hT : Tab w) (hA : ∀ d, ArgR w d c0.toList) (hB : ∀ d, ArgR w d c1.toList) (h1 : a2.size ≤ maxLen) : Calls Tryd.prog 5 #[.agg c0, .agg c1, .string a2] w fun e w' => e = .returned (.bool true) ∧ Below w.heap.size w w' := by
  obtain ⟨k, s, a, n, c, mn, mx, hcs, _⟩ := argR_cases (hA 0)
  obtain rfl : c0 = reA k s (.slice a n c) mn mx := by apply Array.ext'; exact hcs
  obtain ⟨k', s', a', n', c', mn', mx', hcs', _⟩ := argR_cases (hB 0)
  obtain rfl : c1 = reA k' s' (.slice a' n' c') mn' mx' := by apply Array.ext'; exact hcs'
  show Calls Tryd.prog 5 #[reV k s (.slice a n c) mn mx, reV k' s' (.slice a' n' c') mn' mx', .string a2] w _
  unfold maxLen at h1
  obtain ⟨m, hm⟩ : ∃ m : Nat, min a2.size 12 = m := ⟨_, rfl⟩
  have hm1 : m ≤ a2.size := by omega
  have hm2 : m ≤ 12 := by omega
  have p1 : (if ((a2.size : Nat) : Int) < 12 then ((a2.size : Nat) : Int) else 12) = (m : Int) := by rw [← hm]; split <;> omega
  have p2 : (if (12 : Int) < ((a2.size : Nat) : Int) then 12 else ((a2.size : Nat) : Int)) = (m : Int) := by rw [← hm]; split <;> omega
  replace hm := hide hm
  have i1 : (m : Int) ≤ (a2.size : Int) := by omega
  have HS := St.start Nope w
  replace hT := hide hT
  have hAH := hide hA
  have hBH := hide hB
  clear hA hcs hB hcs'
  go_enter Tryd.func5, Tryd.ntmps5
  go_wp2_with (first | ((with_reducible refine at_box 27 ?_); refine wl_box28 HS rfl ?_; clear HS; intro g3 w1 HX q1 q2) | ((with_reducible refine at_box 27 ?_); refine wl_box28 HX rfl ?_; clear HX; intro g4 w2 H q3 q4))
  have hb2 := H.below
  have hnd : g4 ≠ g3 := by have := H.nd; simpa using this
  refine (works_any w2 (hT.out.below hb2)).mono ?_
  rintro e w3 ⟨rfl, B3⟩
  replace H := H.call B3 (Nat.le_refl _)
  have hb3 := hide H.below
  clear hb2 B3
  go_wp2_with (first | ((with_reducible refine at_load 27 ?_); refine wl_load28 1 H rfl rfl ?_))
  have hsz : (a2.extract 0 m).size ≤ 12 := by simp; omega
  generalize a2.extract 0 m = t at hsz ⊢
  have hl4 := H.lti 0 rfl
  have hl3 := H.lti 1 rfl
  refine (some_any (reA k s (.slice a n c) mn mx) w3 (fun d => argR_kept hb3.out (hAH.out d))).mono ?_
  rintro e w4 ⟨t1, u1, _, _, _, b1, rfl, T1, hu1, hz1, ho1, B4, hk1⟩
  replace H := H.call B4 (Nat.le_refl _)
  have hb4 := hide H.below
  have G4 := st2 (H.get 1 rfl) (H.get 0 rfl) hnd
  have hs34 := B4.size
  replace T1 := hide T1
  replace hk1 := hide hk1
  clear H B4 p1 p2
  go_wp2_with (first | ((with_reducible refine at_store 27 ?_); refine wl_store28 1 G4 rfl rfl rfl hu1 ?_; clear G4; intro w5 G5) | ((with_reducible refine at_load 27 ?_); refine wl_load28 0 G5 rfl rfl ?_))
  have hb5 : Hid (Below w.heap.size w w5) := hb4.out.trans (G5.but.below (B := w.heap.size) hb4.out.size (fun k e => by omega))
  have T15 := hide (T1.out.kept (w' := w5) (fun b hb hl => G5.but.block b hl (by omega)))
  have hs45 := G5.but.size
  have D5 := G5.get 0 rfl
  have E5 := G5.get 1 rfl
  refine (some_any (reA k' s' (.slice a' n' c') mn' mx') w5 (fun d => argR_kept hb5.out (hBH.out d))).mono ?_
  rintro e w6 ⟨t2, u2, _, _, _, b2, rfl, T2, hu2, hz2, ho2, B6, hk2⟩
  have G6 := st2 ((B6.block g3 (Array.getElem?_eq_some_iff.1 E5).1).trans E5) ((B6.block g4 (Array.getElem?_eq_some_iff.1 D5).1).trans D5) hnd
  have hb6 : Hid (Below w.heap.size w w6) := hb5.out.trans (B6.mono hb5.out.size)
  have T16 := hide (T15.out.kept (w' := w6) (fun b hb hl => B6.block b hl))
  have hs56 := B6.size
  replace T2 := hide T2
  replace hk2 := hide hk2
  clear G5 B6 D5 E5 T1 T15
  cases b1 with
  | false =>
    go_wp2_with (first | ((with_reducible refine at_store 27 ?_); refine wl_store28 0 G6 rfl rfl rfl hu2 ?_; clear G6; intro w7 G7))
    go_ret
    exact ⟨rfl, hb6.out.trans (G7.but.below hb6.out.size (fun k e => by omega))⟩
  | true =>
    cases b2 with
    | false =>
      go_wp2_with (first | ((with_reducible refine at_store 27 ?_); refine wl_store28 0 G6 rfl rfl rfl hu2 ?_; clear G6; intro w7 G7))
      go_ret
      exact ⟨rfl, hb6.out.trans (G7.but.below hb6.out.size (fun k e => by omega))⟩
    | true =>
      obtain ⟨hf1, hn1, _, _⟩ := hk1.out rfl
      obtain ⟨hf2, hn2, _, _⟩ := hk2.out rfl
      replace hf1 := hide hf1
      replace hf2 := hide hf2
      replace ho1 := hide ho1
      replace ho2 := hide ho2
      clear hk1 hk2
      have hoS : (Value.slice none 0 0).oneCell' = true := rfl
      go_wp2_with (first | ((with_reducible refine at_store 27 ?_); first | (refine wl_store28 0 G6 rfl rfl rfl hu2 ?_; clear G6; intro w7 G7) | (refine wl_store28 0 G9 rfl rfl rfl rfl ?_; clear G9; intro w10 G10)) | ((with_reducible refine at_load 27 ?_); refine wl_load28 1 G7 rfl rfl ?_) | ((with_reducible refine at_bs26 ?_); refine wl_bs26 G7 rfl ?_; clear G7; intro b w8 G8 q5 q6) | ((with_reducible refine at_bd3 ?_); refine wl_val (run_bd3 _ rfl rfl rfl ⟨_, _, _, rfl⟩ _) ?_) | ((with_reducible refine at_alloc 27 ?_); refine wl_alloc28 G8 ?_; clear G8; intro g11 w9 G9 q7 q8))
      have H10 : St (fun k => k = g3 ∨ k = g4) w6 w10 [(true, g11, 27, reA 4 noSet (.slice (some ⟨b, 0, none⟩) 1 1) 0 (-1)), (false, b, 27, reA t1.1.k t1.1.s u1 t1.1.mn t1.1.mx), (true, g4, 27, reA t2.1.k t2.1.s u2 t2.1.mn t2.1.mx), (true, g3, 27, reA t1.1.k t1.1.s u1 t1.1.mn t1.1.mx)] := G10
      have hb10 : Hid (Below w.heap.size w w10) := hb6.out.trans (H10.but.below hb6.out.size (fun k e => by omega))
      have T1a := T16.out.kept (w' := w10) (fun b hb hl => H10.but.block b hl (by omega))
      have T2a := T2.out.kept (w' := w10) (fun b hb hl => H10.but.block b hl (by omega))
      have T3a : TrV w10 (fun b => w3.heap.size ≤ b) (reV 4 noSet (.slice (some ⟨b, 0, none⟩) 1 1) 0 (-1)) (stT t1) := T1a.repV (H10.get 1 rfl) (by omega) 0 (-1)
      have C11 := H10.get 0 rfl
      have C4 := H10.get 2 rfl
      have C3 := H10.get 3 rfl
      have hdp1 := dpT_le2 t1
      have hdp2 := dpT_le2 t2
      have hC : Hid (∀ W, Below w10.heap.size w10 W → (loadVar 27 ⟨g3, 0, none⟩).run Tryd.prog W = .ok (reV t1.1.k t1.1.s u1 t1.1.mn t1.1.mx) W ∧ (loadVar 27 ⟨g4, 0, none⟩).run Tryd.prog W = .ok (reV t2.1.k t2.1.s u2 t2.1.mn t2.1.mx) W ∧ (loadVar 27 ⟨g11, 0, none⟩).run Tryd.prog W = .ok (reV 4 noSet (.slice (some ⟨b, 0, none⟩) 1 1) 0 (-1)) W) := fun W hW =>
        ⟨load28 ((hW.block _ (Array.getElem?_eq_some_iff.1 C3).1).trans C3), load28 ((hW.block _ (Array.getElem?_eq_some_iff.1 C4).1).trans C4), load28 ((hW.block _ (Array.getElem?_eq_some_iff.1 C11).1).trans C11)⟩
      have hT10 := hT.out.below hb10.out
      have hM1 : Hid (∀ (x : ByteArray) W, x.size ≤ 12 → Below w10.heap.size w10 W → Calls Tryd.prog 17 #[reV t1.1.k t1.1.s u1 t1.1.mn t1.1.mx, .string x] W fun e w' => Below W.heap.size W w' ∧ e = .returned (.bool (mB t1 x))) := fun x W hx hW => matches_B t1 hf1.out ho1.out (by omega) (by omega) (by omega) _ u1 x (by omega) W (hT10.below hW) (T1a.kept (fun b _ hl => hW.block b hl))
      have hM2 : Hid (∀ (x : ByteArray) W, x.size ≤ 12 → Below w10.heap.size w10 W → Calls Tryd.prog 17 #[reV t2.1.k t2.1.s u2 t2.1.mn t2.1.mx, .string x] W fun e w' => Below W.heap.size W w' ∧ e = .returned (.bool (mB t2 x))) := fun x W hx hW => matches_B t2 hf2.out ho2.out (by omega) (by omega) (by omega) _ u2 x (by omega) W (hT10.below hW) (T2a.kept (fun b _ hl => hW.block b hl))
      have hM3 : Hid (∀ (x : ByteArray) W, x.size ≤ 12 → Below w10.heap.size w10 W → Calls Tryd.prog 17 #[reV 4 noSet (.slice (some ⟨b, 0, none⟩) 1 1) 0 (-1), .string x] W fun e w' => Below W.heap.size W w' ∧ e = .returned (.bool (mB (stT t1) x))) := fun x W hx hW => matches_B (stT t1) (st_fit hf1.out) (st_ok ho1.out) (by have := st_n t1; omega) (by rw [st_sz]; omega) (by rw [st_dp]; omega) _ _ x (by omega) W (hT10.below hW) (T3a.kept (fun b _ hl => hW.block b hl))
      have hM4 : Hid (∀ (kk : Int), kk = 2 ∨ kk = 3 → ∀ W, Below w10.heap.size w10 W → Calls Tryd.prog 17 #[reV kk noSet (.slice (some ⟨W.heap.size, 0, none⟩) 2 2) 0 0, .string t] (W.alloc (.cells (reA t1.1.k t1.1.s u1 t1.1.mn t1.1.mx ++ reA t2.1.k t2.1.s u2 t2.1.mn t2.1.mx) 27)) fun e w' => Below W.heap.size W w' ∧ e = .returned (.bool (mB (two kk t1 t2) t))) := fun kk hk W hW => by
        have hBa : Below W.heap.size W (W.alloc (.cells (reA t1.1.k t1.1.s u1 t1.1.mn t1.1.mx ++ reA t2.1.k t2.1.s u2 t2.1.mn t2.1.mx) 27)) := (Below.refl _ W).alloc (Nat.le_refl _) _
        have T4 := two_tr kk ((T1a.kept (fun b _ hl => hW.block b hl)).mono (P' := fun _ => True) (fun _ _ _ => trivial)) ((T2a.kept (fun b _ hl => hW.block b hl)).mono (P' := fun _ => True) (fun _ _ _ => trivial)) trivial
        refine (matches_B (two kk t1 t2) (two_fit hk hf1.out hf2.out) (two_ok ho1.out ho2.out) (by rcases hk with rfl | rfl; have := two2_n t1 t2; omega; have := two3_n t1 t2; omega) (by rw [two_sz]; omega) (by have := two_dp kk t1 t2; omega) _ _ t (by omega) _ ((hT10.below hW).below hBa) T4).mono ?_
        rintro e w' ⟨q, r⟩
        exact ⟨hBa.trans (q.mono hBa.size), r⟩
      obtain ⟨ag0, hag⟩ : ∃ ag0, t.toList.isEmpty = ag0 := ⟨_, rfl⟩
      have hag0 : Hid (ag0 = true ↔ bys t = []) := by rw [← hag]; exact empt t
      rw [hag]
      replace hag := hide hag
      replace hb6 := hide hb6
      clear G10 H10 T1a T2a T3a C11 C4 C3 T16 T2 hb6 hb3 hb4 hb5 hT10
      go_loopw [12, 13, 14] (fun vj vg vi wr => ∃ (i : Nat) (jn ag : Bool), i ≤ t.size + 1 ∧ vj = .bool jn ∧ vg = .bool ag ∧ vi = .int .i64 (i : Int) ∧ Hid (jn = true ↔ ∃ k, k < i ∧ meT t1 ((bys t).take k) ∧ meT t2 ((bys t).drop k)) ∧ Hid (ag = true ↔ bys t = [] ∨ ∃ k, k < i ∧ 0 < k ∧ meT t1 ((bys t).take k) ∧ meT (stT t1) ((bys t).drop k)) ∧ Hid (Below w10.heap.size w10 wr)) (fun _ _ vi _ => t.size + 1 - (intOf vi).toNat)
      case atStart => exact ⟨0, false, ag0, by omega, rfl, rfl, rfl, (by simp : (false = true) ↔ ∃ k, k < 0 ∧ meT t1 ((bys t).take k) ∧ meT t2 ((bys t).drop k)), (by rw [hag0.out]; simp : ag0 = true ↔ bys t = [] ∨ ∃ k, k < 0 ∧ 0 < k ∧ meT t1 ((bys t).take k) ∧ meT (stT t1) ((bys t).drop k)), Below.refl _ _⟩
      case round =>
        obtain ⟨i, jn, ag, hi, rfl, rfl, rfl, hjn, hagn, hBr⟩ := hrel
        by_cases hlt : i ≤ t.size
        · have j1 : (i : Int) ≤ (t.size : Int) := by omega
          have x1 : (t.extract 0 i).size ≤ 12 := by simp; omega
          have x2 : (t.extract i t.size).size ≤ 12 := by simp; omega
          go_wp2_with fail
          refine reg5_13 wr g3 g4 g11 i t (t.extract 0 i) (t.extract i t.size) _ _ _ (fun W hW => hC.out W (hBr.out.trans (hW.mono hBr.out.size))) (run_cutL t i hlt) (run_cutR t i hlt) jn (mB t1 (t.extract 0 i)) (mB t2 (t.extract i t.size)) (fun W hW => hM1.out _ W x1 (hBr.out.trans (hW.mono hBr.out.size))) (fun W hW => hM2.out _ W x2 (hBr.out.trans (hW.mono hBr.out.size))) _ _ _ _ _ _ _ _ _ _ _ _ _ _ _ _ _ _ _ _ _ _ _ _ _ _ _ _ _ _ _ _ _ _ _ _ _ _ _ _ _ _ _ _ _ _ _ _ _ _ _ _ _ _ _ _ _ _ _ _ _ _ _ _ _ _ _ _ _ _ _ _ _ _ _ _ _ _ _ _ _ _ _ _ _ _ _ _ _ _ _ _ _ _ _ _ _ _ _ _ _ _ _ _ _ _ _ _ _ _ _ _ ?_
          intro y51 y52 y53 y54 y55 y56 y57 y58 y59 y60 y61 y62 y63 y64 y65 wq hq
          have hBq : Hid (Below w10.heap.size w10 wq) := hBr.out.trans (hq.mono hBr.out.size)
          clear hq
          go_wp2_with fail
          refine reg5_14 wq g3 g4 g11 i t (t.extract 0 i) (t.extract i t.size) _ _ _ (fun W hW => hC.out W (hBq.out.trans (hW.mono hBq.out.size))) (run_cutL t i hlt) (run_cutR t i hlt) ag (mB t1 (t.extract 0 i)) (mB (stT t1) (t.extract i t.size)) (fun W hW => hM1.out _ W x1 (hBq.out.trans (hW.mono hBq.out.size))) (fun W hW => hM3.out _ W x2 (hBq.out.trans (hW.mono hBq.out.size))) _ _ _ _ _ _ _ _ _ _ _ _ _ _ _ _ _ _ _ _ _ _ _ _ _ _ _ _ _ _ _ _ _ _ _ _ _ _ _ _ _ _ _ _ _ _ _ _ _ _ _ _ _ _ _ _ _ _ _ _ _ _ _ _ _ _ _ _ _ _ _ _ _ _ _ _ _ _ _ _ _ _ _ _ _ _ _ _ _ _ _ _ _ _ _ _ _ _ _ _ _ _ _ _ _ _ _ _ _ _ _ _ ?_
          intro y66 y67 y68 y69 y70 y71 y72 y73 y74 y75 y76 y77 y78 y79 y80 y81 y82 y83 y84 wz hz
          have hBz : Hid (Below w10.heap.size w10 wz) := hBq.out.trans (hz.mono hBq.out.size)
          clear hz
          have e1 : mB t1 (t.extract 0 i) = true ↔ meT t1 ((bys t).take i) := by rw [mB_iff, bys_cut1 t i hlt]
          have e2 : mB t2 (t.extract i t.size) = true ↔ meT t2 ((bys t).drop i) := by rw [mB_iff, bys_cut2 t i hlt]
          have e3 : mB (stT t1) (t.extract i t.size) = true ↔ meT (stT t1) ((bys t).drop i) := by rw [mB_iff, bys_cut2 t i hlt]
          have hj2 : Hid ((jn || (mB t1 (t.extract 0 i) && mB t2 (t.extract i t.size))) = true ↔ ∃ k, k < i + 1 ∧ meT t1 ((bys t).take k) ∧ meT t2 ((bys t).drop k)) := by
            rw [Bool.or_eq_true, Bool.and_eq_true, hjn.out, e1, e2]
            constructor
            · rintro (⟨k, h1, h2⟩ | h)
              · exact ⟨k, by omega, h2⟩
              · exact ⟨i, by omega, h⟩
            · rintro ⟨k, h1, h2⟩
              rcases Nat.lt_or_ge k i with h | h
              · exact .inl ⟨k, h, h2⟩
              · obtain rfl : k = i := by omega
                exact .inr h2
          have hg2 : Hid ((ag || (decide (0 < i) && (mB t1 (t.extract 0 i) && mB (stT t1) (t.extract i t.size)))) = true ↔ bys t = [] ∨ ∃ k, k < i + 1 ∧ 0 < k ∧ meT t1 ((bys t).take k) ∧ meT (stT t1) ((bys t).drop k)) := by
            rw [Bool.or_eq_true, Bool.and_eq_true, Bool.and_eq_true, hagn.out, e1, e3, decide_eq_true_iff]
            constructor
            · rintro ((h | ⟨k, h1, h2⟩) | h)
              · exact .inl h
              · exact .inr ⟨k, by omega, h2⟩
              · exact .inr ⟨i, by omega, h⟩
            · rintro (h | ⟨k, h1, h2⟩)
              · exact .inl (.inl h)
              · rcases Nat.lt_or_ge k i with h | h
                · exact .inl (.inr ⟨k, h, h2⟩)
                · obtain rfl : k = i := by omega
                  exact .inr h2
          generalize (jn || (mB t1 (t.extract 0 i) && mB t2 (t.extract i t.size))) = jn2 at *
          generalize (ag || (decide (0 < i) && (mB t1 (t.extract 0 i) && mB (stT t1) (t.extract i t.size)))) = ag2 at *
          clear e1 e2 e3
          go_wp2_with fail
          go_roundw
          case rel => exact ⟨i + 1, jn2, ag2, by omega, rfl, rfl, by go_num, hj2, hg2, hBz⟩
          case measure => simp [intOf]; omega
        · obtain rfl : i = t.size + 1 := by omega
          have j1 : ¬ ((t.size + 1 : Nat) : Int) ≤ (t.size : Int) := by omega
          have hj : jn = mB (two 2 t1 t2) t := bool_eq (by
            rw [hjn.out, mB_iff, me_both, cat_cut, bys_len]
            constructor
            · rintro ⟨k, h1, h2⟩; exact ⟨k, by omega, h2⟩
            · rintro ⟨k, h1, h2⟩; exact ⟨k, by omega, h2⟩)
          have hg : ag = mB (stT t1) t := bool_eq (by
            rw [hagn.out, mB_iff, me_again, bys_len]
            constructor
            · rintro (h | ⟨k, h1, h2, h3⟩)
              · exact .inl h
              · exact .inr ⟨k, h2, by omega, h3⟩
            · rintro (h | ⟨k, h1, h2, h3⟩)
              · exact .inl h
              · exact .inr ⟨k, by omega, h1, h3⟩)
          have he : mB (two 3 t1 t2) t = (mB t1 t || mB t2 t) := bool_eq (by rw [mB_iff, me_either, Bool.or_eq_true, mB_iff, mB_iff])
          have hbs : ∀ W : World, (Instr.buildSlice 25 2 #[(0, reV t1.1.k t1.1.s u1 t1.1.mn t1.1.mx), (1, reV t2.1.k t2.1.s u2 t2.1.mn t2.1.mx)]).run Tryd.prog W = .ok (.slice (some ⟨W.heap.size, 0, none⟩) 2 2) (W.alloc (.cells (reA t1.1.k t1.1.s u1 t1.1.mn t1.1.mx ++ reA t2.1.k t2.1.s u2 t2.1.mn t2.1.mx) 27)) := run_bs25b _ _ _ _ _ _ _ _ _ _
          subst hj hg
          have up : ∀ W, Below wr.heap.size wr W → Below w10.heap.size w10 W := fun W hW => hBr.out.trans (hW.mono hBr.out.size)
          have hJ := fun W (hW : Below wr.heap.size wr W) => hM4.out 2 (.inl rfl) W (up W hW)
          have hE := fun W (hW : Below wr.heap.size wr W) => hM4.out 3 (.inr rfl) W (up W hW)
          have hA1 := fun W (hW : Below wr.heap.size wr W) => hM1.out t W hsz (up W hW)
          have hA2 := fun W (hW : Below wr.heap.size wr W) => hM2.out t W hsz (up W hW)
          have hA3 := fun W (hW : Below wr.heap.size wr W) => hM3.out t W hsz (up W hW)
          have hC15 := fun W (hW : Below wr.heap.size wr W) => hC.out W (up W hW)
          rw [he] at hE
          replace hJ := hide hJ
          replace hA3 := hide hA3
          replace hC15 := hide hC15
          replace hbs := hide hbs
          replace up := hide up
          replace hA2 := hide hA2
          have fin : Hid (∀ w', Below wr.heap.size wr w' → Below w.heap.size w w') := fun w' h => hb10.out.trans ((up.out _ h).mono hb10.out.size)
          cases hm1 : mB t1 t with
          | true =>
            rw [hm1] at hE hA1
            replace hE := hide hE
            replace hA1 := hide hA1
            replace hm1 := hide hm1
            go_wp2_with fail
            refine reg5_15t wr g3 g4 g11 t _ _ _ _ _ _ hC15.out hbs.out hJ.out hE.out hA1.out hA3.out _ _ _ _ _ _ _ _ _ _ _ _ _ _ _ _ _ _ _ _ _ _ _ _ _ _ _ _ _ _ _ _ _ _ _ _ _ _ _ _ _ _ _ _ _ _ _ _ _ _ _ _ _ _ _ _ _ _ _ _ _ _ _ _ _ _ _ _ _ _ _ _ _ _ _ _ _ _ _ _ _ _ _ _ _ _ _ _ _ _ _ _ _ _ _ _ _ _ _ _ _ _ _ _ _ _ _ _ _ _ _ _ ?_
            intro w' n1 n2 hB
            have F := hide (fin.out _ hB)
            clear hB
            go_wp2_with fail
            go_ret
            exact ⟨rfl, F.out⟩
          | false =>
            rw [hm1] at hE hA1
            simp only [Bool.false_or] at hE
            replace hE := hide hE
            replace hA1 := hide hA1
            replace hm1 := hide hm1
            go_wp2_with fail
            refine reg5_15f wr g3 g4 g11 t _ _ _ _ _ _ (mB t2 t) hC15.out hbs.out hJ.out hE.out hA1.out hA3.out hA2.out _ _ _ _ _ _ _ _ _ _ _ _ _ _ _ _ _ _ _ _ _ _ _ _ _ _ _ _ _ _ _ _ _ _ _ _ _ _ _ _ _ _ _ _ _ _ _ _ _ _ _ _ _ _ _ _ _ _ _ _ _ _ _ _ _ _ _ _ _ _ _ _ _ _ _ _ _ _ _ _ _ _ _ _ _ _ _ _ _ _ _ _ _ _ _ _ _ _ _ _ _ _ _ _ _ _ _ _ _ _ _ _ ?_
            intro w' n1 n2 hB
            have F := hide (fin.out _ hB)
            clear hB
            go_wp2_with fail
            go_ret
            exact ⟨rfl, F.out⟩
end Go.Proofs.YthgdfgkjaepchaaDoor
