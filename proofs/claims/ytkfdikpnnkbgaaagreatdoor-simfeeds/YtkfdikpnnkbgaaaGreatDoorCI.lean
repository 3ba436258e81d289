/-
  repeated and its closures.
-/
import Derived.Test.YtkfdikpnnkbgaaaGreatDoorCH
import Derived.Maps.AppendAt
namespace Go.Proofs.YtkfdikpnnkbgaaaGreatDoor
open Go.RowKit
set_option linter.unusedVariables false
set_option linter.unusedSimpArgs false

theorem clo80 : Clo 127 := fun args w => by kernel_rfl
theorem clo78 : Clo 125 := fun args w => by kernel_rfl
theorem rp2_one {n : Nat} {f : Value} (hf : f.oneCell' = true) (k : Nat) : ∀ v ∈ rp2 (.int .i64 ((n : Nat) : Int)) f k, v.oneCell' = true := fun v hv => by
  rcases rp2_mem _ f k v hv with rfl | rfl
  · rfl
  · exact hf
theorem owns_rp2 {w : World} {g z n : Nat} {f : Value} (hn : n ≤ 1000000) (h : w.heap[g]? = some (.cells (rp2 (.int .i64 (z : Int)) f n).toArray 66 (0, 0))) : w.ownsRow 0 66 2 (.slice (some ⟨g, 0, none⟩) n n) n (rp2 (.int .i64 (z : Int)) f n) := by
  have hl := rp2_len (.int .i64 (z : Int)) f n
  refine ⟨hl, .inr ⟨g, n, _, rfl, Nat.zero_le _, h, Nat.le_refl _, by unfold maxLen; omega, by simpa using hl, ?_⟩⟩
  simp only [List.toList_toArray]
  exact List.take_of_length_le (by omega)
/-- append of codes, as it runs. -/
theorem run_appC (w : World) (ty : TypeId) (v : Value) (n : Nat) (xs : List Value) (h : w.ownsRow 0 66 2 v n xs) (b m c : Nat) (news : List Value) (hb : w.heap[b]? = some (.cells news.toArray 66 (0, 0))) (hl : news.length = m * 2) (h1 : ∀ u ∈ news, u.oneCell' = true) (hnm : n + m ≤ 1000000) :
    ∃ v' w', (Builtin.append_ #[149, 149] ty #[v, .slice (some ⟨b, 0, none⟩) m c]).run Tryz.prog w = .ok v' w' ∧ w'.ownsRow 0 66 2 v' (n + m) (xs ++ news) ∧ w.grownBy w' v.ownBlock ∧ (v'.ownBlock = v.ownBlock ∨ v'.ownBlock = some w.heap.size) := by
  obtain ⟨i0, hi, hz0, hz1, hz2⟩ := infoC
  obtain ⟨v', w', h1, h2, h3, _, h5⟩ := run_append_own_at (P := Tryz.prog) w 0 149 ty 66 i0 (cdV 0 .nilFunc) 2 16 Tryz.underlying149 hi hz0 hz1 hz2 rfl (by decide) v n xs h ⟨b, 0, none⟩ m c news hl (fun j u hj => by
    rw [add_plain, Nat.zero_add, cell_of_row w b j _ 66 (0, 0) hb]
    simpa using hj) h1 (by unfold maxLen; omega) (by omega) (Nat.zero_le _)
  exact ⟨v', w', h1, h2, h3, h5⟩
theorem run_bs99 (n : Nat) (fn : Fn) (xs ys : Array Value) (w : World) : (Instr.buildSlice 149 1 #[(0, cdV n (.func fn xs ys))]).run Tryz.prog w = .ok (.slice (some ⟨w.heap.size, 0, none⟩) 1 1) (w.alloc (.cells (cdA n (.func fn xs ys)) 66)) := by kernel_rfl
theorem run_ldV (t : TypeId) {ev : Operand → Value} {dst : Option Nat} {ty : TypeId} {pos : String} {after : Array Edge} {gd : Option (Nat × Bool)} {x : Operand} {ad : Addr} {v : Value} {w : World} (hx : ev x = .pointer (some ad)) (hl : (loadVar t ad).run Tryz.prog w = .ok v w) : (execOp ev ⟨dst, .load t x, ty, pos, after, gd⟩).run Tryz.prog w = .ok (.value v) w := by
  unfold execOp
  simp only [hx, Instr.loadAt, Instr.sureAddr, Sem.run_bind, Sem.run_pure, Result.andThen_ok, hl]
section
variable {S : Nat → Prop} {w0 w w' : World} {L : List Ent} {ops : Array Oper} {rest : List Oper} {o : Oper} {a : Act} {Q : Exit → Act → World → Prop} {K : Act → World → Prop} {E : Prop} {dst : Option Nat} {x y : Operand} {ty ty2 : TypeId} {pos pos2 : String} {after after2 : Array Edge}
theorem wp_bs99 {n : Nat} {f : Value} (ho : o.op = .buildSlice 149 1 #[(0, x)]) (hx : a.eval x = cdV n f) (hf : f.oneCell' = true) (h : K (a.put o.dst (.slice (some ⟨w.heap.size, 0, none⟩) 1 1)) (w.alloc (.cells (cdA n f) 66))) : o.wp Tryz.prog a w K Q := by
  have e : (Instr.buildSlice 149 1 #[(0, cdV n f)]).run Tryz.prog w = .ok (.slice (some ⟨w.heap.size, 0, none⟩) 1 1) (w.alloc (.cells (cdA n f) 66)) := by
    cases f <;> first | kernel_rfl | cases hf
  unfold Oper.wp execOp
  simp only [ho, List.map_toArray, List.map_cons, List.map_nil, hx, Sem.run_bind, e, Result.andThen_ok, Sem.run_pure]
  exact h
theorem at_bs99 {ps : Array (Nat × Operand)} {n : Nat} (h : wpList Tryz.prog ops Q (⟨dst, .buildSlice 149 n ps, ty, pos, after, none⟩ :: rest) a w) : wpList Tryz.prog ops Q (⟨dst, .buildSlice 149 n ps, ty, pos, after, none⟩ :: rest) a w := h
theorem wl_bs99 {n : Nat} {fn : Fn} {xs ys : Array Value} (hx : a.eval x = cdV n (.func fn xs ys)) (k : ∀ g w', g = w.heap.size → w' = w.alloc (.cells (cdA n (.func fn xs ys)) 66) → wpList Tryz.prog ops Q rest (a.put dst (.slice (some ⟨g, 0, none⟩) 1 1)) w') : wpList Tryz.prog ops Q (⟨dst, .buildSlice 149 1 #[(0, x)], ty, pos, after, none⟩ :: rest) a w := by
  refine wl_val (w' := w.alloc (.cells (cdA n (.func fn xs ys)) 66)) ?_ (k _ _ rfl rfl)
  unfold execOp
  simp only [List.map_toArray, List.map_cons, List.map_nil, hx, Sem.run_bind, run_bs99, Result.andThen_ok, Sem.run_pure]
theorem at_app99 (h : wpList Tryz.prog ops Q (⟨dst, .call { callee := .builtin .append, args := #[x, y], argTypes := #[149, 149] }, ty, pos, after, none⟩ :: rest) a w) : wpList Tryz.prog ops Q (⟨dst, .call { callee := .builtin .append, args := #[x, y], argTypes := #[149, 149] }, ty, pos, after, none⟩ :: rest) a w := h
theorem wl_app99 {v1 v2 u : Value} (hx : a.eval x = v1) (hy : a.eval y = v2) (hr : (Builtin.append_ #[149, 149] ty #[v1, v2]).run Tryz.prog w = .ok u w') (h : wpList Tryz.prog ops Q rest (a.put dst u) w') : wpList Tryz.prog ops Q (⟨dst, .call { callee := .builtin .append, args := #[x, y], argTypes := #[149, 149] }, ty, pos, after, none⟩ :: rest) a w := by
  refine wl_val ?_ h
  simp [execOp, resolve, invoke, builtin, hx, hy, hr, Result.andThen]
theorem step_app99 (hgd : o.guard = none) (s x : Operand) (ho : o.op = .call { callee := .builtin .append, args := #[s, x], argTypes := #[149, 149] }) (v1 v2 v' : Value) (w' : World) (hs : a.eval s = v1) (hx : a.eval x = v2)
    (hr : (Builtin.append_ #[149, 149] o.type #[v1, v2]).run Tryz.prog w = .ok v' w') (h : K (a.put o.dst v') w') :
    if Region.wanted o (yielded ops a.tmps) = true then Oper.wp Tryz.prog o a w K Q else E := by
  have hw : Region.wanted o (yielded ops a.tmps) = true := by simp [Region.wanted, hgd]
  rw [if_pos hw]
  unfold Oper.wp
  simp [execOp, ho, resolve, invoke, builtin, hs, hx, hr, Result.andThen]
  exact h
end
theorem Cs.rep {b : Nat} {R : Nat → Prop} {w : World} {z : Nat} {f : Value} {c : Cd} (h : CdOk b R w z f c) : ∀ n, Cs b R w (List.replicate n c) (rp2 (.int .i64 (z : Int)) f n)
  | 0 => rfl
  | n + 1 => ⟨z, f, _, rfl, h, Cs.rep h n⟩
/-- The parts of what is repeated. -/
def PartsP (b : Nat) (R : Nat → Prop) (w : World) (cs : List Cd) (e : Ending) (w' : World) : Prop := ∃ v, e = .returned v ∧ CsV b R w' v cs ∧ Below w.heap.size w w'
/-- What is so behind the last append. -/
theorem parts_end {b : Nat} {R : Nat → Prop} {w w3 w5 w6 : World} {z z1 g2 : Nat} {f f1 : Value} {c d : Cd} {mn k : Nat} {v6 : Value} (hR : ∀ k, R k → k < w.heap.size) (hc : CdOk b R w z f c) (hg2 : w.heap.size ≤ g2) (C1 : CdOk (b + 1) (fun j => R j ∨ j = g2) w3 z1 f1 d) (B03 : Below w.heap.size w w3) (B35 : Below w3.heap.size w3 w5) (B56 : But (fun j => j = g2) w5 w6)
    (O6 : w6.ownsRow 0 66 2 v6 (mn + k) (rp2 (.int .i64 (z : Int)) f mn ++ rp2 (.int .i64 (z1 : Int)) f1 k)) (N6 : v6.ownBlock = some g2 ∨ v6.ownBlock = some w5.heap.size) : PartsP (b + 1) R w (List.replicate mn c ++ List.replicate k d) (.returned v6) w6 := by
  have B05 : Below w.heap.size w w5 := B03.trans (B35.mono B03.size)
  have B06 : Below w.heap.size w w6 := B05.trans (B56.below B05.size (fun j h => by omega))
  refine ⟨v6, rfl, ⟨_, by simpa using O6, fun j hj hr => ?_, Cs.append (Cs.rep ((hc.below B06).weak (by omega)) mn) (Cs.rep (C1.mono (((Kp.refl _ _).below B35).but B56 (fun i h => .inl (.inr h))) (fun j h => .inl (.inl h))) k)⟩, B06⟩
  have := hR j hr
  have := B05.size
  rcases N6 with h | h
  · rw [h] at hj; cases hj; omega
  · rw [h] at hj; cases hj; omega
theorem St.ro3 {w : World} {g1 g2 g3 : Nat} {t1 t2 t3 : TypeId} {xs ys zs : Array Value} (h1 : w.heap[g1]? = some (.cells xs t1 (0, 0))) (h2 : w.heap[g2]? = some (.cells ys t2 (0, 0))) (h3 : w.heap[g3]? = some (.cells zs t3 (0, 0))) (n12 : g1 ≠ g2) (n13 : g1 ≠ g3) (n23 : g2 ≠ g3) : St Nope w w [(false, g1, t1, xs), (false, g2, t2, ys), (false, g3, t3, zs)] :=
  (St.ro2 h2 h3 n23).ro h1 (fun x h => by
    simp only [List.mem_cons, List.not_mem_nil, or_false] at h
    rcases h with rfl | rfl
    · exact fun e => n12 e.symm
    · exact fun e => n13 e.symm)
set_option maxHeartbeats 2000000 in
set_option maxRecDepth 100000 in
theorem parts_any (R : Nat → Prop) (gc gf gt : Nat) (z : Nat) (f : Value) (c : Cd) (mn : Nat) (mx : Int) (nx : Nat) (b : Nat) (hb0 : b ≤ 1500000) (w : World) (hmn : mn ≤ 64) (hmx : mx = -1 ∨ (mn : Int) ≤ mx ∧ mx ≤ 64) (h1 : w.heap[gc]? = some (.cells (cdA z f) 66 (0, 0))) (h2 : w.heap[gf]? = some (.cells #[.int .i64 (mn : Int)] 3 (0, 0))) (h3 : w.heap[gt]? = some (.cells #[.int .i64 mx] 3 (0, 0))) (n12 : gc ≠ gf) (n13 : gc ≠ gt) (n23 : gf ≠ gt) (hc : CdOk b R w z f c) (hR : ∀ k, R k → k < w.heap.size) :
    Calls Tryz.prog 124 #[.int .i64 (nx : Int), .pointer (some ⟨gc, 0, none⟩), .pointer (some ⟨gf, 0, none⟩), .pointer (some ⟨gt, 0, none⟩)] w (PartsP (b + 1) R w (rpL c mn mx nx)) := by
  have H := St.ro3 h1 h2 h3 n12 n13 n23
  obtain ⟨nf, caps, hfe, _⟩ := hc.put
  subst hfe
  generalize hfd : Value.func (.func nf) #[] caps = f at *
  have RP := hide (repeat_any (w.alloc (.cells (cdA z f) 66)) w.heap.size z f mn (by omega) (by rw [← hfd]; rfl) (heap_alloc_new w _))
  replace hc := hide hc
  have l1 := H.lti 0 rfl
  have l2 := H.lti 1 rfl
  have l3 := H.lti 2 rfl
  replace h1 := hide h1
  replace h2 := hide h2
  replace h3 := hide h3
  have B01 : Below w.heap.size w (w.alloc (.cells (cdA z f) 66)) := (Below.refl _ w).alloc (Nat.le_refl _) _
  generalize hres : rpL c mn mx nx = res
  replace hres := hide hres
  go_enter Tryz.func124, Tryz.ntmps124
  go_wp2_with (first | ((with_reducible refine at_load 66 ?_); refine wl_loadC 0 H rfl rfl ?_) | ((with_reducible refine at_load 3 ?_); refine wl_loadA 3 rfl (ld3 ((B01.cell (p := ⟨gf, 0, none⟩) l2).trans (H.cell 1 0 rfl (v := .int .i64 (mn : Int)) rfl))) ?_) | ((with_reducible refine at_bs99 ?_); refine wl_bs99 (n := z) (fn := .func nf) (xs := #[]) (ys := caps) (by rw [hfd]; rfl) ?_; intro g1 w1 hg1 hw1; subst hg1; rw [hfd] at hw1; subst hw1))
  refine RP.out.mono ?_
  rintro e w2 ⟨g2, rfl, hg2, hrow, B2⟩
  have hg2' : w.heap.size ≤ g2 := by have := B01.size; omega
  have B02 := B01.trans (B2.mono B01.size)
  have hg2l := (Array.getElem?_eq_some_iff.1 hrow).1
  have hrow2 := hide (owns_rp2 (by omega) hrow)
  have H2 := hide (H.call B02 (Nat.le_refl _))
  clear H
  have Cw2 : CdOk b (fun j => R j ∨ j = g2) w2 z f c := hc.out.mono ((Kp.refl _ _).below B02) (fun k h => by rcases h with h | h; exact .inl h; right; omega)
  have hR2 : ∀ k, (R k ∨ k = g2) → k < w2.heap.size := fun k h => by rcases h with h | h; have := hR k h; have := B02.size; omega; omega
  clear hrow
  replace B2 := hide B2
  replace B01 := hide B01
  rcases hmx with rfl | hmx
  · have LP := hide (loop_any _ z f c w2 b (by omega) Cw2 hR2)
    replace H2 := H2.out
    go_wp2_with (first | ((with_reducible refine at_load 66 ?_); refine wl_loadC 0 H2 rfl rfl ?_) | ((with_reducible refine at_load 3 ?_); refine wl_ld3 2 0 H2 (v := .int .i64 (-1)) rfl rfl rfl ?_))
    refine LP.out.mono ?_
    rintro e w3 ⟨z1, f1, rfl, C1, B3⟩
    obtain ⟨nf1, caps1, hfe1, _⟩ := C1.put
    subst hfe1
    have B23 := B3
    have B03 := B02.trans (B3.mono B02.size)
    have B34 : Below w3.heap.size w3 (w3.alloc (.cells (cdA z1 (.func (.func nf1) #[] caps1)) 66)) := (Below.refl _ w3).alloc (Nat.le_refl _) _
    have B24 := B23.trans (B34.mono B23.size)
    obtain ⟨v6, w6, R6, O6, G6, N6⟩ := run_appC (w3.alloc (.cells (cdA z1 (.func (.func nf1) #[] caps1)) 66)) 149 (.slice (some ⟨g2, 0, none⟩) mn mn) mn _ (owns_of_block hrow2.out (fun k hk => B24.block k (by cases hk; exact hg2l))) w3.heap.size 1 1 (rp2 (.int .i64 (z1 : Int)) (.func (.func nf1) #[] caps1) 1) (heap_alloc_new w3 _) (rp2_len _ _ _) (rp2_one rfl _) (by omega)
    have B56 : But (fun k => k = g2) (w3.alloc (.cells (cdA z1 (.func (.func nf1) #[] caps1)) 66)) w6 := (But.refl _ _).grown G6 (fun k e _ => by cases e; rfl)
    have fin : Hid (PartsP (b + 1) R w res (.returned v6) w6) := by
      rw [← hres.out]
      have := parts_end (k := 1) hR hc.out hg2' C1 B03 B34 B56 O6 N6
      unfold rpL
      rw [if_pos rfl]
      exact this
    replace C1 := hide C1
    replace R6 := hide R6
    clear O6 G6 N6 B56 B24 B34 B23 H2
    go_wp2_with (first | ((with_reducible refine at_bs99 ?_); refine wl_bs99 (n := z1) (fn := .func nf1) (xs := #[]) (ys := caps1) rfl ?_; intro g4 w4 hg4 hw4; subst hg4; subst hw4) | ((with_reducible refine at_app99 ?_); refine wl_app99 rfl rfl R6.out ?_))
    go_ret
    exact fin.out
  · have hneg : (mx == -1) = false := beq_eq_false_iff_ne.2 (by omega)
    have OP := hide (option_any _ z f c nx w2.drew b (by omega) (Cw2.mono ((Kp.refl _ _).below ((Below.refl _ w2).drew)) (fun k h => .inl h)) hR2)
    have esub : IntKind.i64.wrap (mx - (mn : Int)) = ((mx.toNat - mn : Nat) : Int) := by rw [IntKind.wrap_i64]; omega
    have BD : Below w2.heap.size w2 w2.drew := (Below.refl _ w2).drew
    have hS : Hid (∀ w', Below w2.heap.size w2 w' → ((loadVar 66 ⟨gc, 0, none⟩).run Tryz.prog w' = .ok (cdV z f) w' ∧ w'.cell? ⟨gf, 0, none⟩ = some (.int .i64 (mn : Int)) ∧ w'.cell? ⟨gt, 0, none⟩ = some (.int .i64 mx))) := fun w' hb => by
      have H3 := H2.out.call hb (Nat.le_refl _)
      exact ⟨loadC (H3.get 0 rfl), H3.cell 1 0 rfl rfl, H3.cell 2 0 rfl rfl⟩
    have hS6 : Hid (∀ w5 w6, Below w2.heap.size w2 w5 → But (fun k => k = g2) w5 w6 → ((loadVar 66 ⟨gc, 0, none⟩).run Tryz.prog w6 = .ok (cdV z f) w6 ∧ w6.cell? ⟨gf, 0, none⟩ = some (.int .i64 (mn : Int)) ∧ w6.cell? ⟨gt, 0, none⟩ = some (.int .i64 mx))) := fun w5 w6 hb hbut => by
      have H3 := (H2.out.call hb (Nat.le_refl _)).sub (M := [(false, gc, 66, cdA z f), (false, gf, 3, #[.int .i64 (mn : Int)]), (false, gt, 3, #[.int .i64 mx])]) (List.Sublist.refl _)
      have e : ∀ k, k < w.heap.size → w6.heap[k]? = w5.heap[k]? := fun k hk => hbut.block k (by have := B02.size; have := hb.size; omega) (by omega)
      exact ⟨loadC ((e gc l1).trans (H3.get 0 rfl)), (World.cell?_of_block (a := ⟨gf, 0, none⟩) (e gf l2)).trans (H3.cell 1 0 rfl rfl), (World.cell?_of_block (a := ⟨gt, 0, none⟩) (e gt l3)).trans (H3.cell 2 0 rfl rfl)⟩
    have hmxH := hide hmx
    have hd3 : Hid (mx.toNat - mn ≤ 64) := by show _ ≤ _; omega
    have c3 := (H2.out.cell 2 0 rfl (v := .int .i64 mx) rfl)
    go_wp2_with (first | ((with_reducible refine at_load 3 ?_); refine wl_loadA 3 rfl (ld3 c3) ?_))
    refine wp_region_noPanic ?_
    refine wp_region_held_drew (S := (fun w' => (loadVar 66 ⟨gc, 0, none⟩).run Tryz.prog w' = .ok (cdV z f) w' ∧ w'.cell? ⟨gf, 0, none⟩ = some (.int .i64 (mn : Int)) ∧ w'.cell? ⟨gt, 0, none⟩ = some (.int .i64 mx))) (by kernel_rfl) (hS.out _ BD) (fun hH0 => ?_)
    refine wpAnyH_take (i := 0) (oi := { dst := some 18, op := Op.move (Operand.tmp 6), type := 149, pos := "code.go:108", after := #[], guard := none }) (v := ?_) rfl (by kernel_rfl) (by kernel_rfl) (by kernel_rfl) (fun _ _ _ h => h) (Or.inl ⟨by rfl, ?_⟩) hH0 ?_
    rotate_left
    · intro w' hw'
      obtain ⟨s1, s2, s3⟩ := hw'
      go_simp
      try with_reducible rfl
    try simp only [Act.put, List.setIfInBounds_toArray, List.set_cons_zero, List.set_cons_succ]
    refine wpAnyH_take (i := 1) (oi := { dst := some 19, op := Op.load 66 (Operand.tmp 1), type := 66, pos := "code.go:108", after := #[], guard := none }) (v := cdV z f) rfl (by kernel_rfl) (by kernel_rfl) (by kernel_rfl) (fun _ _ _ h => h) (Or.inl ⟨by rfl, fun w' hw' => run_ldV 66 rfl hw'.1⟩) hH0 ?_
    try simp only [Act.put, List.setIfInBounds_toArray, List.set_cons_zero, List.set_cons_succ]
    refine wpAnyH_take (i := 2) (oi := { dst := some 20, op := Op.move (Operand.tmp 0), type := 3, pos := "code.go:108", after := #[], guard := none }) (v := ?_) rfl (by kernel_rfl) (by kernel_rfl) (by kernel_rfl) (fun _ _ _ h => h) (Or.inl ⟨by rfl, ?_⟩) hH0 ?_
    rotate_left
    · intro w' hw'
      obtain ⟨s1, s2, s3⟩ := hw'
      go_simp
      try with_reducible rfl
    try simp only [Act.put, List.setIfInBounds_toArray, List.set_cons_zero, List.set_cons_succ]
    refine wpAnyH_take (i := 5) (oi := { dst := some 23, op := Op.load 3 (Operand.tmp 3), type := 3, pos := "code.go:108", after := #[], guard := none }) (v := ?_) rfl (by kernel_rfl) (by kernel_rfl) (by kernel_rfl) (fun _ _ _ h => h) (Or.inl ⟨by rfl, ?_⟩) hH0 ?_
    rotate_left
    · intro w' hw'
      obtain ⟨s1, s2, s3⟩ := hw'
      go_simp
      try with_reducible rfl
    try simp only [Act.put, List.setIfInBounds_toArray, List.set_cons_zero, List.set_cons_succ]
    refine wpAnyH_take (i := 6) (oi := { dst := some 24, op := Op.load 3 (Operand.tmp 2), type := 3, pos := "code.go:108", after := #[], guard := none }) (v := ?_) rfl (by kernel_rfl) (by kernel_rfl) (by kernel_rfl) (fun _ _ _ h => h) (Or.inl ⟨by rfl, ?_⟩) hH0 ?_
    rotate_left
    · intro w' hw'
      obtain ⟨s1, s2, s3⟩ := hw'
      go_simp
      try with_reducible rfl
    try simp only [Act.put, List.setIfInBounds_toArray, List.set_cons_zero, List.set_cons_succ]
    refine wpAnyH_take (i := 7) (oi := { dst := some 25, op := Op.binOp BinOp.sub 3 (Operand.tmp 23) (Operand.tmp 24) 3, type := 3, pos := "code.go:108", after := #[{ on := 5, ground := Ground.data }, { on := 6, ground := Ground.data }], guard := none }) (v := ?_) rfl (by kernel_rfl) (by kernel_rfl) (by kernel_rfl) (fun _ _ _ h => h) (Or.inl ⟨by rfl, ?_⟩) hH0 ?_
    rotate_left
    · intro w' hw'
      obtain ⟨s1, s2, s3⟩ := hw'
      go_simp
      try with_reducible rfl
    try simp only [Act.put, List.setIfInBounds_toArray, List.set_cons_zero, List.set_cons_succ]
    refine wpAnyH_ready (rs := [3]) (by kernel_rfl) (by simp) ?_
    refine AllReadyH.cons (o := { dst := some 21, op := Op.call { callee := Callee.value (Operand.func 127), args := #[Operand.tmp 19, Operand.tmp 20], argTypes := #[66, 3] }, type := 66, pos := "code.go:108", after := #[{ on := 1, ground := Ground.data }, { on := 2, ground := Ground.data }], guard := none }) rfl (fun K hK => ?_) AllReadyH.nil
    refine step_clo2 (caps := #[]) (u1 := cdV z f) (u2 := .int .i64 (nx : Int)) rfl rfl rfl rfl clo80 ?_
    rw [Array.append_empty]
    refine OP.out.mono ?_
    rintro e w3 ⟨z1, f1, rfl, C1, B3⟩
    have hf1 := C1.put.one
    have B23 := BD.trans (B3.mono BD.size)
    have BA := B23.trans ((((Below.refl _ w3).alloc (Nat.le_refl _) (.cells (cdA z1 f1) 66))).mono B23.size)
    have RP := hide (repeat_any (w3.alloc (.cells (cdA z1 f1) 66)) w3.heap.size z1 f1 (mx.toNat - mn) (by omega) hf1 (heap_alloc_new w3 _))
    refine ⟨_, rfl, ?_⟩
    refine hK.out _ _ (hS.out _ B23) (fun hH1 => ?_)
    clear hK
    try simp only [Act.put, List.setIfInBounds_toArray, List.set_cons_zero, List.set_cons_succ]
    refine wpAnyH_ready (rs := [4]) (by kernel_rfl) (by simp) ?_
    refine AllReadyH.cons (o := { dst := some 22, op := Op.buildSlice 149 1 #[(0, Operand.tmp 21)], type := 149, pos := "code.go:108", after := #[{ on := 3, ground := Ground.data }], guard := none }) rfl (fun K hK => ?_) AllReadyH.nil
    rw [if_pos (by rfl)]
    refine wp_bs99 rfl rfl hf1 ?_
    refine hK.out _ _ (hS.out _ BA) (fun hH2 => ?_)
    clear hK
    try simp only [Act.put, List.setIfInBounds_toArray, List.set_cons_zero, List.set_cons_succ]
    refine wpAnyH_ready (rs := [8]) (by kernel_rfl) (by simp) ?_
    refine AllReadyH.cons (o := { dst := some 26, op := Op.call { callee := Callee.value (Operand.func 125), args := #[Operand.tmp 22, Operand.tmp 25], argTypes := #[149, 3] }, type := 149, pos := "code.go:108", after := #[{ on := 4, ground := Ground.data }, { on := 7, ground := Ground.data }, { on := 3, ground := Ground.chain }], guard := none }) rfl (fun K hK => ?_) AllReadyH.nil
    refine step_clo2 (caps := #[]) (u1 := .slice (some ⟨w3.heap.size, 0, none⟩) 1 1) (u2 := .int .i64 ((mx.toNat - mn : Nat) : Int)) rfl rfl rfl rfl clo78 ?_
    rw [Array.append_empty]
    refine RP.out.mono ?_
    rintro e w5 ⟨g5, rfl, hg5, hrow5, B5⟩
    have B25 := BA.trans (B5.mono BA.size)
    have hs2 := BA.size
    obtain ⟨v6, w6, R6, O6, G6, N6⟩ := run_appC w5 149 (.slice (some ⟨g2, 0, none⟩) mn mn) mn _ (owns_of_block hrow2.out (fun k hk => B25.block k (by cases hk; exact hg2l))) g5 (mx.toNat - mn) (mx.toNat - mn) (rp2 (.int .i64 (z1 : Int)) f1 (mx.toNat - mn)) hrow5 (rp2_len _ _ _) (rp2_one hf1 _) (by omega)
    have B56 : But (fun k => k = g2) w5 w6 := (But.refl _ w5).grown G6 (fun k e _ => by cases e; rfl)
    refine ⟨_, rfl, ?_⟩
    refine hK.out _ _ (hS.out _ B25) (fun hH3 => ?_)
    clear hK
    try simp only [Act.put, List.setIfInBounds_toArray, List.set_cons_zero, List.set_cons_succ]
    refine wpAnyH_ready (rs := [9]) (by kernel_rfl) (by simp) ?_
    refine AllReadyH.cons (o := { dst := some 27, op := Op.call { callee := Callee.builtin Builtin.append, args := #[Operand.tmp 18, Operand.tmp 26], argTypes := #[149, 149] }, type := 149, pos := "code.go:108", after := #[{ on := 0, ground := Ground.data }, { on := 8, ground := Ground.data }, { on := 8, ground := Ground.chain }], guard := none }) rfl (fun K hK => ?_) AllReadyH.nil
    refine step_app99 rfl (.tmp 18) (.tmp 26) rfl _ _ _ _ rfl rfl R6 ?_
    refine hK.out _ _ (hS6.out _ _ B25 B56) (fun hH4 => ?_)
    clear hK
    try simp only [Act.put, List.setIfInBounds_toArray, List.set_cons_zero, List.set_cons_succ]
    refine wpAnyH_take (i := 10) (oi := { dst := some 5, op := Op.assign (Operand.tmp 27), type := 149, pos := "code.go:108", after := #[{ on := 9, ground := Ground.data }, { on := 9, ground := Ground.chain }, { on := 0, ground := Ground.phase }, { on := 1, ground := Ground.phase }, { on := 2, ground := Ground.phase }, { on := 3, ground := Ground.phase }, { on := 4, ground := Ground.phase }, { on := 5, ground := Ground.phase }, { on := 6, ground := Ground.phase }, { on := 7, ground := Ground.phase }, { on := 8, ground := Ground.phase }, { on := 9, ground := Ground.phase }], guard := none }) (v := ?_) rfl (by kernel_rfl) (by kernel_rfl) (by kernel_rfl) (fun _ _ _ h => h) (Or.inl ⟨by rfl, ?_⟩) hH4 ?_
    rotate_left
    · intro w' hw'
      obtain ⟨s1, s2, s3⟩ := hw'
      go_simp
      try with_reducible rfl
    try simp only [Act.put, List.setIfInBounds_toArray, List.set_cons_zero, List.set_cons_succ]
    refine wpAnyH_done (by kernel_rfl) ?_ _
    refine NoPanic.normal ?_
    go_wp2_with fail
    go_ret
    rw [← hres.out]
    have := parts_end (k := mx.toNat - mn) hR hc.out hg2' C1 (B02.trans (B23.mono B02.size)) (((Below.refl _ w3).alloc (Nat.le_refl _) (.cells (cdA z1 f1) 66)).trans (B5.mono (by simp))) B56 O6 N6
    unfold rpL
    rw [if_neg (by omega)]
    exact this
end Go.Proofs.YtkfdikpnnkbgaaaGreatDoor
