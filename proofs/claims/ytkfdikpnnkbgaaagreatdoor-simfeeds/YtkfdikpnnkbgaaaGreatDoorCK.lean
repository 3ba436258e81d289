/-
  codeOf.
-/
import Derived.Test.YtkfdikpnnkbgaaaGreatDoorCJ
import Derived.Test.YtkfdikpnnkbgaaaGreatDoorX
namespace Go.Proofs.YtkfdikpnnkbgaaaGreatDoor
open Go.RowKit
set_option linter.unusedVariables false
set_option linter.unusedSimpArgs false

theorem clo38 : Clo 61 := fun args w => by kernel_rfl
theorem clo62 : Clo 93 := fun args w => by kernel_rfl
theorem cds_nth : ∀ (f : Fo) (k : Nat), k < f.len → f.cds[k]? = some (cdT (f.nth k))
  | .nil, k, h => by simp [Fo.len] at h
  | .cons n kk r, 0, _ => rfl
  | .cons n kk r, k + 1, h => by
    have := cds_nth r k (by simpa [Fo.len] using h)
    simpa [Fo.cds, Fo.nth] using this
theorem fit_nth : ∀ (f : Fo) (k : Nat), k < f.len → f.fit → fitT (f.nth k)
  | .nil, k, h, _ => by simp [Fo.len] at h
  | .cons n kk r, 0, _, h => ⟨h.1, h.2.1⟩
  | .cons n kk r, k + 1, h, hf => fit_nth r k (by simpa [Fo.len] using h) hf.2.2
theorem sz_nth (f : Fo) (k : Nat) (h : k < f.len) : szT (f.nth k) ≤ f.sz := by
  have h1 := szTo_le f (k + 1) (by omega)
  have h2 : f.szTo (k + 1) = f.szTo k + szT (f.nth k) := rfl
  omega
theorem load25r {w : World} {g : Nat} {k : Int} {s : S4} {v : Value} {mn mx : Int} (h : w.heap[g]? = some (.cells (reA k s v mn mx) 27 (0, 0))) : (loadVar 24 ⟨g, 1, none⟩).run Tryz.prog w = .ok (setV s) w := by
  refine load25c (fun q hq => ?_)
  rw [cell_of_row w g (1 + q) _ 27 (0, 0) h]
  rcases (show q = 0 ∨ q = 1 ∨ q = 2 ∨ q = 3 by omega) with rfl | rfl | rfl | rfl <;> rfl
theorem store54 {w : World} {g z z' : Nat} {f f' : Value} (h : w.heap[g]? = some (.cells (cdA z f) 66 (0, 0))) (hf : f'.oneCell' = true) : (storeVar 66 ⟨g, 0, none⟩ (cdV z' f')).run Tryz.prog w = .ok () (w.setRow g (cdA z' f')) :=
  run_storeVar_row w g 66 66 _ _ h sizeC rfl (by have h1 : ∀ k n, (Value.int k n).oneCell' = true := fun _ _ => rfl; simp [cdA, hf, h1])
theorem run_storeC_at (w : World) (g o z : Nat) (f : Value) (cur : Array Value) (hg : w.heap[g]? = some (.cells cur 66 (0, 0))) (hf : f.oneCell' = true) (hfit : o + 2 ≤ cur.size) : (storeVar 66 ⟨g, o, none⟩ (cdV z f)).run Tryz.prog w = .ok () (w.setRow g (cur.toList.take o ++ [.int .i64 (z : Int), f] ++ cur.toList.drop (o + 2)).toArray) := by
  have hst := run_storeCells_at Tryz.prog g o 66 [.int .i64 (z : Int), f] 0 cur w hg (by simpa using hfit) (fun v hv => by
    simp only [List.mem_cons, List.not_mem_nil, or_false] at hv
    rcases hv with rfl | rfl
    · rfl
    · exact hf)
  have hz : ∀ w, (sizeOf 66).run Tryz.prog w = .ok 2 w := fun w => by kernel_rfl
  have hcs : (cdV z f).cells = #[.int .i64 (z : Int), f] := rfl
  unfold storeVar
  simp only [Sem.run_bind, hz, Result.andThen_ok, hcs]
  simpa using hst
section
variable {S : Nat → Prop} {w0 w w' : World} {L : List Ent} {ops : Array Oper} {rest : List Oper} {o : Oper} {a : Act} {Q : Exit → Act → World → Prop} {K : Act → World → Prop} {E : Prop} {dst : Option Nat} {x y : Operand} {ty ty2 : TypeId} {pos pos2 : String} {after after2 : Array Edge}
theorem wp_storeT (t : TypeId) (ho : o.op = .store t x y) {ad : Addr} {v : Value} (hx : a.eval x = .pointer (some ad)) (hy : a.eval y = v) (hst : (storeVar t ad v).run Tryz.prog w = .ok () w') (h : K (a.put o.dst undef) w') : o.wp Tryz.prog a w K Q := by
  unfold Oper.wp execOp
  simp only [ho, hx, hy, Instr.storeAt, Instr.sureAddr, Sem.run_bind, Sem.run_pure, Result.andThen_ok, hst]
  exact h
theorem wl_storeT (t : TypeId) {ad : Addr} {v : Value} (hx : a.eval x = .pointer (some ad)) (hy : a.eval y = v) (hst : (storeVar t ad v).run Tryz.prog w = .ok () w') (h : wpList Tryz.prog ops Q rest a w') : wpList Tryz.prog ops Q (⟨none, .store t x y, ty, pos, after, none⟩ :: rest) a w := by
  refine wpList_plain rfl fun K hK => ?_
  exact wp_storeT t rfl hx hy hst (hK _ _ h)
theorem step_clo1 {p : Operand} {ts : Array TypeId} {k : Nat} {caps : Array Value} {u1 : Value} (ho : o = ⟨dst, .call { callee := .value x, args := #[p], argTypes := ts }, ty, pos, after, none⟩) (hx : a.eval x = .func (.func k) #[] caps) (hp : a.eval p = u1) (hc : Clo k)
    (h : Calls Tryz.prog k (#[u1] ++ caps) w fun e w' => ∃ u, e = .returned u ∧ K (a.put dst u) w') : if Region.wanted o (yielded ops a.tmps) = true then Oper.wp Tryz.prog o a w K Q else E := step_clo ho hx (by simp [hp]) hc h
theorem step_clo3 {p q r : Operand} {ts : Array TypeId} {k : Nat} {caps : Array Value} {u1 u2 u3 : Value} (ho : o = ⟨dst, .call { callee := .value x, args := #[p, q, r], argTypes := ts }, ty, pos, after, none⟩) (hx : a.eval x = .func (.func k) #[] caps) (hp : a.eval p = u1) (hq : a.eval q = u2) (hr : a.eval r = u3) (hc : Clo k)
    (h : Calls Tryz.prog k (#[u1, u2, u3] ++ caps) w fun e w' => ∃ u, e = .returned u ∧ K (a.put dst u) w') : if Region.wanted o (yielded ops a.tmps) = true then Oper.wp Tryz.prog o a w K Q else E := step_clo ho hx (by simp [hp, hq, hr]) hc h
end
/-- Codes in a row that is being filled. -/
def CiR (R : Nat → Prop) (gl n : Nat) (cs : List Cd) (k : Nat) (W : World) : Prop := ∃ xs, W.heap[gl]? = some (.cells (xs ++ rp2 (.int .i64 0) .nilFunc (n - k)).toArray 66 (0, 0)) ∧ Cs cap R W (cs.take k) xs ∧ xs.length = k * 2
theorem CiR.start {R : Nat → Prop} {gl n : Nat} {cs : List Cd} {W : World} (h : W.heap[gl]? = some (.cells (rp2 (.int .i64 0) .nilFunc n).toArray 66 (0, 0))) : CiR R gl n cs 0 W := ⟨[], by simpa using h, rfl, rfl⟩
theorem CiR.below {R : Nat → Prop} {gl n : Nat} {cs : List Cd} {k : Nat} {W W' : World} (h : CiR R gl n cs k W) (hb : Below W.heap.size W W') : CiR R gl n cs k W' := by
  obtain ⟨xs, h1, h2, h3⟩ := h
  exact ⟨xs, (hb.block gl (Array.getElem?_eq_some_iff.1 h1).1).trans h1, h2.mono ((Kp.refl _ _).below hb) (fun _ h => .inl h), h3⟩
theorem CiR.put {R : Nat → Prop} {gl n : Nat} {cs : List Cd} {k : Nat} {W : World} {z : Nat} {f : Value} {c : Cd} (h : CiR R gl n cs k W) (hR : R gl) (hk : k < n) (hc : cs[k]? = some c) (C : CdOk cap R W z f c) : ∃ W', (storeVar 66 ⟨gl, k * 2, none⟩ (cdV z f)).run Tryz.prog W = .ok () W' ∧ CiR R gl n cs (k + 1) W' ∧ But (fun j => j = gl) W W' := by
  obtain ⟨xs, h1, h2, h3⟩ := h
  have e : rp2 (.int .i64 0) .nilFunc (n - k) = rp2 (.int .i64 0) .nilFunc 1 ++ rp2 (.int .i64 0) .nilFunc (n - (k + 1)) := by rw [← rp2_add]; congr 1; omega
  have hl := rp2_len (.int .i64 0) .nilFunc (n - k)
  have hb : But (fun j => j = gl) W (W.setRow gl ((xs ++ rp2 (.int .i64 0) .nilFunc (n - k)).toArray.toList.take (k * 2) ++ [.int .i64 (z : Int), f] ++ (xs ++ rp2 (.int .i64 0) .nilFunc (n - k)).toArray.toList.drop (k * 2 + 2)).toArray) := (But.refl (fun j => j = gl) W).setRow (fun _ => rfl) _
  refine ⟨_, run_storeC_at W gl (k * 2) z f _ h1 C.put.one (by simp; omega), ⟨xs ++ [.int .i64 (z : Int), f], ?_, ?_, by simp [h3]; omega⟩, hb⟩
  · rw [setRow_heap W gl _ _ 66 (0, 0) h1]
    congr 2
    simp only [List.toList_toArray]
    rw [List.take_append_of_le_length (by omega), List.take_of_length_le (by omega), List.drop_append, h3, e]
    rw [List.drop_eq_nil_of_le (by omega)]
    simp [rp2]
  · rw [take_snoc hc]
    exact Cs.append (h2.mono ((Kp.refl _ _).but hb (fun i h => by subst h; exact .inl hR)) (fun _ h => .inl h)) ⟨z, f, [], rfl, C.mono ((Kp.refl _ _).but hb (fun i h => by subst h; exact .inl hR)) (fun _ h => .inl h), rfl⟩
theorem CiR.done {R R' : Nat → Prop} {gl n : Nat} {cs : List Cd} {W : World} (h : CiR R gl n cs n W) (hn : cs.length = n) (hm : n ≤ 1000000) (hR : ∀ k, R' k → R k) (hgl : ¬ R' gl) : CsV cap R' W (.slice (some ⟨gl, 0, none⟩) n n) cs := by
  obtain ⟨xs, h1, h2, h3⟩ := h
  rw [List.take_of_length_le (by omega)] at h2
  refine ⟨xs, ⟨by rw [hn]; exact h3, .inr ⟨gl, n, _, by rw [hn], Nat.zero_le _, h1, by omega, by unfold maxLen; omega, by simp [h3, rp2], ?_⟩⟩, fun b hb => by cases hb; exact hgl, h2.mono (Kp.refl _ _) (fun k h => .inl (hR k h))⟩
  simp only [List.toList_toArray, Nat.sub_self, rp2, List.append_nil]
  exact List.take_of_length_le (by omega)
set_option maxHeartbeats 4000000 in
set_option maxRecDepth 100000 in
theorem codeOf_any : ∀ (N : Nat) (t : Tr), szT t ≤ N → ∀ (R P : Nat → Prop) (x : Value) (w : World), TrV w P x t → fitT t → szT t ≤ 5000 → (∀ k, R k → k < w.heap.size) → Calls Tryz.prog 61 #[x] w (CodeP cap R w (cdT t)) := by
  intro N
  induction N with
  | zero => intro t h; simp [szT] at h
  | succ N ih =>
  rintro ⟨nd, kids⟩ hN R P0 x w T hfit hsz hR
  obtain ⟨v, zs, rfl, ho, hp, hkd⟩ := T
  obtain ⟨va, vc, hv, hvc, hvm⟩ := owns8_val ho
  subst hv
  simp only at *
  unfold maxLen at hvm
  have hlen : kids.len ≤ 5000 := by have := len_le_sz kids; simp only [szT] at hsz; omega
  have hkidsz : kids.sz < N + 1 := by simp only [szT] at hN; omega
  have hkidsz2 : kids.sz ≤ 5000 := by simp only [szT] at hsz; omega
  have H := St.start Nope w
  have ihH := hide ih
  clear ih
  obtain ⟨kk, ks, kmn, kmx⟩ := nd
  simp only at *
  have hfitk := hfit.2
  obtain ⟨ft1, ft2, ft3, ft4⟩ := hfit.1
  simp only at ft1 ft2 ft3 ft4 hfitk
  clear hfit
  have child : Hid (∀ j, j < kids.len → ∃ b cx, va = some ⟨b, 0, none⟩ ∧ b < w.heap.size ∧ (∃ ca cn cc, cx = reV (kids.nth j).1.k (kids.nth j).1.s (.slice ca cn cc) (kids.nth j).1.mn (kids.nth j).1.mx) ∧ ∀ w', Below w.heap.size w w' → TrV w' P0 cx (kids.nth j) ∧ (loadVar 27 ⟨b, j * 8, none⟩).run Tryz.prog w' = .ok cx w') := fun j hj => by
    obtain ⟨cv, czs, hcells, cho, chp, chk⟩ := Kd.nth hkd j hj
    rcases ho.2 with ⟨h1, h2⟩ | ⟨b, cap', cur, hv, _, hgb, _⟩
    · omega
    · cases hv
      have hbl := (Array.getElem?_eq_some_iff.1 hgb).1
      obtain ⟨ca, cc, hcv, _, _⟩ := owns8_val cho
      refine ⟨b, _, rfl, hbl, ⟨ca, _, cc, by rw [hcv]⟩, fun w' hb => ⟨TrV.kept (w := w) ⟨cv, czs, rfl, cho, chp, chk⟩ (fun k _ hk => hb.block k hk), ?_⟩⟩
      refine load28c (fun i u hi => ?_)
      have := ho.cells (g := b) rfl _ _ (hcells i u hi)
      rw [add_plain, Nat.zero_add] at this
      exact (hb.cell (p := ⟨b, j * 8 + i, none⟩) hbl).trans this
  clear ho hkd hp
  rcases ft4 with ⟨rfl, hl0⟩ | rfl | rfl | rfl
  · have e : cdT (⟨1, ks, kmn, kmx⟩, kids) = sgl 1 ks := by simp [cdT, cdN]
    rw [e]
    go_enter Tryz.func61, Tryz.ntmps61
    go_wp2_with (first | ((with_reducible refine at_box 27 ?_); refine wl_box28 H rfl ?_; clear H; intro g1 w1 H q1 q2) | ((with_reducible refine at_alloc 66 ?_); refine wl_allocC H ?_; clear H; intro g2 w2 H q3 q4) | ((with_reducible refine at_load 3 ?_); refine wl_ld3 1 0 H (v := .int .i64 1) rfl rfl rfl ?_) | ((with_reducible refine at_load 24 ?_); refine wl_loadA 24 rfl (load25r (H.get 1 rfl)) ?_) | ((with_reducible refine at_build 102 ?_); refine wl_val (run_buildI2 _ 1 ks rfl rfl _) ?_))
    have hb := H.below
    have hlt := H.lti 0 rfl
    refine (single_any (fun k => R k ∨ k = g2) ⟨1, ks, 0, 0⟩ _ (fun k hk => by have := hb.size; rcases hk with hk | hk; have := hR k hk; omega; omega)).mono ?_
    rintro e w3 ⟨z, f, rfl, C, B3⟩
    obtain ⟨nf, caps, hf, _⟩ := C.put
    subst hf
    have BB := H.below.trans (B3.mono H.below.size)
    have H3 := (H.call B3 (Nat.le_refl _)).only
    clear H
    replace C := hide C
    go_wp2_with (first | ((with_reducible refine at_store 66 ?_); refine wl_storeC 0 (z' := z) (f' := .func (.func nf) #[] caps) H3 rfl rfl rfl rfl ?_; clear H3; intro w4 H3))
    refine bodyPost_ret (results_cell0 rfl _ _ _ _ rfl (loadC (H3.get 0 rfl))) rfl ?_
    exact CodeP.stored BB C.out H3.but q3
  · obtain ⟨hmn0, hmx0⟩ := ft3 (by decide)
    subst hmn0 hmx0
    obtain ⟨rfl⟩ : ks = noSet := ft1 (by decide)
    have e : cdT (⟨2, noSet, 0, 0⟩, kids) = sqn kids.cds := by
      show cdN _ _ = _
      unfold cdN
      simp
    rw [e]
    have hcl := Fo.cds_len kids
    have hfitH := hide hfitk
    clear hfitk
    go_enter Tryz.func61, Tryz.ntmps61
    go_wp2_with (first | ((with_reducible refine at_box 27 ?_); refine wl_box28 H rfl ?_; clear H; intro g1 w1 H q1 q2) | ((with_reducible refine at_alloc 66 ?_); refine wl_allocC H ?_; clear H; intro g2 w2 H q3 q4) | ((with_reducible refine at_load 3 ?_); refine wl_ld3 1 0 H (v := .int .i64 2) rfl rfl rfl ?_) | ((with_reducible refine at_load 25 ?_); refine wl_ld26 1 5 H (v := .slice va kids.len vc) rfl rfl rfl ?_) | ((with_reducible refine at_make 149 ?_); refine wl_make99 (n := kids.len) (by omega) rfl rfl ?_; intro gl w3 hgl hrow B3; have hlw := H.lti 0 rfl; have hlw1 := H.lti 1 rfl; have hbH := H.below.size; have hgl1 : gl ≠ g1 ∧ gl ≠ g2 ∧ w.heap.size ≤ gl := ⟨by omega, by omega, by omega⟩; clear hgl; replace H := H.call B3 (Nat.le_refl _); replace hrow := hide hrow; replace B3 := hide B3))
    have hglt : gl < w3.heap.size := (Array.getElem?_eq_some_iff.1 hrow.out).1
    have hb3 := H.below.size
    have hRR : ∀ k, (R k ∨ k = g2 ∨ k = gl) → k < w3.heap.size := fun k h => by
      have := B3.out.size
      rcases h with h | h | h
      · have := hR k h; omega
      · omega
      · omega
    go_loopw [33] (fun iv wr => ∃ k : Nat, k ≤ kids.len ∧ iv = .int .i64 (k : Int) ∧ Hid (St Nope w wr [(true, g2, 66, cdA 0 .nilFunc), (true, g1, 27, reA 2 noSet (.slice va kids.len vc) 0 0)]) ∧ Hid (CiR (fun j => R j ∨ j = g2 ∨ j = gl) gl kids.len kids.cds k wr) ∧ Hid (w3.heap.size ≤ wr.heap.size)) (fun iv _ => kids.len - (intOf iv).toNat)
    case atStart => exact ⟨0, Nat.zero_le _, rfl, H, CiR.start hrow.out, Nat.le_refl _⟩
    case round =>
      clear H
      obtain ⟨k, hk, rfl, H, hC, hws⟩ := hrel
      replace H := H.out
      by_cases hlt : k < kids.len
      · have i3 : (k : Int) < (kids.len : Int) := by omega
        obtain ⟨bb, cx, hva, hbb, ⟨ca, cn, cc0, hcx⟩, hch⟩ := child.out k hlt
        subst hva
        have hfc := fit_nth kids k hlt hfitH.out
        have hsc := sz_nth kids k hlt
        have hcd := cds_nth kids k hlt
        generalize kids.nth k = tc at hch hfc hsc hcx hcd
        subst hcx
        have hld := hide ((hch _ H.below).2)
        have IH : Hid (∀ w', Below wr.heap.size wr w' → Calls Tryz.prog 61 #[reV tc.1.k tc.1.s (.slice ca cn cc0) tc.1.mn tc.1.mx] w' (CodeP cap (fun j => R j ∨ j = g2 ∨ j = gl) w' (cdT tc))) := fun w' hb => ihH.out tc (by omega) _ P0 _ w' (hch _ (H.below.trans (hb.mono H.below.size))).1 hfc (by omega) (fun j hj => by have := hRR j hj; have := hws.out; have := hb.size; omega)
        have hPut : Hid (∀ w', Below wr.heap.size wr w' → ∀ z f, CdOk cap (fun j => R j ∨ j = g2 ∨ j = gl) w' z f (cdT tc) → ∃ W', (storeVar 66 ⟨gl, k * 2, none⟩ (cdV z f)).run Tryz.prog w' = .ok () W' ∧ CiR (fun j => R j ∨ j = g2 ∨ j = gl) gl kids.len kids.cds (k + 1) W' ∧ But (fun j => j = gl) w' W') := fun w' hb z f C => (hC.out.below hb).put (.inr (.inr rfl)) hlt hcd C
        have hltH := hide hlt
        have Hw := St.start Nope wr
        have h2 := H.get 0 rfl
        have h1 := H.get 1 rfl
        have hne12 : g1 ≠ g2 := fun e => by have := H.nd; simp [e] at this
        have HB := hide H
        clear H
        have H := St.ro2 h2 h1 (fun e => hne12 e.symm)
        replace h1 := hide h1
        replace h2 := hide h2
        replace hch := hide hch
        replace hfc := hide hfc
        replace hcd := hide hcd
        clear Hw
        go_wp2_with (first | ((with_reducible refine at_load 27 ?_); first | (refine wl_load28 0 H rfl rfl ?_) | (refine wl_loadA 27 rfl hld.out ?_)) | ((with_reducible refine at_alloc 27 ?_); refine wl_alloc28 H ?_; clear H; intro g5 w5 H q5 q6) | ((with_reducible refine at_store 27 ?_); refine wl_store28 0 H rfl rfl rfl rfl ?_; clear H; intro w6 H))
        have hb6 := H.below
        refine (IH.out _ hb6).mono ?_
        rintro e w7 ⟨z, f, rfl, C, B7⟩
        have B67 := hb6.trans (B7.mono hb6.size)
        obtain ⟨w8, hst, hC8, hb8⟩ := hPut.out w7 B67 z f C
        have H8 : Hid (St Nope w w8 [(true, g2, 66, cdA 0 .nilFunc), (true, g1, 27, reA 2 noSet (.slice (some ⟨bb, 0, none⟩) kids.len vc) 0 0)]) := (HB.out.call B67 (Nat.le_refl _)).callB hb8 (fun i hi h => by omega) (fun x hx => by
          simp only [List.mem_cons, List.not_mem_nil, or_false] at hx
          rcases hx with rfl | rfl
          · exact fun e => hgl1.2.1 e.symm
          · exact fun e => hgl1.1 e.symm)
        have hws8 : Hid (w3.heap.size ≤ w8.heap.size) := by have := hws.out; have := B67.size; have := hb8.size; show _ ≤ _; omega
        replace hst := hide hst
        replace hC8 := hide hC8
        replace C := hide C
        clear H hb8
        go_wp2_with (first | ((with_reducible refine at_store 66 ?_); refine wl_storeT 66 rfl rfl hst.out ?_))
        go_roundw
        case rel => exact ⟨k + 1, hltH.out, by go_num, H8, hC8, hws8⟩
        case measure => have := hltH.out; simp [intOf]; omega
      · obtain rfl : k = kids.len := by omega
        have i4 : ¬ ((kids.len : Int) < (kids.len : Int)) := by omega
        have hCs := hC.out.done (R' := fun j => R j ∨ j = g2) hcl (by omega) (fun j h => by rcases h with h | h; exact .inl h; exact .inr (.inl h)) (fun h => by rcases h with h | h; have := hR _ h; omega; exact hgl1.2.1 h)
        have hR3 : ∀ j, (R j ∨ j = g2) → j < wr.heap.size := fun j hj => by have := hRR j (by rcases hj with h | h; exact .inl h; exact .inr (.inl h)); have := hws.out; omega
        have SQ := hide (sequence_any (fun j => R j ∨ j = g2) _ _ cap (by decide) wr hCs (by omega) hR3)
        replace hCs := hide hCs
        clear hlt
        go_wp2_with (first | ((with_reducible refine at_load 3 ?_); refine wl_ld3 1 0 H (v := .int .i64 2) rfl rfl rfl ?_))
        refine SQ.out.mono ?_
        rintro e w7 ⟨z, f, rfl, C, B7⟩
        obtain ⟨nf, caps, hf, _⟩ := C.put
        subst hf
        have BB := H.below.trans (B7.mono H.below.size)
        have H3 := (H.call B7 (Nat.le_refl _)).only
        clear H
        replace C := hide C
        go_wp2_with (first | ((with_reducible refine at_store 66 ?_); refine wl_storeC 0 (z' := z) (f' := .func (.func nf) #[] caps) H3 rfl rfl rfl rfl ?_; clear H3; intro w4 H3))
        refine bodyPost_ret (results_cell0 rfl _ _ _ _ rfl (loadC (H3.get 0 rfl))) rfl ?_
        exact CodeP.stored BB C.out H3.but q3
  · obtain ⟨hmn0, hmx0⟩ := ft3 (by decide)
    subst hmn0 hmx0
    obtain ⟨rfl⟩ : ks = noSet := ft1 (by decide)
    have e : cdT (⟨3, noSet, 0, 0⟩, kids) = chc kids.cds := by
      show cdN _ _ = _
      unfold cdN
      simp
    rw [e]
    have hcl := Fo.cds_len kids
    have hfitH := hide hfitk
    clear hfitk
    go_enter Tryz.func61, Tryz.ntmps61
    go_wp2_with (first | ((with_reducible refine at_box 27 ?_); refine wl_box28 H rfl ?_; clear H; intro g1 w1 H q1 q2) | ((with_reducible refine at_alloc 66 ?_); refine wl_allocC H ?_; clear H; intro g2 w2 H q3 q4) | ((with_reducible refine at_load 3 ?_); refine wl_ld3 1 0 H (v := .int .i64 3) rfl rfl rfl ?_) | ((with_reducible refine at_load 25 ?_); refine wl_ld26 1 5 H (v := .slice va kids.len vc) rfl rfl rfl ?_) | ((with_reducible refine at_make 149 ?_); refine wl_make99 (n := kids.len) (by omega) rfl rfl ?_; intro gl w3 hgl hrow B3; have hlw := H.lti 0 rfl; have hlw1 := H.lti 1 rfl; have hbH := H.below.size; have hgl1 : gl ≠ g1 ∧ gl ≠ g2 ∧ w.heap.size ≤ gl := ⟨by omega, by omega, by omega⟩; clear hgl; replace H := H.call B3 (Nat.le_refl _); replace hrow := hide hrow; replace B3 := hide B3))
    have hglt : gl < w3.heap.size := (Array.getElem?_eq_some_iff.1 hrow.out).1
    have hb3 := H.below.size
    have hRR : ∀ k, (R k ∨ k = g2 ∨ k = gl) → k < w3.heap.size := fun k h => by
      have := B3.out.size
      rcases h with h | h | h
      · have := hR k h; omega
      · omega
      · omega
    go_loopw [33] (fun iv wr => ∃ k : Nat, k ≤ kids.len ∧ iv = .int .i64 (k : Int) ∧ Hid (St Nope w wr [(true, g2, 66, cdA 0 .nilFunc), (true, g1, 27, reA 3 noSet (.slice va kids.len vc) 0 0)]) ∧ Hid (CiR (fun j => R j ∨ j = g2 ∨ j = gl) gl kids.len kids.cds k wr) ∧ Hid (w3.heap.size ≤ wr.heap.size)) (fun iv _ => kids.len - (intOf iv).toNat)
    case atStart => exact ⟨0, Nat.zero_le _, rfl, H, CiR.start hrow.out, Nat.le_refl _⟩
    case round =>
      clear H
      obtain ⟨k, hk, rfl, H, hC, hws⟩ := hrel
      replace H := H.out
      by_cases hlt : k < kids.len
      · have i3 : (k : Int) < (kids.len : Int) := by omega
        obtain ⟨bb, cx, hva, hbb, ⟨ca, cn, cc0, hcx⟩, hch⟩ := child.out k hlt
        subst hva
        have hfc := fit_nth kids k hlt hfitH.out
        have hsc := sz_nth kids k hlt
        have hcd := cds_nth kids k hlt
        generalize kids.nth k = tc at hch hfc hsc hcx hcd
        subst hcx
        have hld := hide ((hch _ H.below).2)
        have IH : Hid (∀ w', Below wr.heap.size wr w' → Calls Tryz.prog 61 #[reV tc.1.k tc.1.s (.slice ca cn cc0) tc.1.mn tc.1.mx] w' (CodeP cap (fun j => R j ∨ j = g2 ∨ j = gl) w' (cdT tc))) := fun w' hb => ihH.out tc (by omega) _ P0 _ w' (hch _ (H.below.trans (hb.mono H.below.size))).1 hfc (by omega) (fun j hj => by have := hRR j hj; have := hws.out; have := hb.size; omega)
        have hPut : Hid (∀ w', Below wr.heap.size wr w' → ∀ z f, CdOk cap (fun j => R j ∨ j = g2 ∨ j = gl) w' z f (cdT tc) → ∃ W', (storeVar 66 ⟨gl, k * 2, none⟩ (cdV z f)).run Tryz.prog w' = .ok () W' ∧ CiR (fun j => R j ∨ j = g2 ∨ j = gl) gl kids.len kids.cds (k + 1) W' ∧ But (fun j => j = gl) w' W') := fun w' hb z f C => (hC.out.below hb).put (.inr (.inr rfl)) hlt hcd C
        have hltH := hide hlt
        have Hw := St.start Nope wr
        have h2 := H.get 0 rfl
        have h1 := H.get 1 rfl
        have hne12 : g1 ≠ g2 := fun e => by have := H.nd; simp [e] at this
        have HB := hide H
        clear H
        have H := St.ro2 h2 h1 (fun e => hne12 e.symm)
        replace h1 := hide h1
        replace h2 := hide h2
        replace hch := hide hch
        replace hfc := hide hfc
        replace hcd := hide hcd
        clear Hw
        go_wp2_with (first | ((with_reducible refine at_load 27 ?_); first | (refine wl_load28 0 H rfl rfl ?_) | (refine wl_loadA 27 rfl hld.out ?_)) | ((with_reducible refine at_alloc 27 ?_); refine wl_alloc28 H ?_; clear H; intro g5 w5 H q5 q6) | ((with_reducible refine at_store 27 ?_); refine wl_store28 0 H rfl rfl rfl rfl ?_; clear H; intro w6 H))
        have hb6 := H.below
        refine (IH.out _ hb6).mono ?_
        rintro e w7 ⟨z, f, rfl, C, B7⟩
        have B67 := hb6.trans (B7.mono hb6.size)
        obtain ⟨w8, hst, hC8, hb8⟩ := hPut.out w7 B67 z f C
        have H8 : Hid (St Nope w w8 [(true, g2, 66, cdA 0 .nilFunc), (true, g1, 27, reA 3 noSet (.slice (some ⟨bb, 0, none⟩) kids.len vc) 0 0)]) := (HB.out.call B67 (Nat.le_refl _)).callB hb8 (fun i hi h => by omega) (fun x hx => by
          simp only [List.mem_cons, List.not_mem_nil, or_false] at hx
          rcases hx with rfl | rfl
          · exact fun e => hgl1.2.1 e.symm
          · exact fun e => hgl1.1 e.symm)
        have hws8 : Hid (w3.heap.size ≤ w8.heap.size) := by have := hws.out; have := B67.size; have := hb8.size; show _ ≤ _; omega
        replace hst := hide hst
        replace hC8 := hide hC8
        replace C := hide C
        clear H hb8
        go_wp2_with (first | ((with_reducible refine at_store 66 ?_); refine wl_storeT 66 rfl rfl hst.out ?_))
        go_roundw
        case rel => exact ⟨k + 1, hltH.out, by go_num, H8, hC8, hws8⟩
        case measure => have := hltH.out; simp [intOf]; omega
      · obtain rfl : k = kids.len := by omega
        have i4 : ¬ ((kids.len : Int) < (kids.len : Int)) := by omega
        have hCs := hC.out.done (R' := fun j => R j ∨ j = g2) hcl (by omega) (fun j h => by rcases h with h | h; exact .inl h; exact .inr (.inl h)) (fun h => by rcases h with h | h; have := hR _ h; omega; exact hgl1.2.1 h)
        have hR3 : ∀ j, (R j ∨ j = g2) → j < wr.heap.size := fun j hj => by have := hRR j (by rcases hj with h | h; exact .inl h; exact .inr (.inl h)); have := hws.out; omega
        have SQ := hide (choice_any (fun j => R j ∨ j = g2) _ _ wr hCs (by omega) hR3)
        replace hCs := hide hCs
        clear hlt
        go_wp2_with (first | ((with_reducible refine at_load 3 ?_); refine wl_ld3 1 0 H (v := .int .i64 3) rfl rfl rfl ?_))
        refine SQ.out.mono ?_
        rintro e w7 ⟨z, f, rfl, C, B7⟩
        obtain ⟨nf, caps, hf, _⟩ := C.put
        subst hf
        have BB := H.below.trans (B7.mono H.below.size)
        have H3 := (H.call B7 (Nat.le_refl _)).only
        clear H
        replace C := hide C
        go_wp2_with (first | ((with_reducible refine at_store 66 ?_); refine wl_storeC 0 (z' := z) (f' := .func (.func nf) #[] caps) H3 rfl rfl rfl rfl ?_; clear H3; intro w4 H3))
        refine bodyPost_ret (results_cell0 rfl _ _ _ _ rfl (loadC (H3.get 0 rfl))) rfl ?_
        exact CodeP.stored BB C.out H3.but q3
  · obtain ⟨hl1, har⟩ := ft2 rfl
    obtain ⟨rfl⟩ : ks = noSet := ft1 (by decide)
    obtain ⟨bb, cx, hva, hbb, ⟨ca, cn, cc0, hcx⟩, hch⟩ := child.out 0 (by omega)
    subst hva
    simp only [Nat.zero_mul] at hch
    have har2 : (0 ≤ kmn ∧ kmn ≤ 64) ∧ (kmx = -1 ∨ kmn ≤ kmx ∧ kmx ≤ 64) := by simpa [arT] using har
    obtain ⟨mn, rfl⟩ : ∃ mn : Nat, kmn = (mn : Int) := ⟨kmn.toNat, by omega⟩
    have hmn : mn ≤ 64 := by omega
    have hmx := har2.2
    have e : cdT (⟨4, noSet, (mn : Int), kmx⟩, kids) = rp (cdT (kids.nth 0)) mn kmx := by
      cases kids with
      | nil => simp [Fo.len] at hl1
      | cons n k r =>
        show cdN _ _ = _
        unfold cdN
        rw [if_neg (show ¬ ((4 : Int) = 1) by decide), if_pos (show (4 : Int) = 4 from rfl)]
        rfl
    rw [e, hl1]
    have hfc := fit_nth kids 0 (by omega) hfitk
    have hsc := sz_nth kids 0 (by omega)
    generalize kids.nth 0 = tc at hch hfc hsc hcx ⊢
    generalize hmxe : kmx = mx at *
    have IH := hide (fun R' w' T hR' => ihH.out tc (by omega) R' P0 cx w' T hfc (by omega) hR')
    generalize hcc : vc = cc at *
    rw [hl1] at hvc
    have icc : (0 : Int) < (1 : Int) := by decide
    subst hcx
    generalize hcxe : reV tc.1.k tc.1.s (.slice ca cn cc0) tc.1.mn tc.1.mx = cx at *
    go_enter Tryz.func61, Tryz.ntmps61
    go_wp2_with (first | ((with_reducible refine at_box 27 ?_); refine wl_box28 H rfl ?_; clear H; intro g1 w1 H q1 q2) | ((with_reducible refine at_alloc 66 ?_); refine wl_allocC H ?_; clear H; intro g2 w2 H q3 q4) | ((with_reducible refine at_load 3 ?_); refine wl_ld3 1 0 H (v := .int .i64 4) rfl rfl rfl ?_))
    have hb := H.below
    have hlt := H.lti 0 rfl
    have hlt1 := H.lti 1 rfl
    have hs2 := hb.size
    have hne12 : g1 ≠ g2 := fun e => by have := H.nd; simp [e] at this
    have hR2 : ∀ k, (R k ∨ k = g2) → k < w2.heap.size := fun k h => by rcases h with h | h; have := hR k h; omega; omega
    have BD : Below w2.heap.size w2 w2.drew := (Below.refl _ w2).drew
    have OP := hide (IH.out (fun k => R k ∨ k = g2) w2.drew ((hch _ (hb.trans (BD.mono hs2))).1) hR2)
    have hS : Hid (∀ w', Below w2.heap.size w2 w' → (w'.cell? ⟨g1, 5, none⟩ = some (.slice (some ⟨bb, 0, none⟩) 1 cc) ∧ (loadVar 27 ⟨bb, 0, none⟩).run Tryz.prog w' = .ok cx w' ∧ w'.cell? ⟨g1, 6, none⟩ = some (.int .i64 (mn : Int)) ∧ w'.cell? ⟨g1, 7, none⟩ = some (.int .i64 mx))) := fun w' hb' => by
      have H3 := H.call hb' (Nat.le_refl _)
      exact ⟨H3.cell 1 5 rfl rfl, (hch _ (hb.trans (hb'.mono hs2))).2, H3.cell 1 6 rfl rfl, H3.cell 1 7 rfl rfl⟩
    have hS6 : Hid (∀ w5 w6, Below w2.heap.size w2 w5 → But (fun k => k = g2) w5 w6 → (w6.cell? ⟨g1, 5, none⟩ = some (.slice (some ⟨bb, 0, none⟩) 1 cc) ∧ (loadVar 27 ⟨bb, 0, none⟩).run Tryz.prog w6 = .ok cx w6 ∧ w6.cell? ⟨g1, 6, none⟩ = some (.int .i64 (mn : Int)) ∧ w6.cell? ⟨g1, 7, none⟩ = some (.int .i64 mx))) := fun w5 w6 hb' hbut => by
      have H3 := (H.call hb' (Nat.le_refl _)).get 1 rfl
      have H4 : w6.heap[g1]? = _ := (hbut.block g1 (by have := hb'.size; omega) hne12).trans H3
      have B06 : Below w.heap.size w w6 := (hb.trans (hb'.mono hs2)).trans (hbut.below (by have := hb'.size; omega) (fun k h => by omega))
      exact ⟨by rw [cell_of_row w6 g1 5 _ 27 (0, 0) H4]; rfl, (hch _ B06).2, by rw [cell_of_row w6 g1 6 _ 27 (0, 0) H4]; rfl, by rw [cell_of_row w6 g1 7 _ 27 (0, 0) H4]; rfl⟩
    go_wp2_with fail
    refine wp_region_noPanic ?_
    refine wp_region_held_drew (S := (fun w' => w'.cell? ⟨g1, 5, none⟩ = some (.slice (some ⟨bb, 0, none⟩) 1 cc) ∧ (loadVar 27 ⟨bb, 0, none⟩).run Tryz.prog w' = .ok cx w' ∧ w'.cell? ⟨g1, 6, none⟩ = some (.int .i64 (mn : Int)) ∧ w'.cell? ⟨g1, 7, none⟩ = some (.int .i64 mx))) (by kernel_rfl) (hS.out _ BD) (fun hH0 => ?_)
    refine wpAnyH_take (i := 0) (oi := { dst := some 16, op := Op.fieldAddr 27 (Operand.tmp 1) 2, type := 0, pos := "code.go:39", after := #[], guard := none }) (v := ?_) rfl (by kernel_rfl) (by kernel_rfl) (by kernel_rfl) (fun _ _ _ h => h) (Or.inl ⟨by rfl, ?_⟩) hH0 ?_
    rotate_left
    · intro w' hw'
      obtain ⟨s1, s2, s3, s4⟩ := hw'
      go_simp
      try with_reducible rfl
    try simp only [Act.put, List.setIfInBounds_toArray, List.set_cons_zero, List.set_cons_succ]
    refine wpAnyH_take (i := 1) (oi := { dst := some 17, op := Op.load 25 (Operand.tmp 16), type := 25, pos := "code.go:39", after := #[{ on := 0, ground := Ground.data }], guard := none }) (v := ?_) rfl (by kernel_rfl) (by kernel_rfl) (by kernel_rfl) (fun _ _ _ h => h) (Or.inl ⟨by rfl, ?_⟩) hH0 ?_
    rotate_left
    · intro w' hw'
      obtain ⟨s1, s2, s3, s4⟩ := hw'
      go_simp
      try with_reducible rfl
    try simp only [Act.put, List.setIfInBounds_toArray, List.set_cons_zero, List.set_cons_succ]
    refine wpAnyH_take (i := 2) (oi := { dst := some 18, op := Op.indexAddr 25 (Operand.tmp 17) (Operand.const (Value.int IntKind.i64 0)), type := 0, pos := "code.go:39", after := #[{ on := 1, ground := Ground.data }], guard := none }) (v := ?_) rfl (by kernel_rfl) (by kernel_rfl) (by kernel_rfl) (fun _ _ _ h => h) (Or.inl ⟨by rfl, ?_⟩) hH0 ?_
    rotate_left
    · intro w' hw'
      obtain ⟨s1, s2, s3, s4⟩ := hw'
      go_simp
      try with_reducible rfl
    try simp only [Act.put, List.setIfInBounds_toArray, List.set_cons_zero, List.set_cons_succ]
    refine wpAnyH_take (i := 3) (oi := { dst := some 19, op := Op.load 27 (Operand.tmp 18), type := 27, pos := "code.go:39", after := #[{ on := 2, ground := Ground.data }], guard := none }) (v := cx) rfl (by kernel_rfl) (by kernel_rfl) (by kernel_rfl) (fun _ _ _ h => h) (Or.inl ⟨by rfl, fun w' hw' => run_ldV 27 rfl hw'.2.1⟩) hH0 ?_
    try simp only [Act.put, List.setIfInBounds_toArray, List.set_cons_zero, List.set_cons_succ]
    refine wpAnyH_take (i := 5) (oi := { dst := some 21, op := Op.fieldAddr 27 (Operand.tmp 1) 3, type := 0, pos := "code.go:39", after := #[], guard := none }) (v := ?_) rfl (by kernel_rfl) (by kernel_rfl) (by kernel_rfl) (fun _ _ _ h => h) (Or.inl ⟨by rfl, ?_⟩) hH0 ?_
    rotate_left
    · intro w' hw'
      obtain ⟨s1, s2, s3, s4⟩ := hw'
      go_simp
      try with_reducible rfl
    try simp only [Act.put, List.setIfInBounds_toArray, List.set_cons_zero, List.set_cons_succ]
    refine wpAnyH_take (i := 6) (oi := { dst := some 22, op := Op.load 3 (Operand.tmp 21), type := 3, pos := "code.go:39", after := #[{ on := 5, ground := Ground.data }], guard := none }) (v := ?_) rfl (by kernel_rfl) (by kernel_rfl) (by kernel_rfl) (fun _ _ _ h => h) (Or.inl ⟨by rfl, ?_⟩) hH0 ?_
    rotate_left
    · intro w' hw'
      obtain ⟨s1, s2, s3, s4⟩ := hw'
      go_simp
      try with_reducible rfl
    try simp only [Act.put, List.setIfInBounds_toArray, List.set_cons_zero, List.set_cons_succ]
    refine wpAnyH_take (i := 7) (oi := { dst := some 23, op := Op.fieldAddr 27 (Operand.tmp 1) 4, type := 0, pos := "code.go:39", after := #[], guard := none }) (v := ?_) rfl (by kernel_rfl) (by kernel_rfl) (by kernel_rfl) (fun _ _ _ h => h) (Or.inl ⟨by rfl, ?_⟩) hH0 ?_
    rotate_left
    · intro w' hw'
      obtain ⟨s1, s2, s3, s4⟩ := hw'
      go_simp
      try with_reducible rfl
    try simp only [Act.put, List.setIfInBounds_toArray, List.set_cons_zero, List.set_cons_succ]
    refine wpAnyH_take (i := 8) (oi := { dst := some 24, op := Op.load 3 (Operand.tmp 23), type := 3, pos := "code.go:39", after := #[{ on := 7, ground := Ground.data }], guard := none }) (v := ?_) rfl (by kernel_rfl) (by kernel_rfl) (by kernel_rfl) (fun _ _ _ h => h) (Or.inl ⟨by rfl, ?_⟩) hH0 ?_
    rotate_left
    · intro w' hw'
      obtain ⟨s1, s2, s3, s4⟩ := hw'
      go_simp
      try with_reducible rfl
    try simp only [Act.put, List.setIfInBounds_toArray, List.set_cons_zero, List.set_cons_succ]
    refine wpAnyH_ready (rs := [4]) (by kernel_rfl) (by simp) ?_
    refine AllReadyH.cons (o := { dst := some 20, op := Op.call { callee := Callee.value (Operand.func 61), args := #[Operand.tmp 19], argTypes := #[27] }, type := 66, pos := "code.go:39", after := #[{ on := 3, ground := Ground.data }], guard := none }) rfl (fun K hK => ?_) AllReadyH.nil
    refine step_clo1 (caps := #[]) (u1 := cx) rfl rfl rfl clo38 ?_
    rw [Array.append_empty]
    refine OP.out.mono ?_
    rintro e w3 ⟨z1, f1, rfl, C1, B3⟩
    have B23 := BD.trans (B3.mono BD.size)
    have RP := hide (repeated_any _ z1 f1 _ mn mx w3 hmn hmx C1 (fun k hk => by have := hR2 k hk; have := B23.size; omega))
    replace C1 := hide C1
    refine ⟨_, rfl, ?_⟩
    refine hK.out _ _ (hS.out _ B23) (fun hH1 => ?_)
    clear hK
    try simp only [Act.put, List.setIfInBounds_toArray, List.set_cons_zero, List.set_cons_succ]
    refine wpAnyH_ready (rs := [9]) (by kernel_rfl) (by simp) ?_
    refine AllReadyH.cons (o := { dst := some 25, op := Op.call { callee := Callee.value (Operand.func 93), args := #[Operand.tmp 20, Operand.tmp 22, Operand.tmp 24], argTypes := #[66, 3, 3] }, type := 66, pos := "code.go:39", after := #[{ on := 4, ground := Ground.data }, { on := 6, ground := Ground.data }, { on := 8, ground := Ground.data }, { on := 4, ground := Ground.chain }], guard := none }) rfl (fun K hK => ?_) AllReadyH.nil
    refine step_clo3 (caps := #[]) (u1 := cdV z1 f1) (u2 := .int .i64 (mn : Int)) (u3 := .int .i64 mx) rfl rfl rfl rfl rfl clo62 ?_
    rw [Array.append_empty]
    refine RP.out.mono ?_
    rintro e w4 ⟨z2, f2, rfl, C2, B4⟩
    have B24 := B23.trans (B4.mono B23.size)
    have hf2 := C2.put.one
    have H4 : St (fun k => k = g2) w4 w4 [(true, g2, 66, cdA 0 .nilFunc)] := (H.call B24 (Nat.le_refl _)).only
    have hst := store54 (H4.get 0 rfl) (z' := z2) hf2
    have H5 := H4.setRow 0 rfl (cdA z2 f2)
    refine ⟨_, rfl, ?_⟩
    refine hK.out _ _ (hS.out _ B24) (fun hH2 => ?_)
    clear hK
    try simp only [Act.put, List.setIfInBounds_toArray, List.set_cons_zero, List.set_cons_succ]
    refine wpAnyH_ready (rs := [10]) (by kernel_rfl) (by simp) ?_
    refine AllReadyH.cons (o := { dst := none, op := Op.store 66 (Operand.tmp 2) (Operand.tmp 25), type := 0, pos := "code.go:39", after := #[{ on := 9, ground := Ground.data }, { on := 9, ground := Ground.chain }, { on := 0, ground := Ground.phase }, { on := 1, ground := Ground.phase }, { on := 2, ground := Ground.phase }, { on := 3, ground := Ground.phase }, { on := 4, ground := Ground.phase }, { on := 5, ground := Ground.phase }, { on := 6, ground := Ground.phase }, { on := 7, ground := Ground.phase }, { on := 8, ground := Ground.phase }, { on := 9, ground := Ground.phase }], guard := none }) rfl (fun K hK => ?_) AllReadyH.nil
    rw [if_pos (by rfl)]
    refine wp_storeT 66 rfl rfl rfl hst ?_
    refine hK.out _ _ (hS6.out _ _ B24 H5.but) (fun hH3 => ?_)
    clear hK
    try simp only [Act.put, List.setIfInBounds_toArray, List.set_cons_zero, List.set_cons_succ]
    refine wpAnyH_done (by kernel_rfl) ?_ _
    refine NoPanic.normal ?_
    go_wp2_with fail
    refine bodyPost_ret (results_cell0 rfl _ _ _ _ rfl (loadC (H5.get 0 rfl))) rfl ?_
    exact CodeP.stored (hb.trans (B24.mono hs2)) C2 H5.but q3
end Go.Proofs.YtkfdikpnnkbgaaaGreatDoor
