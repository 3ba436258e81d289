/-
  repeated.
-/
import Derived.Test.YtkfdikpnnkbgaaaGreatDoorCI
namespace Go.Proofs.YtkfdikpnnkbgaaaGreatDoor
open Go.RowKit
set_option linter.unusedVariables false
set_option linter.unusedSimpArgs false

theorem rpL_len (c : Cd) (mn : Nat) (mx : Int) (nx : Nat) (h1 : mn ≤ 64) (h2 : mx ≤ 64) : (rpL c mn mx nx).length ≤ 200 := by
  unfold rpL
  split <;> simp <;> omega
/-- The closure that makes the parts. -/
def ptF (gc gf gt : Nat) : Value := .func (.func 124) #[] #[.pointer (some ⟨gc, 0, none⟩), .pointer (some ⟨gf, 0, none⟩), .pointer (some ⟨gt, 0, none⟩)]
set_option maxHeartbeats 2000000 in
set_option maxRecDepth 100000 in
theorem repeated2_any (gq gc gf gt : Nat) (z : Nat) (f : Value) (c : Cd) (mn : Nat) (mx : Int) (b : Nat) (hb0 : b ≤ 1500000) (W : World) (v : Value) (I : List Ins) (m : Nat) (hmn : mn ≤ 64) (hmx : mx = -1 ∨ (mn : Int) ≤ mx ∧ mx ≤ 64) (h0 : W.heap[gq]? = some (.cells #[ptF gc gf gt] 181 (0, 0))) (h1 : W.heap[gc]? = some (.cells (cdA z f) 66 (0, 0))) (h2 : W.heap[gf]? = some (.cells #[.int .i64 (mn : Int)] 3 (0, 0))) (h3 : W.heap[gt]? = some (.cells #[.int .i64 mx] 3 (0, 0))) (n12 : gc ≠ gf) (n13 : gc ≠ gt) (n23 : gf ≠ gt)
    (hc : CdOk b (fun k => v.ownBlock = some k) W z f c) (hr : RI W v I) (hl : I.length + (rp c mn mx).n ≤ 100000) (hm : m ≤ 100000) :
    Calls Tryz.prog 128 #[v, .int .i64 ((m : Nat) : Int), .pointer (some ⟨gq, 0, none⟩)] W (PutE W v (I ++ (rp c mn mx).put I.length m)) := by
  have H := (St.start Nope W).ro h0 (fun _ h => (List.not_mem_nil h).elim)
  obtain ⟨a, cp, hv⟩ := hr.val
  subst hv
  have hRl : ∀ k, (Value.slice a I.length cp).ownBlock = some k → k < W.heap.size := fun k hk => hr.lt hk
  have PA := hide (parts_any _ gc gf gt z f c mn mx m b hb0 W hmn hmx h1 h2 h3 n12 n13 n23 hc hRl)
  have hlen := rpL_len c mn mx m hmn (by omega)
  have hn : (sqn (rpL c mn mx m)).n = (rp c mn mx).n := by simp only [sqn, rp, rpL_sum]
  replace hr := hide hr
  replace h0 := hide h0
  replace h1 := hide h1
  replace h2 := hide h2
  replace h3 := hide h3
  replace hc := hide hc
  generalize hJ : I ++ (rp c mn mx).put I.length m = J
  replace hJ := hide hJ
  go_enter Tryz.func128, Tryz.ntmps128
  go_wp2_with (first | ((with_reducible refine at_load 181 ?_); refine wl_ld113 0 0 H (v := ptF gc gf gt) rfl rfl rfl ?_) | ((with_reducible refine at_clo ?_); refine wl_clo1 (u1 := .int .i64 (m : Int)) rfl rfl clo77 ?_))
  refine PA.out.mono ?_
  rintro e w1 ⟨sv, rfl, C1, B1⟩
  obtain ⟨sa, sc, hsv, _⟩ := C1.val
  subst hsv
  have SQ := hide (sequence_any _ _ _ (b + 1) (by omega) w1 C1 (by omega) (fun k hk => by have := hRl k hk; have := B1.size; omega))
  refine ⟨_, rfl, ?_⟩
  replace C1 := hide C1
  go_wp2_with fail
  refine SQ.out.mono ?_
  rintro e w2 ⟨z2, f2, rfl, C2, B2⟩
  obtain ⟨nf, caps, hfe, hcl, PF⟩ := C2.put
  subst hfe
  have B02 := B1.trans (B2.mono B1.size)
  have PP := hide (PF w2 _ I m (Kp.refl _ _) (hr.out.below B02) (fun k hk => .inl hk) (by rw [hn]; exact hl) hm)
  replace PF := hide PF
  replace C2 := hide C2
  replace H := H.call B02 (Nat.le_refl _)
  go_wp2_with (first | ((with_reducible refine at_field 66 ?_); refine wl_val (run_fieldC1 _ z2 (.func (.func nf) #[] caps) rfl _) ?_) | ((with_reducible refine at_clo ?_); refine wl_clo2 (u1 := .slice a I.length cp) (u2 := .int .i64 (m : Int)) rfl rfl rfl hcl ?_))
  refine PP.out.mono ?_
  rintro e w3 ⟨v3, rfl, r3, b3, o3⟩
  refine ⟨v3, rfl, ?_⟩
  have fin : Hid (PutE W (.slice a I.length cp) J (.returned v3) w3) := by
    have h4 := PutE.after (but_of_below B02 _ (fun k h1 h2 => by omega)) (fun k hk => .inl hk) (⟨v3, rfl, r3, b3, o3⟩ : PutE w2 _ _ (.returned v3) w3)
    rw [← hJ.out]
    exact h4
  clear r3 b3 o3
  go_wp2_with fail
  go_ret
  exact fin.out
section
variable {S : Nat → Prop} {w0 w w' : World} {L : List Ent} {ops : Array Oper} {rest : List Oper} {a : Act} {Q : Exit → Act → World → Prop} {dst : Option Nat} {x y : Operand} {ty : TypeId} {pos : String} {after : Array Edge}
theorem wl_alloc113 (H : St S w0 w L) (h : ∀ g w', St S w0 w' ((true, g, 181, #[.nilFunc]) :: L) → w0.heap.size ≤ g → w.heap.size ≤ g → wpList Tryz.prog ops Q rest (a.put dst (.pointer (some ⟨g, 0, none⟩))) w') : wpList Tryz.prog ops Q (⟨dst, .alloc 181, ty, pos, after, none⟩ :: rest) a w := by
  refine wl_val (w' := w.alloc (.cells #[.nilFunc] 181)) ?_ (h _ _ (H.alloc 181 _) H.but.size (Nat.le_refl _))
  unfold execOp
  kernel_rfl
theorem one113 : ∀ w, (sizeOf 181).run Tryz.prog w = .ok 1 w := fun w => by kernel_rfl
theorem wl_st113 (i : Nat) (H : St S w0 w L) {g : Nat} {u : Value} {fn : Fn} {xs ys : Array Value} (h : L[i]? = some (true, g, 181, #[u])) (hx : a.eval x = .pointer (some ⟨g, 0, none⟩)) (hy : a.eval y = .func fn xs ys)
    (k : ∀ w', St S w0 w' (L.set i (true, g, 181, #[.func fn xs ys])) → wpList Tryz.prog ops Q rest a w') : wpList Tryz.prog ops Q (⟨none, .store 181 x y, ty, pos, after, none⟩ :: rest) a w :=
  wl_store1 i 0 181 H h hx hy (by simp) one113 rfl k
end
set_option maxHeartbeats 2000000 in
set_option maxRecDepth 100000 in
theorem repeated_any (R : Nat → Prop) (z : Nat) (f : Value) (c : Cd) (mn : Nat) (mx : Int) (w : World) (hmn : mn ≤ 64) (hmx : mx = -1 ∨ (mn : Int) ≤ mx ∧ mx ≤ 64) (hc : CdOk cap R w z f c) (hR : ∀ k, R k → k < w.heap.size) :
    Calls Tryz.prog 93 #[cdV z f, .int .i64 (mn : Int), .int .i64 mx] w (CodeP cap R w (rp c mn mx)) := by
  have H := St.start Nope w
  have hcap : cap ≤ 1500000 := by decide
  replace hc := hide hc
  go_enter Tryz.func93, Tryz.ntmps93
  go_wp2_with (first | ((with_reducible refine at_box 66 ?_); refine wl_boxC H rfl ?_; clear H; intro g1 w1 H q1 q2) | ((with_reducible refine at_box 3 ?_); first | (refine wl_box3 H (n := (mn : Int)) rfl ?_; clear H; intro g2 w2 H q3 q4) | (refine wl_box3 H (n := mx) rfl ?_; clear H; intro g3 w3 H q5 q6)) | ((with_reducible refine at_alloc 66 ?_); refine wl_allocC H ?_; clear H; intro g4 w4 H q7 q8) | ((with_reducible refine at_alloc 181 ?_); refine wl_alloc113 H ?_; clear H; intro g5 w5 H q9 q10) | ((with_reducible refine at_store 181 ?_); refine wl_st113 0 (fn := .func 124) (xs := #[]) (ys := #[.pointer (some ⟨g1, 0, none⟩), .pointer (some ⟨g2, 0, none⟩), .pointer (some ⟨g3, 0, none⟩)]) H rfl rfl rfl ?_; clear H; intro w6 H) | ((with_reducible refine at_load 181 ?_); refine wl_ld113 0 0 H (v := ptF g1 g2 g3) rfl rfl rfl ?_) | ((with_reducible refine at_clo ?_); refine wl_clo1 (u1 := .int .i64 0) rfl rfl clo77 ?_))
  have hb := H.below
  have hs := hb.size
  have hnd := H.nd
  simp only [List.map_cons, List.map_nil, List.set_cons_zero, List.set_cons_succ, List.nodup_cons, List.mem_cons, List.not_mem_nil, or_false, not_or] at hnd
  have hg4 := H.lti 1 rfl
  have Cw : CdOk cap (fun k => R k ∨ k = g4) w6 z f c := hc.out.mono ((Kp.refl _ _).below hb) (fun k h => by rcases h with h | h; exact .inl h; right; omega)
  have hR2 : ∀ k, (R k ∨ k = g4) → k < w6.heap.size := fun k h => by rcases h with h | h; have := hR k h; omega; omega
  refine (parts_any _ g1 g2 g3 z f c mn mx 0 cap hcap w6 hmn hmx (H.get 4 rfl) (H.get 3 rfl) (H.get 2 rfl) (fun e => hnd.2.2.2.1 e.symm) (fun e => hnd.2.2.1.2 e.symm) (fun e => hnd.2.2.1.1 e.symm) Cw hR2).mono ?_
  rintro e w7 ⟨sv, rfl, C1, B1⟩
  obtain ⟨sa, sc, hsv, _⟩ := C1.val
  subst hsv
  have hlen := rpL_len c mn mx 0 hmn (by omega)
  have SQ := hide (sequence_any _ _ _ (cap + 1) (by decide) w7 C1 (by omega) (fun k hk => by have := hR2 k hk; have := B1.size; omega))
  refine ⟨_, rfl, ?_⟩
  replace C1 := hide C1
  replace Cw := hide Cw
  go_wp2_with fail
  refine SQ.out.mono ?_
  rintro e w8 ⟨z2, f2, rfl, C2, B2⟩
  have B68 := B1.trans (B2.mono B1.size)
  have B08 := hb.trans (B68.mono hs)
  replace H := H.call B68 (Nat.le_refl _)
  have k0 := H.get 0 rfl
  have k1 := H.get 4 rfl
  have k2 := H.get 3 rfl
  have k3 := H.get 2 rfl
  have l0 := H.lti 0 rfl
  have l1 := H.lti 4 rfl
  have l2 := H.lti 3 rfl
  have l3 := H.lti 2 rfl
  have Cw8 := hide (Cw.out.mono ((Kp.refl _ _).below B68) (fun k h => .inl h))
  have C2sz : SzOk z2 (rp c mn mx).n := C2.sz
  have C2le := C2.le
  have H8 : St (fun k => k = g4) w8 w8 [(true, g4, 66, cdA 0 .nilFunc)] := (H.tail).only
  have fin : Hid (∀ w9, But (fun k => k = g4) w8 w9 → CodeP cap R w (rp c mn mx) (.returned (cdV z2 (.func (.func 128) #[] #[.pointer (some ⟨g5, 0, none⟩)]))) w9) := fun w9 hb9 => by
    refine CodeP.stored B08 ⟨C2sz, C2le, 128, _, rfl, clo81, fun W v I m hK hr hv hl hm => ?_⟩ hb9 q7
    have nn : ∀ g, w.heap.size ≤ g → g < w8.heap.size → g ≠ g4 → ¬ (R g ∨ g = g4) := fun g h1 h2 h3 h => by rcases h with h | h; have := hR g h; omega; exact h3 h
    exact repeated2_any g5 g1 g2 g3 z f c mn mx cap hcap W v I m hmn hmx (hK.get k0 (nn g5 q9 l0 (fun e => hnd.1.1 e))) (hK.get k1 (nn g1 q1 l1 (fun e => hnd.2.1.2.2 e.symm))) (hK.get k2 (nn g2 q3 l2 (fun e => hnd.2.1.2.1 e.symm))) (hK.get k3 (nn g3 q5 l3 (fun e => hnd.2.1.1 e.symm))) (fun e => hnd.2.2.2.1 e.symm) (fun e => hnd.2.2.1.2 e.symm) (fun e => hnd.2.2.1.1 e.symm) (Cw8.out.mono hK (fun k hk => hv k hk)) hr hl hm
  replace C2 := hide C2
  clear H k0 k1 k2 k3
  replace hnd := hide hnd
  go_wp2_with (first | ((with_reducible refine at_field 66 ?_); refine wl_val (run_fieldC0 _ z2 f2 rfl _) ?_) | ((with_reducible refine at_build 66 ?_); refine wl_val (run_buildC _ z2 (.func 128) #[] #[.pointer (some ⟨g5, 0, none⟩)] rfl rfl _) ?_) | ((with_reducible refine at_store 66 ?_); refine wl_storeC 0 (z' := z2) (f' := .func (.func 128) #[] #[.pointer (some ⟨g5, 0, none⟩)]) H8 rfl rfl rfl rfl ?_; clear H8; intro w9 H8))
  refine bodyPost_ret (results_cell0 rfl _ _ _ _ rfl (loadC (H8.get 0 rfl))) rfl ?_
  exact fin.out _ H8.but
end Go.Proofs.YtkfdikpnnkbgaaaGreatDoor
