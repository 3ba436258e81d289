/-
  sequence.
-/
import Derived.Test.YtkfdikpnnkbgaaaGreatDoorCD
namespace Go.Proofs.YtkfdikpnnkbgaaaGreatDoor
open Go.RowKit
set_option linter.unusedVariables false
set_option linter.unusedSimpArgs false

theorem PutOk.congr {R : Nat → Prop} {w : World} {f : Value} {c d : Cd} (h : PutOk R w f c) (hn : d.n = c.n) (hp : ∀ a m, d.put a m = c.put a m) : PutOk R w f d := by
  obtain ⟨n, caps, e, hc, H⟩ := h
  refine ⟨n, caps, e, hc, fun W v L m hK hr hv hl hm => ?_⟩
  rw [hp]
  exact H W v L m hK hr hv (hn ▸ hl) hm
theorem CdOk.congr {b : Nat} {R : Nat → Prop} {w : World} {z : Nat} {f : Value} {c d : Cd} (h : CdOk b R w z f c) (hn : d.n = c.n) (hp : ∀ a m, d.put a m = c.put a m) : CdOk b R w z f d := ⟨by rw [hn]; exact h.sz, h.le, h.put.congr hn hp⟩
theorem CdOk.weak {b b' : Nat} {R : Nat → Prop} {w : World} {z : Nat} {f : Value} {c : Cd} (h : CdOk b R w z f c) (hb : b ≤ b') : CdOk b' R w z f c := ⟨h.sz, Nat.le_trans h.le hb, h.put⟩
section
variable {S : Nat → Prop} {w0 w w' : World} {L : List Ent} {ops : Array Oper} {rest : List Oper} {a : Act} {Q : Exit → Act → World → Prop} {dst : Option Nat} {x y z : Operand} {ty : TypeId} {pos : String} {after : Array Edge}
theorem wl_box99 (H : St S w0 w L) {ad : Option Addr} {n c : Nat} (hx : a.eval x = .slice ad n c) (h : ∀ g w', St S w0 w' ((true, g, 149, #[.slice ad n c]) :: L) → w0.heap.size ≤ g → w.heap.size ≤ g → wpList Tryz.prog ops Q rest (a.put dst (.pointer (some ⟨g, 0, none⟩))) w') : wpList Tryz.prog ops Q (⟨dst, .box 149 x, ty, pos, after, none⟩ :: rest) a w := by
  refine wl_val (w' := w.alloc (.cells #[.slice ad n c] 149)) ?_ (h _ _ (H.alloc 149 _) H.but.size (Nat.le_refl _))
  unfold execOp
  simp only [hx]
  kernel_rfl
theorem wl_alloc3 (H : St S w0 w L) (h : ∀ g w', St S w0 w' ((true, g, 3, #[.int .i64 0]) :: L) → w0.heap.size ≤ g → w.heap.size ≤ g → wpList Tryz.prog ops Q rest (a.put dst (.pointer (some ⟨g, 0, none⟩))) w') : wpList Tryz.prog ops Q (⟨dst, .alloc 3, ty, pos, after, none⟩ :: rest) a w := by
  refine wl_val (w' := w.alloc (.cells #[.int .i64 0] 3)) ?_ (h _ _ (H.alloc 3 _) H.but.size (Nat.le_refl _))
  unfold execOp
  kernel_rfl
end
theorem list_end {α : Type} (l : List α) (h : 0 < l.length) : ∃ p c, l = p ++ [c] := by
  rcases List.eq_nil_or_concat l with rfl | ⟨p, c, rfl⟩
  · simp at h
  · exact ⟨p, c, by simp⟩
theorem CsV.below {b : Nat} {R : Nat → Prop} {w w' : World} {v : Value} {cs : List Cd} (h : CsV b R w v cs) (hb : Below w.heap.size w w') : CsV b R w' v cs := h.mono ((Kp.refl _ _).below hb) (fun _ h => .inl h)
/-- What min gives, in each way in which it is written. -/
theorem min_facts (s m : Nat) (h : m = min s 1048576) : (if ((s : Nat) : Int) < 1048576 then ((s : Nat) : Int) else 1048576) = (m : Int) ∧ (if (1048576 : Int) < ((s : Nat) : Int) then (1048576 : Int) else ((s : Nat) : Int)) = (m : Int) ∧ min ((s : Nat) : Int) 1048576 = (m : Int) := by
  refine ⟨?_, ?_, ?_⟩
  · split <;> omega
  · split <;> omega
  · omega
theorem CodeP.stored {b : Nat} {R : Nat → Prop} {w w3 w4 : World} {g z : Nat} {f : Value} {c : Cd} (B3 : Below w.heap.size w w3) (C : CdOk b (fun k => R k ∨ k = g) w3 z f c) (hb : But (fun k => k = g) w3 w4) (hg : w.heap.size ≤ g) : CodeP b R w c (.returned (cdV z f)) w4 :=
  ⟨z, f, rfl, C.mono ((Kp.refl _ _).but hb (fun i h => .inl (.inr h))) (fun k h => .inl (.inl h)), B3.trans (hb.below B3.size (fun k h => by omega))⟩
theorem St.rebase1 {S : Nat → Prop} {w0 w : World} {L : List Ent} (H : St S w0 w L) : St (fun k => ∃ x ∈ L, x.1 = true ∧ x.2.1 = k) w w L := H.rebase _ (fun x hx hr => ⟨x, hx, hr, rfl⟩)
/-- Only the first box may be written from here on. -/
theorem St.only {S : Nat → Prop} {w0 w : World} {g : Nat} {t : TypeId} {xs : Array Value} {L : List Ent} (H : St S w0 w ((true, g, t, xs) :: L)) : St (fun k => k = g) w w [(true, g, t, xs)] :=
  ((H.sub (M := [(true, g, t, xs)]) (List.Sublist.cons_cons _ (List.nil_sublist _))).rebase _ (fun x hx _ => by rw [List.mem_singleton.1 hx]))
set_option maxHeartbeats 2000000 in
set_option maxRecDepth 100000 in
theorem sequence_any (R : Nat → Prop) (sv : Value) (cs : List Cd) (b : Nat) (hb0 : b ≤ 2000000) (w : World) (hcs : CsV b R w sv cs) (hlen : cs.length ≤ 100000) (hR : ∀ k, R k → k < w.heap.size) : Calls Tryz.prog 60 #[sv] w (CodeP cap R w (sqn cs)) := by
  have H := St.start Nope w
  rcases Nat.eq_zero_or_pos cs.length with h0 | h0
  · obtain rfl : cs = [] := List.eq_nil_of_length_eq_zero h0
    obtain ⟨a, c, rfl, _⟩ := hcs.val
    replace hcs := hide hcs
    simp only [List.length_nil]
    go_enter Tryz.func60, Tryz.ntmps60
    go_wp2_with (first | ((with_reducible refine at_box 149 ?_); refine wl_box99 H rfl ?_; clear H; intro g1 w1 H q1 q2) | ((with_reducible refine at_alloc 66 ?_); refine wl_allocC H ?_; clear H; intro g2 w2 H q3 q4) | ((with_reducible refine at_load 149 ?_); refine wl_ld99 1 0 H rfl rfl rfl ?_) | ((with_reducible refine at_build 102 ?_); refine wl_val (run_buildI1 _ 4 rfl _) ?_))
    have hb := H.below
    have hlt := H.lti 0 rfl
    refine (single_any (fun k => R k ∨ k = g2) ⟨4, noSet, 0, 0⟩ _ (fun k hk => by have := hb.size; rcases hk with hk | hk; have := hR k hk; omega; omega)).mono ?_
    rintro e w3 ⟨z, f, rfl, C, B3⟩
    obtain ⟨nf, caps, hf, _⟩ := C.put
    subst hf
    have BB := H.below.trans (B3.mono H.below.size)
    have H3 := (H.call B3 (Nat.le_refl _)).only
    clear H
    replace C := hide C
    go_wp2_with (first | ((with_reducible refine at_store 66 ?_); refine wl_storeC 0 (z' := z) (f' := .func (.func nf) #[] caps) H3 rfl rfl rfl rfl ?_; clear H3; intro w4 H3))
    refine bodyPost_ret (results_cell0 rfl _ _ _ _ rfl (loadC (H3.get 0 rfl))) rfl ?_
    exact CodeP.stored BB (C.out.congr rfl (fun a m => rfl)) H3.but q3
  · obtain ⟨p, c, rfl⟩ := list_end cs h0
    have hpl : (p ++ [c]).length = p.length + 1 := by simp
    obtain ⟨g, cp, rfl, hcp, hcm, hgs, hRg⟩ := hcs.val2 h0
    rw [hpl] at hcp hcs hlen ⊢
    unfold maxLen at hcm
    have hz0 : ((p.length : Int) + 1 == 0) = false := beq_eq_false_iff_ne.2 (by omega)
    have e0 : IntKind.i64.wrap ((p.length : Int) + 1 - 1) = (p.length : Int) := by rw [IntKind.wrap_i64]; omega
    have hcsH := hide hcs
    clear hcs h0
    go_enter Tryz.func60, Tryz.ntmps60
    go_wp2_with (first | ((with_reducible refine at_box 149 ?_); refine wl_box99 H rfl ?_; clear H; intro g1 w1 H q1 q2) | ((with_reducible refine at_alloc 66 ?_); refine wl_allocC H ?_; clear H; intro g2 w2 H q3 q4) | ((with_reducible refine at_load 149 ?_); refine wl_ld99 1 0 H rfl rfl rfl ?_))
    go_loopw [3, 14] (fun zv iv wr => ∃ (k z : Nat), k ≤ p.length + 1 ∧ iv = .int .i64 (k : Int) ∧ zv = .int .i64 (z : Int) ∧ z ≤ 1048576 ∧ Hid (SzOk z (sumN ((p ++ [c]).take k))) ∧ Hid (St Nope w wr [(true, g2, 66, cdA 0 .nilFunc), (true, g1, 149, #[.slice (some ⟨g, 0, none⟩) (p.length + 1) cp])])) (fun _ iv _ => p.length + 1 - (intOf iv).toNat)
    case atStart => exact ⟨0, 0, Nat.zero_le _, rfl, rfl, Nat.zero_le _, (rfl : SzOk 0 0), H⟩
    case round =>
      clear H
      obtain ⟨k, z, hk, rfl, rfl, hz, hS, H⟩ := hrel
      replace H := H.out
      by_cases hlt : k < p.length + 1
      · have i3 : (k : Int) < (p.length : Int) + 1 := by omega
        obtain ⟨ck, hck⟩ : ∃ ck, (p ++ [c])[k]? = some ck := ⟨_, List.getElem?_eq_getElem (by rw [hpl]; exact hlt)⟩
        obtain ⟨zk, f, C, cells⟩ := hcsH.out.at2 (k := k) (c := ck) hck
        obtain ⟨c0, c1⟩ := cells wr ((Kp.refl _ _).below H.below)
        have hf1 := C.put.one
        have hzk := C.le
        obtain ⟨s1, hs1⟩ : ∃ s1, s1 = z + zk := ⟨_, rfl⟩
        obtain ⟨m1, hm1⟩ : ∃ m1, m1 = min s1 1048576 := ⟨_, rfl⟩
        obtain ⟨f1, f2, f3⟩ := min_facts s1 m1 hm1
        have hm2 : m1 ≤ 1048576 := hm1 ▸ Nat.min_le_right _ _
        have hS2 : Hid (SzOk m1 (sumN ((p ++ [c]).take (k + 1)))) := by
          have h1 := hS.out.add C.sz
          have h2 : sumN [ck] = ck.n := rfl
          show SzOk m1 _
          rw [take_snoc hck, sumN_append, hm1, hs1, h2]
          exact h1
        have e1 : IntKind.i64.wrap ((z : Int) + (zk : Int)) = (s1 : Int) := by rw [IntKind.wrap_i64]; omega
        have e2 : wrap64 ((z : Int) + (zk : Int)) = (s1 : Int) := by rw [w64 _ (by clear e1; omega)]; clear e1; omega
        have hld := hide (loadCc c0 c1)
        have hltH := hide hlt
        replace C := hide C
        replace cells := hide cells
        replace hs1 := hide hs1
        replace hm1 := hide hm1
        clear c0 c1
        go_wp2_with (first | ((with_reducible refine at_load 66 ?_); refine wl_loadA 66 rfl hld.out ?_) | ((with_reducible refine at_alloc 66 ?_); refine wl_allocC H ?_; clear H; intro g8 w8 H q5 q6) | ((with_reducible refine at_store 66 ?_); refine wl_storeC 0 H rfl rfl rfl hf1 ?_; clear H; intro w9 H) | ((with_reducible refine at_load 3 ?_); refine wl_ld3 0 0 H (v := .int .i64 (zk : Int)) rfl rfl rfl ?_))
        go_roundw
        case rel => exact ⟨k + 1, m1, hltH.out, by go_num, rfl, hm2, hS2, H.tail⟩
        case measure => have := hltH.out; simp [intOf]; omega
      · obtain rfl : k = p.length + 1 := by omega
        have hS2 : SzOk z (sumN (p ++ [c])) := by
          have := hS.out
          rwa [List.take_of_length_le (by rw [hpl]; exact Nat.le_refl _)] at this
        have hsp := @sumN_append p [c]
        have hcp2 := c.pos
        have i4 : ¬ ((p.length : Int) + 1 < (p.length : Int) + 1) := by omega
        replace hS2 := hide hS2
        clear hlt
        go_wp2_with (first | ((with_reducible refine at_load 149 ?_); refine wl_ld99 1 0 H rfl rfl rfl ?_) | ((with_reducible refine at_alloc 3 ?_); refine wl_alloc3 H ?_; clear H; intro g6 w6 H q7 q8) | ((with_reducible refine at_store 3 ?_); refine wl_st3 0 H rfl rfl rfl ?_; clear H; intro w7 H) | ((with_reducible refine at_build 66 ?_); refine wl_val (run_buildC _ z (.func 92) #[] #[.pointer (some ⟨g1, 0, none⟩), .pointer (some ⟨g6, 0, none⟩)] rfl rfl _) ?_) | ((with_reducible refine at_store 66 ?_); refine wl_storeC 1 (z' := z) (f' := .func (.func 92) #[] #[.pointer (some ⟨g1, 0, none⟩), .pointer (some ⟨g6, 0, none⟩)]) H rfl rfl rfl rfl ?_; clear H; intro w3 H))
        refine bodyPost_ret (results_cell0 rfl _ _ _ _ rfl (loadC (H.get 1 rfl))) rfl ?_
        have hb := H.below
        have k1 := H.get 2 rfl
        have k2 := H.get 0 rfl
        have hnd := H.nd
        simp only [List.map_cons, List.map_nil, List.set_cons_zero, List.set_cons_succ, List.nodup_cons, List.mem_cons, List.not_mem_nil, or_false, not_or] at hnd
        have hq := hcsH.out.below hb
        have l1 := (Array.getElem?_eq_some_iff.1 k1).1
        have l2 := (Array.getElem?_eq_some_iff.1 k2).1
        refine ⟨z, _, rfl, ⟨?_, hz, 92, _, rfl, clo61, fun W v I m hK hr hv hl hm => ?_⟩, hb⟩
        · have e : (sqn (p ++ [c])).n = sumN (p ++ [c]) := by
            show max 1 (sumN (p ++ [c])) = _
            rw [hsp]; simp only [sumN]; omega
          rw [e]
          exact hS2.out
        · refine seq1_any g1 g6 _ p c b W v I m (hK.get k1 (fun h => by have := hR _ h; omega)) (hK.get k2 (fun h => by have := hR _ h; omega)) (fun e => hnd.1.2 e.symm) (hq.mono hK (fun k hk => hv k hk)) ⟨fun h => ?_, fun h => ?_⟩ hr hl hm
          · rcases hv _ h with h | h
            · have := hR _ h; omega
            · omega
          · rcases hv _ h with h | h
            · have := hR _ h; omega
            · omega
end Go.Proofs.YtkfdikpnnkbgaaaGreatDoor
