/-
  choice.
-/
import Derived.Test.YtkfdikpnnkbgaaaGreatDoorCF
namespace Go.Proofs.YtkfdikpnnkbgaaaGreatDoor
open Go.RowKit
set_option linter.unusedVariables false
set_option linter.unusedSimpArgs false

set_option maxHeartbeats 2000000 in
set_option maxRecDepth 100000 in
theorem choice_any (R : Nat → Prop) (sv : Value) (cs : List Cd) (w : World) (hcs : CsV cap R w sv cs) (hlen : cs.length ≤ 100000) (hR : ∀ k, R k → k < w.heap.size) : Calls Tryz.prog 94 #[sv] w (CodeP cap R w (chc cs)) := by
  have H := St.start Nope w
  rcases Nat.eq_zero_or_pos cs.length with h0 | h0
  · obtain rfl : cs = [] := List.eq_nil_of_length_eq_zero h0
    obtain ⟨a, c, rfl, _⟩ := hcs.val
    replace hcs := hide hcs
    simp only [List.length_nil]
    go_enter Tryz.func94, Tryz.ntmps94
    go_wp2_with (first | ((with_reducible refine at_box 149 ?_); refine wl_box99 H rfl ?_; clear H; intro g1 w1 H q1 q2) | ((with_reducible refine at_alloc 66 ?_); refine wl_allocC H ?_; clear H; intro g2 w2 H q3 q4) | ((with_reducible refine at_load 149 ?_); refine wl_ld99 1 0 H rfl rfl rfl ?_) | ((with_reducible refine at_build 102 ?_); refine wl_val (run_buildI1 _ 1 rfl _) ?_))
    have hb := H.below
    have hlt := H.lti 0 rfl
    refine (single_any (fun k => R k ∨ k = g2) ⟨1, noSet, 0, 0⟩ _ (fun k hk => by have := hb.size; rcases hk with hk | hk; have := hR k hk; omega; omega)).mono ?_
    rintro e w3 ⟨z, f, rfl, C, B3⟩
    obtain ⟨nf, caps, hf, _⟩ := C.put
    subst hf
    have BB := H.below.trans (B3.mono H.below.size)
    have H3 := (H.call B3 (Nat.le_refl _)).only
    clear H
    replace C := hide C
    go_wp2_with (first | ((with_reducible refine at_store 66 ?_); refine wl_storeC 0 (z' := z) (f' := .func (.func nf) #[] caps) H3 rfl rfl rfl rfl ?_; clear H3; intro w4 H3))
    refine bodyPost_ret (results_cell0 rfl _ _ _ _ rfl (loadC (H3.get 0 rfl))) rfl ?_
    exact CodeP.stored BB (C.out.congr rfl (fun a m => rfl)) H3.but q3
  · obtain ⟨p, c, rfl⟩ := list_end cs h0
    have hpl : (p ++ [c]).length = p.length + 1 := by simp
    obtain ⟨g, cp, rfl, hcp, hcm, hgs, hRg⟩ := hcs.val2 h0
    rw [hpl] at hcp hcs hlen ⊢
    unfold maxLen at hcm
    have hz0 : ((p.length : Int) + 1 == 0) = false := beq_eq_false_iff_ne.2 (by omega)
    have e0 : IntKind.i64.wrap ((p.length : Int) + 1 - 1) = (p.length : Int) := by rw [IntKind.wrap_i64]; omega
    have i1 : (p.length : Int) ≤ (cp : Int) := by clear e0; omega
    have i2 : (0 : Int) ≤ (p.length : Int) := by clear e0; omega
    have i0 : (p.length : Int) < (p.length : Int) + 1 := by clear e0; omega
    obtain ⟨zl, fl, Cl, cellsl⟩ := hcs.at2 (k := p.length) (c := c) (by simp)
    have hcsH := hide hcs
    have hzl := Cl.le
    have hzl2 : zl ≤ 1048576 := hzl
    have hSl := hide Cl.sz
    have hc0 : Hid (∀ w', Below w.heap.size w w' → w'.cell? ⟨g, p.length * 2, none⟩ = some (.int .i64 (zl : Int))) := fun w' hb => (cellsl w' ((Kp.refl _ _).below hb)).1
    clear hcs h0 Cl cellsl hzl
    go_enter Tryz.func94, Tryz.ntmps94
    go_wp2_with (first | ((with_reducible refine at_box 149 ?_); refine wl_box99 H rfl ?_; clear H; intro g1 w1 H q1 q2) | ((with_reducible refine at_alloc 66 ?_); refine wl_allocC H ?_; clear H; intro g2 w2 H q3 q4) | ((with_reducible refine at_alloc 3 ?_); refine wl_alloc3 H ?_; clear H; intro g3 w3 H q5 q6) | ((with_reducible refine at_store 3 ?_); refine wl_st3 0 (v := (p.length : Int)) H rfl rfl rfl ?_; clear H; intro w4 H) | ((with_reducible refine at_load 149 ?_); first | (refine wl_ld99 2 0 H rfl rfl rfl ?_) | (refine wl_ld99 1 0 H rfl rfl rfl ?_)) | ((with_reducible refine at_load 3 ?_); first | (refine wl_ld3 0 0 H (v := .int .i64 (p.length : Int)) rfl rfl rfl ?_) | (refine wl_loadA 3 rfl (ld3 (hc0.out _ H.below)) ?_)))
    go_loopw [4, 24] (fun zv iv wr => ∃ (k z : Nat), k ≤ p.length ∧ iv = .int .i64 (k : Int) ∧ zv = .int .i64 (z : Int) ∧ z ≤ 1048576 ∧ Hid (SzOk z (c.n + cpN (p.take k))) ∧ Hid (St Nope w wr [(true, g3, 3, #[.int .i64 (p.length : Int)]), (true, g2, 66, cdA 0 .nilFunc), (true, g1, 149, #[.slice (some ⟨g, 0, none⟩) (p.length + 1) cp])])) (fun _ iv _ => p.length - (intOf iv).toNat)
    case atStart => exact ⟨0, zl, Nat.zero_le _, rfl, rfl, hzl2, by simpa [cpN, Hid] using hSl.out, H⟩
    case round =>
      clear H
      obtain ⟨k, z, hk, rfl, rfl, hz, hS, H⟩ := hrel
      replace H := H.out
      by_cases hlt : k < p.length
      · have i3 : (k : Int) < (p.length : Int) := by clear e0; omega
        obtain ⟨ck, hck⟩ : ∃ ck, p[k]? = some ck := ⟨_, List.getElem?_eq_getElem hlt⟩
        obtain ⟨zk, f, C, cells⟩ := hcsH.out.at2 (k := k) (c := ck) (by rw [List.getElem?_append_left hlt]; exact hck)
        obtain ⟨c0, c1⟩ := cells wr ((Kp.refl _ _).below H.below)
        have hf1 := C.put.one
        have hzk : zk ≤ 1048576 := C.le
        obtain ⟨s0, hs0⟩ : ∃ s0, s0 = z + 1 := ⟨_, rfl⟩
        obtain ⟨s1, hs1⟩ : ∃ s1, s1 = s0 + zk := ⟨_, rfl⟩
        obtain ⟨m1, hm1⟩ : ∃ m1, m1 = min s1 1048576 := ⟨_, rfl⟩
        obtain ⟨f1, f2, f3⟩ := min_facts s1 m1 hm1
        have hm2 : m1 ≤ 1048576 := hm1 ▸ Nat.min_le_right _ _
        have hS2 : Hid (SzOk m1 (c.n + cpN (p.take (k + 1)))) := by
          have h1 := hS.out.add1 C.sz
          have h2 : cpN [ck] = 1 + ck.n := rfl
          show SzOk m1 _
          rw [take_snoc hck, cpN_append, hm1, hs1, hs0, h2, ← Nat.add_assoc]
          exact h1
        have e1 : IntKind.i64.wrap ((z : Int) + 1) = (s0 : Int) := by rw [IntKind.wrap_i64]; clear e0 f1 f2 f3; omega
        have e2 : IntKind.i64.wrap ((s0 : Int) + (zk : Int)) = (s1 : Int) := by rw [IntKind.wrap_i64]; clear e0 e1 f1 f2 f3; omega
        have hld := hide (loadCc c0 c1)
        have hltH := hide hlt
        replace C := hide C
        replace cells := hide cells
        replace hs0 := hide hs0
        replace hs1 := hide hs1
        replace hm1 := hide hm1
        clear c0 c1
        go_wp2_with (first | ((with_reducible refine at_load 66 ?_); refine wl_loadA 66 rfl hld.out ?_) | ((with_reducible refine at_alloc 66 ?_); refine wl_allocC H ?_; clear H; intro g8 w8 H q5 q6) | ((with_reducible refine at_store 66 ?_); refine wl_storeC 0 H rfl rfl rfl hf1 ?_; clear H; intro w9 H) | ((with_reducible refine at_load 3 ?_); refine wl_ld3 0 0 H (v := .int .i64 (zk : Int)) rfl rfl rfl ?_))
        go_roundw
        case rel => exact ⟨k + 1, m1, hltH.out, by go_num, rfl, hm2, hS2, H.tail⟩
        case measure => have := hltH.out; simp [intOf]; omega
      · obtain rfl : k = p.length := by omega
        have hS2 : SzOk z (chN (p ++ [c])) := by
          have := hS.out
          rw [List.take_length] at this
          rw [chN_snoc, Nat.add_comm]
          exact this
        have i4 : ¬ ((p.length : Int) < (p.length : Int)) := by clear e0; omega
        replace hS2 := hide hS2
        clear hlt
        go_wp2_with (first | ((with_reducible refine at_build 66 ?_); refine wl_val (run_buildC _ z (.func 129) #[] #[.pointer (some ⟨g1, 0, none⟩), .pointer (some ⟨g3, 0, none⟩)] rfl rfl _) ?_) | ((with_reducible refine at_store 66 ?_); refine wl_storeC 1 (z' := z) (f' := .func (.func 129) #[] #[.pointer (some ⟨g1, 0, none⟩), .pointer (some ⟨g3, 0, none⟩)]) H rfl rfl rfl rfl ?_; clear H; intro w9 H))
        refine bodyPost_ret (results_cell0 rfl _ _ _ _ rfl (loadC (H.get 1 rfl))) rfl ?_
        have hb := H.below
        have k1 := H.get 2 rfl
        have k2 := H.get 0 rfl
        have hnd := H.nd
        simp only [List.map_cons, List.map_nil, List.set_cons_zero, List.set_cons_succ, List.nodup_cons, List.mem_cons, List.not_mem_nil, or_false, not_or] at hnd
        have hq := hcsH.out.below hb
        have l1 := (Array.getElem?_eq_some_iff.1 k1).1
        have l2 := (Array.getElem?_eq_some_iff.1 k2).1
        clear e0
        refine ⟨z, _, rfl, ⟨hS2.out, hz, 129, _, rfl, clo82, fun W v I m hK hr hv hl hm => ?_⟩, hb⟩
        refine cho1_any g1 g3 _ p c cap (by decide) W v I m (hK.get k1 (fun h => by have := hR _ h; omega)) (hK.get k2 (fun h => by have := hR _ h; omega)) (fun e => hnd.1.2 e.symm) (hq.mono hK (fun k hk => hv k hk)) ⟨fun h => ?_, fun h => ?_⟩ hr hl hm
        · rcases hv _ h with h | h
          · have := hR _ h; omega
          · omega
        · rcases hv _ h with h | h
          · have := hR _ h; omega
          · omega
end Go.Proofs.YtkfdikpnnkbgaaaGreatDoor
