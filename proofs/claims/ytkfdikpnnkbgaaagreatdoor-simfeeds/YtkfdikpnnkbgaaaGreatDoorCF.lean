/-
  choice and its closure.
-/
import Derived.Test.YtkfdikpnnkbgaaaGreatDoorCE
namespace Go.Proofs.YtkfdikpnnkbgaaaGreatDoor
open Go.RowKit
set_option linter.unusedVariables false
set_option linter.unusedSimpArgs false

theorem cpN_len : ∀ l : List Cd, l.length ≤ cpN l
  | [] => Nat.le_refl _
  | c :: r => by have := cpN_len r; simp only [List.length_cons, cpN]; omega
theorem cpN_take (l : List Cd) (k : Nat) : cpN (l.take k) ≤ cpN l := by
  have := cpN_append (l.take k) (l.drop k)
  rw [List.take_append_drop] at this
  omega
set_option maxHeartbeats 2000000 in
set_option maxRecDepth 100000 in
theorem cho1_any (gp gl : Nat) (sv : Value) (p : List Cd) (c : Cd) (b : Nat) (hb0 : b ≤ 2000000) (W : World) (v : Value) (I : List Ins) (m : Nat) (hgp : W.heap[gp]? = some (.cells #[sv] 149 (0, 0))) (hgl : W.heap[gl]? = some (.cells #[.int .i64 (p.length : Int)] 3 (0, 0))) (hne : gp ≠ gl) (hcs : CsV b (fun k => v.ownBlock = some k) W sv (p ++ [c])) (hn : v.ownBlock ≠ some gp ∧ v.ownBlock ≠ some gl) (hr : RI W v I) (hl : I.length + chN (p ++ [c]) ≤ 100000) (hm : m ≤ 100000) :
    Calls Tryz.prog 129 #[v, .int .i64 ((m : Nat) : Int), .pointer (some ⟨gp, 0, none⟩), .pointer (some ⟨gl, 0, none⟩)] W (PutE W v (I ++ chP (p ++ [c]) I.length m)) := by
  obtain ⟨g, cp, rfl, hcp, hcm, hgs, hRg⟩ := hcs.val2 (by simp)
  have hpl : (p ++ [c]).length = p.length + 1 := by simp
  rw [hpl] at hgp hcp hcs
  have H := St.ro2 hgp hgl hne
  have hsum : I.length + cpN p + c.n ≤ 100000 := by rw [chN_snoc] at hl; omega
  have hplen := cpN_len p
  unfold maxLen at hcm
  have hP : PI W v W v I := ⟨hr, But.refl _ _, fun k hk => .inl hk⟩
  obtain ⟨a, cv, hv⟩ := hr.val
  have hP2 : Hid (PI W v W (.slice a I.length cv) I) := hv ▸ hP
  have hIl : Hid (I.length = I.length + cpN (p.take 0)) := by simp [Hid, cpN]
  rw [chP_snoc]
  have hcs' := hide hcs
  replace hgp := hide hgp
  replace hgl := hide hgl
  replace hn := hide hn
  have hvs : Hid (v = .slice a I.length cv) := hv
  generalize hJ : I ++ (cpP p I.length m ++ c.put (I.length + cpN p) m) = J
  replace hJ := hide hJ
  clear hcs hr hl hv hP
  have i1 : (p.length : Int) ≤ (cp : Int) := by omega
  have i2 : (0 : Int) ≤ (p.length : Int) := by omega
  have i0 : (p.length : Int) < (p.length : Int) + 1 := by omega
  go_enter Tryz.func129, Tryz.ntmps129
  rw [hvs.out]
  go_wp2_with (first | ((with_reducible refine at_load 149 ?_); refine wl_ld99 0 0 H rfl rfl rfl ?_) | ((with_reducible refine at_load 3 ?_); refine wl_ld3 1 0 H (v := .int .i64 (p.length : Int)) rfl rfl rfl ?_))
  clear H
  go_loopw [0, 13] (fun uv iv wr => ∃ (k n : Nat) (ua : Option Addr) (uc : Nat), k ≤ p.length ∧ iv = .int .i64 (k : Int) ∧ uv = .slice ua n uc ∧ Hid (n = I.length + cpN (p.take k)) ∧ Hid (PI W v wr (.slice ua n uc) (I ++ cpP (p.take k) I.length m))) (fun _ iv _ => p.length - (intOf iv).toNat)
  case atStart => exact ⟨0, I.length, a, cv, Nat.zero_le _, rfl, rfl, hIl, by simpa [cpP, Hid] using hP2.out⟩
  case round =>
    obtain ⟨k, n, ua, uc, hk, rfl, rfl, hnk, hPk⟩ := hrel
    have H := St.ro2 (hPk.out.kp.get hgp.out hn.out.1) (hPk.out.kp.get hgl.out hn.out.2) hne
    have hkp := hide hPk.out.kp
    by_cases hlt : k < p.length
    · have i3 : (k : Int) < (p.length : Int) := by omega
      obtain ⟨ck, hck⟩ : ∃ ck, p[k]? = some ck := ⟨_, List.getElem?_eq_getElem hlt⟩
      obtain ⟨z, f, C, cells⟩ := hcs'.out.at2 (k := k) (c := ck) (by rw [List.getElem?_append_left hlt]; exact hck)
      obtain ⟨c0, c1⟩ := cells wr hkp.out
      have hf1 := C.put.one
      have ht := take_snoc hck
      have hs1 : cpN (p.take (k + 1)) = cpN (p.take k) + (1 + ck.n) := by rw [ht, cpN_append]; simp [cpN]
      have hs2 := cpN_take p (k + 1)
      obtain rfl : z = ck.n := C.sz.exact (by unfold cap; omega)
      have hn1 := hnk.out
      obtain ⟨n0, hn0⟩ : ∃ n0, n0 = n + 1 := ⟨_, rfl⟩
      obtain ⟨n1, hn2⟩ : ∃ n1, n1 = n0 + ck.n := ⟨_, rfl⟩
      have hb1 : n + (1 + ck.n) ≤ 100000 := by omega
      have hb2 : n1 ≤ 100000 := by omega
      have hnk2 : Hid (n1 = I.length + cpN (p.take (k + 1))) := by show n1 = _; omega
      have e0 : IntKind.i64.wrap ((n : Int) + 1) = (n0 : Int) := by rw [IntKind.wrap_i64]; omega
      have e1 : IntKind.i64.wrap ((n0 : Int) + (ck.n : Int)) = (n1 : Int) := by rw [IntKind.wrap_i64]; clear e0; omega
      have hld := hide (loadCc c0 c1)
      have hJl : (I ++ cpP (p.take k) I.length m).length = n := by rw [List.length_append, cpP_len, hn1]
      have OP : Hid (∀ w3, Below wr.heap.size wr w3 → Calls Tryz.prog 127 #[cdV ck.n f, .int .i64 (n1 : Int)] w3 (CodeP (b + 1) (fun j => (Value.slice ua n uc).ownBlock = some j) w3 (opt ck n1))) := fun w3 hb =>
        option_any _ ck.n f ck n1 w3 b hb0 (C.mono (hkp.out.below hb) (fun j hj => hPk.out.own j hj)) (fun j hj => (hPk.out.row.below hb).lt hj)
      have hPb : Hid (∀ w3, Below wr.heap.size wr w3 → PI W v w3 (.slice ua n uc) (I ++ cpP (p.take k) I.length m)) := fun w3 hb => hPk.out.below hb
      have hJ1 : Hid (I ++ cpP (p.take (k + 1)) I.length m = I ++ cpP (p.take k) I.length m ++ (opt ck n1).put (I ++ cpP (p.take k) I.length m).length m) := by
        show _ = _
        rw [hJl, ht, cpP_snoc, ← List.append_assoc, ← hn1, hn2, hn0]
      have hltH := hide hlt
      have hJlH := hide hJl
      replace C := hide C
      replace cells := hide cells
      replace ht := hide ht
      replace hs1 := hide hs1
      replace hn1 := hide hn1
      replace hn2 := hide hn2
      replace hn0 := hide hn0
      clear c0 c1 hJl
      go_wp2_with (first | ((with_reducible refine at_load 66 ?_); first | (refine wl_loadC 0 H rfl rfl ?_) | (refine wl_loadA 66 rfl hld.out ?_)) | ((with_reducible refine at_alloc 66 ?_); refine wl_allocC H ?_; clear H; intro g8 w8 H q5 q6) | ((with_reducible refine at_store 66 ?_); refine wl_storeC 0 H rfl rfl rfl hf1 ?_; clear H; intro w9 H) | ((with_reducible refine at_load 3 ?_); refine wl_ld3 0 0 H (v := .int .i64 (ck.n : Int)) rfl rfl rfl ?_))
      have hb9 := H.below
      refine (OP.out _ hb9).mono ?_
      rintro e w10 ⟨z1, f1, rfl, C1, B1⟩
      obtain ⟨nf, caps, rfl, hcl, PF⟩ := C1.put
      have hPI := (hPb.out _ hb9).below B1
      have PP := hide (PF w10 _ _ m (Kp.refl _ _) hPI.row (fun j hj => .inl hj) (by rw [hJlH.out]; exact hb1) hm)
      rw [← hJ1.out] at PP
      replace hPI := hide hPI
      replace PF := hide PF
      replace C1 := hide C1
      clear H hb9 B1
      go_wp2_with (first | ((with_reducible refine at_field 66 ?_); refine wl_val (run_fieldC1 _ z1 (.func (.func nf) #[] caps) rfl _) ?_) | ((with_reducible refine at_clo ?_); refine wl_clo2 (u1 := .slice ua n uc) (u2 := .int .i64 (m : Int)) rfl rfl rfl hcl ?_))
      refine PP.out.mono ?_
      rintro e w11 hE
      obtain ⟨u', rfl, he⟩ := hE
      have hPn := hide (hPI.out.put ⟨u', rfl, he⟩)
      obtain ⟨ua', uc', rfl⟩ := hPn.out.row.val
      have hl2 : (I ++ cpP (p.take (k + 1)) I.length m).length = n1 := by rw [List.length_append, cpP_len, ← hnk2.out]
      rw [hl2] at hPn ⊢
      refine ⟨_, rfl, ?_⟩
      clear he
      go_wp2_with fail
      go_roundw
      case rel => exact ⟨k + 1, n1, ua', uc', hltH.out, by go_num, rfl, hnk2, hPn⟩
      case measure => have := hltH.out; simp [intOf]; omega
    · obtain rfl : k = p.length := by omega
      obtain ⟨z, f, C, cells⟩ := hcs'.out.at2 (k := p.length) (c := c) (by simp)
      obtain ⟨c0, c1⟩ := cells wr hkp.out
      obtain ⟨nf, caps, rfl, hcl, PF⟩ := C.put
      have hn1 := hnk.out
      rw [List.take_length] at hn1 hPk
      have hb1 : n + c.n ≤ 100000 := by omega
      have hJl : (I ++ cpP p I.length m).length = n := by rw [List.length_append, cpP_len, hn1]
      have PP : Hid (Calls Tryz.prog nf (#[.slice ua n uc, .int .i64 (m : Int)] ++ caps) wr (PutE wr (.slice ua n uc) J)) := by
        have := PF wr (.slice ua n uc) _ m hkp.out hPk.out.row (fun j hj => hPk.out.own j hj) (hJl.symm ▸ hb1) hm
        rw [hJl] at this
        rw [← hJ.out, ← List.append_assoc, ← hn1]
        exact this
      have hld := hide (ld52 c1)
      replace PF := hide PF
      replace C := hide C
      replace cells := hide cells
      replace hn1 := hide hn1
      replace hJl := hide hJl
      clear c0 c1 hlt
      go_wp2_with (first | ((with_reducible refine at_load 149 ?_); refine wl_ld99 0 0 H rfl rfl rfl ?_) | ((with_reducible refine at_load 3 ?_); refine wl_ld3 1 0 H (v := .int .i64 (p.length : Int)) rfl rfl rfl ?_) | ((with_reducible refine at_load 64 ?_); refine wl_loadA 64 rfl hld.out ?_) | ((with_reducible refine at_clo ?_); refine wl_clo2 (u1 := .slice ua n uc) (u2 := .int .i64 (m : Int)) rfl rfl rfl hcl ?_))
      refine PP.out.mono ?_
      rintro e w10 ⟨u', rfl, he⟩
      have fin := hide (hPk.out.putE ⟨u', rfl, he⟩)
      refine ⟨u', rfl, ?_⟩
      clear he H
      go_wp2_with fail
      go_ret
      rw [← hvs.out]
      exact fin.out
end Go.Proofs.YtkfdikpnnkbgaaaGreatDoor
