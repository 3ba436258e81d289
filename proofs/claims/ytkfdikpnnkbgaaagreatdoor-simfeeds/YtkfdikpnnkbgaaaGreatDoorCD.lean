/-
  sequence and its closure.
-/
import Derived.Test.YtkfdikpnnkbgaaaGreatDoorCC
namespace Go.Proofs.YtkfdikpnnkbgaaaGreatDoor
open Go.RowKit
set_option linter.unusedVariables false
set_option linter.unusedSimpArgs false

theorem CsV.val2 {b : Nat} {R : Nat → Prop} {w : World} {v : Value} {cs : List Cd} (h : CsV b R w v cs) (h0 : 0 < cs.length) : ∃ g cp, v = .slice (some ⟨g, 0, none⟩) cs.length cp ∧ cs.length ≤ cp ∧ cp ≤ maxLen ∧ g < w.heap.size ∧ ¬ R g := by
  obtain ⟨xs, o, hb, hc⟩ := h
  rcases o.2 with ⟨_, h1⟩ | ⟨g, cap, cur, rfl, _, hg, h4, h5, _⟩
  · omega
  · exact ⟨g, cap, rfl, h4, h5, (Array.getElem?_eq_some_iff.1 hg).1, hb g rfl⟩
theorem CsV.at2 {b : Nat} {R : Nat → Prop} {w : World} {g n cp : Nat} {cs : List Cd} (h : CsV b R w (.slice (some ⟨g, 0, none⟩) n cp) cs) {k : Nat} {c : Cd} (hk : cs[k]? = some c) : ∃ z f, CdOk b R w z f c ∧ ∀ W, Kp R w W → W.cell? ⟨g, k * 2, none⟩ = some (.int .i64 ((z : Nat) : Int)) ∧ W.cell? ⟨g, k * 2 + 1, none⟩ = some f := by
  obtain ⟨g', cp', z, f, e, _, _, _, h1, h2⟩ := h.at hk
  cases e
  exact ⟨z, f, h1, h2⟩
theorem sumN_len : ∀ l : List Cd, l.length ≤ sumN l
  | [] => Nat.le_refl _
  | c :: r => by have := c.pos; have := sumN_len r; simp only [List.length_cons, sumN]; omega
theorem sumN_take (l : List Cd) (k : Nat) : sumN (l.take k) ≤ sumN l := by
  have := sumN_append (l.take k) (l.drop k)
  rw [List.take_append_drop] at this
  omega
theorem take_snoc {l : List Cd} {k : Nat} {c : Cd} (h : l[k]? = some c) : l.take (k + 1) = l.take k ++ [c] := by rw [List.take_add_one, h]; rfl
/-- Between two rounds of a put: the row, and what has turned. -/
structure PI (W : World) (v : Value) (wr : World) (u : Value) (J : List Ins) : Prop where
  row : RI wr u J
  but : But (fun k => v.ownBlock = some k) W wr
  own : ∀ k, u.ownBlock = some k → v.ownBlock = some k ∨ W.heap.size ≤ k
theorem PI.kp {W wr : World} {v u : Value} {J : List Ins} (h : PI W v wr u J) : Kp (fun k => v.ownBlock = some k) W wr := (Kp.refl _ W).but h.but (fun i h => .inl h)
theorem PI.below {W wr w' : World} {v u : Value} {J : List Ins} (h : PI W v wr u J) (hb : Below wr.heap.size wr w') : PI W v w' u J := ⟨h.row.below hb, h.but.trans (T := fun _ => False) ⟨hb.os, hb.tape, hb.output, hb.size, fun k hk _ => hb.block k hk⟩ (fun _ _ h => h.elim), h.own⟩
theorem PI.put {W wr w' : World} {v u u' : Value} {J J' : List Ins} (h : PI W v wr u J) (hp : PutE wr u J' (.returned u') w') : PI W v w' u' J' := by
  obtain ⟨_, e, h1, h2, h3⟩ := PutE.after h.but h.own hp
  cases e
  exact ⟨h1, h2, h3⟩
theorem PI.putE {W wr w' : World} {v u : Value} {J J' : List Ins} {e : Ending} (h : PI W v wr u J) (hp : PutE wr u J' e w') : PutE W v J' e w' := PutE.after h.but h.own hp
/-- Two boxes to be read. -/
theorem St.ro2 {w : World} {g1 g2 : Nat} {t1 t2 : TypeId} {xs ys : Array Value} (h1 : w.heap[g1]? = some (.cells xs t1 (0, 0))) (h2 : w.heap[g2]? = some (.cells ys t2 (0, 0))) (hne : g1 ≠ g2) : St Nope w w [(false, g1, t1, xs), (false, g2, t2, ys)] :=
  ((St.start Nope w).ro h2 (fun _ h => (List.not_mem_nil h).elim)).ro h1 (fun x h => by rw [List.mem_singleton.1 h]; exact fun e => hne e.symm)
set_option maxHeartbeats 300000 in
set_option maxRecDepth 100000 in
theorem seq1_any (gp gl : Nat) (sv : Value) (p : List Cd) (c : Cd) (b : Nat) (W : World) (v : Value) (I : List Ins) (m : Nat) (hgp : W.heap[gp]? = some (.cells #[sv] 149 (0, 0))) (hgl : W.heap[gl]? = some (.cells #[.int .i64 (p.length : Int)] 3 (0, 0))) (hne : gp ≠ gl) (hcs : CsV b (fun k => v.ownBlock = some k) W sv (p ++ [c])) (hn : v.ownBlock ≠ some gp ∧ v.ownBlock ≠ some gl) (hr : RI W v I) (hl : I.length + max 1 (sumN (p ++ [c])) ≤ 100000) (hm : m ≤ 100000) :
    Calls Tryz.prog 92 #[v, .int .i64 ((m : Nat) : Int), .pointer (some ⟨gp, 0, none⟩), .pointer (some ⟨gl, 0, none⟩)] W (PutE W v (I ++ sqP (p ++ [c]) I.length m)) := by
  obtain ⟨g, cp, rfl, hcp, hcm, hgs, hRg⟩ := hcs.val2 (by simp)
  have hpl : (p ++ [c]).length = p.length + 1 := by simp
  rw [hpl] at hgp hcp hcs
  have H := St.ro2 hgp hgl hne
  have hsum : I.length + sumN p + c.n ≤ 100000 := by rw [sumN_append] at hl; simp only [sumN] at hl; omega
  have hplen := sumN_len p
  unfold maxLen at hcm
  have hP : PI W v W v I := ⟨hr, But.refl _ _, fun k hk => .inl hk⟩
  obtain ⟨a, cv, hv⟩ := hr.val
  have hP2 : Hid (PI W v W (.slice a I.length cv) I) := hv ▸ hP
  have hIl : Hid (I.length = I.length + sumN (p.take 0)) := by simp [Hid, sumN]
  rw [sqP_snoc]
  have hcs' := hide hcs
  replace hgp := hide hgp
  replace hgl := hide hgl
  replace hn := hide hn
  have hvs : Hid (v = .slice a I.length cv) := hv
  generalize hJ : I ++ (preP p I.length ++ c.put (I.length + sumN p) m) = J
  replace hJ := hide hJ
  clear hcs hr hl hv hP
  have i1 : (p.length : Int) ≤ (cp : Int) := by omega
  have i2 : (0 : Int) ≤ (p.length : Int) := by omega
  have i0 : (p.length : Int) < (p.length : Int) + 1 := by omega
  go_enter Tryz.func92, Tryz.ntmps92
  rw [hvs.out]
  go_wp2_with (first | ((with_reducible refine at_load 149 ?_); refine wl_ld99 0 0 H rfl rfl rfl ?_) | ((with_reducible refine at_load 3 ?_); refine wl_ld3 1 0 H (v := .int .i64 (p.length : Int)) rfl rfl rfl ?_))
  clear H
  go_loopw [0, 13] (fun uv iv wr => ∃ (k n : Nat) (ua : Option Addr) (uc : Nat), k ≤ p.length ∧ iv = .int .i64 (k : Int) ∧ uv = .slice ua n uc ∧ Hid (n = I.length + sumN (p.take k)) ∧ Hid (PI W v wr (.slice ua n uc) (I ++ preP (p.take k) I.length))) (fun _ iv _ => p.length - (intOf iv).toNat)
  case atStart => exact ⟨0, I.length, a, cv, Nat.zero_le _, rfl, rfl, hIl, by simpa [preP, Hid] using hP2.out⟩
  case round =>
    obtain ⟨k, n, ua, uc, hk, rfl, rfl, hnk, hPk⟩ := hrel
    have H := St.ro2 (hPk.out.kp.get hgp.out hn.out.1) (hPk.out.kp.get hgl.out hn.out.2) hne
    have hkp := hide hPk.out.kp
    by_cases hlt : k < p.length
    · have i3 : (k : Int) < (p.length : Int) := by omega
      obtain ⟨ck, hck⟩ : ∃ ck, p[k]? = some ck := ⟨_, List.getElem?_eq_getElem hlt⟩
      obtain ⟨z, f, C, cells⟩ := hcs'.out.at2 (k := k) (c := ck) (by rw [List.getElem?_append_left hlt]; exact hck)
      obtain ⟨c0, c1⟩ := cells wr hkp.out
      obtain ⟨nf, caps, rfl, hcl, PF⟩ := C.put
      have ht := take_snoc hck
      have hs1 : sumN (p.take (k + 1)) = sumN (p.take k) + ck.n := by rw [ht, sumN_append]; simp [sumN]
      have hs2 := sumN_take p (k + 1)
      obtain rfl : z = ck.n := C.sz.exact (by unfold cap; omega)
      have hn1 := hnk.out
      obtain ⟨n1, hn2⟩ : ∃ n1, n1 = n + ck.n := ⟨_, rfl⟩
      have hb1 : n + ck.n ≤ 100000 := by omega
      have hb2 : n1 ≤ 100000 := by omega
      have hnk2 : Hid (n1 = I.length + sumN (p.take (k + 1))) := by show n1 = _; omega
      have e1 : IntKind.i64.wrap ((n : Int) + (ck.n : Int)) = (n1 : Int) := by rw [IntKind.wrap_i64]; omega
      have e2 : wrap64 ((n : Int) + (ck.n : Int)) = (n1 : Int) := by rw [w64 _ (by clear e1; omega)]; clear e1; omega
      have hld := hide (loadCc c0 c1)
      have hJl : (I ++ preP (p.take k) I.length).length = n := by rw [List.length_append, preP_len, hn1]
      have PP : Hid (∀ w3, Below wr.heap.size wr w3 → Calls Tryz.prog nf (#[.slice ua n uc, .int .i64 (n1 : Int)] ++ caps) w3 (PutE w3 (.slice ua n uc) (I ++ preP (p.take (k + 1)) I.length))) := fun w3 hb => by
        have := PF w3 (.slice ua n uc) (I ++ preP (p.take k) I.length) n1 (hkp.out.below hb) (hPk.out.row.below hb) (fun j hj => hPk.out.own j hj) (hJl.symm ▸ hb1) hb2
        rw [hJl] at this
        rw [ht, preP_snoc, ← List.append_assoc, ← hn1, ← hn2]
        exact this
      have hPb : Hid (∀ w3, Below wr.heap.size wr w3 → PI W v w3 (.slice ua n uc) (I ++ preP (p.take k) I.length)) := fun w3 hb => hPk.out.below hb
      have hltH := hide hlt
      replace PF := hide PF
      replace C := hide C
      replace cells := hide cells
      replace ht := hide ht
      replace hs1 := hide hs1
      replace hn1 := hide hn1
      replace hn2 := hide hn2
      replace hJl := hide hJl
      clear c0 c1
      go_wp2_with (first | ((with_reducible refine at_load 66 ?_); refine wl_loadA 66 rfl hld.out ?_) | ((with_reducible refine at_alloc 66 ?_); refine wl_allocC H ?_; clear H; intro g8 w8 H q5 q6) | ((with_reducible refine at_store 66 ?_); refine wl_storeC 0 H rfl rfl rfl rfl ?_; clear H; intro w9 H) | ((with_reducible refine at_load 64 ?_); refine wl_ld52 0 1 H (v := .func (.func nf) #[] caps) rfl rfl rfl ?_) | ((with_reducible refine at_load 3 ?_); refine wl_ld3 0 0 H (v := .int .i64 (ck.n : Int)) rfl rfl rfl ?_) | ((with_reducible refine at_clo ?_); refine wl_clo2 (u1 := .slice ua n uc) (u2 := .int .i64 (n1 : Int)) rfl rfl rfl hcl ?_))
      have hb9 := H.below
      refine (PP.out _ hb9).mono ?_
      rintro e w10 hE
      obtain ⟨u', rfl, he⟩ := hE
      have hPn := hide ((hPb.out _ hb9).put ⟨u', rfl, he⟩)
      obtain ⟨ua', uc', rfl⟩ := hPn.out.row.val
      have hl2 : (I ++ preP (p.take (k + 1)) I.length).length = n1 := by rw [List.length_append, preP_len, ← hnk2.out]
      rw [hl2] at hPn ⊢
      refine ⟨_, rfl, ?_⟩
      clear he hb9 H
      go_wp2_with fail
      go_roundw
      case rel => exact ⟨k + 1, n1, ua', uc', hltH.out, by go_num, rfl, hnk2, hPn⟩
      case measure => have := hltH.out; simp [intOf]; omega
    · obtain rfl : k = p.length := by omega
      obtain ⟨z, f, C, cells⟩ := hcs'.out.at2 (k := p.length) (c := c) (by simp)
      obtain ⟨c0, c1⟩ := cells wr hkp.out
      obtain ⟨nf, caps, rfl, hcl, PF⟩ := C.put
      have hn1 := hnk.out
      rw [List.take_length] at hn1 hPk
      have hb1 : n + c.n ≤ 100000 := by omega
      have hJl : (I ++ preP p I.length).length = n := by rw [List.length_append, preP_len, hn1]
      have PP : Hid (Calls Tryz.prog nf (#[.slice ua n uc, .int .i64 (m : Int)] ++ caps) wr (PutE wr (.slice ua n uc) J)) := by
        have := PF wr (.slice ua n uc) _ m hkp.out hPk.out.row (fun j hj => hPk.out.own j hj) (hJl.symm ▸ hb1) hm
        rw [hJl] at this
        rw [← hJ.out, ← List.append_assoc, ← hn1]
        exact this
      have hld := hide (ld52 c1)
      replace PF := hide PF
      replace C := hide C
      replace cells := hide cells
      replace hn1 := hide hn1
      replace hJl := hide hJl
      clear c0 c1 hlt
      go_wp2_with (first | ((with_reducible refine at_load 149 ?_); refine wl_ld99 0 0 H rfl rfl rfl ?_) | ((with_reducible refine at_load 3 ?_); refine wl_ld3 1 0 H (v := .int .i64 (p.length : Int)) rfl rfl rfl ?_) | ((with_reducible refine at_load 64 ?_); refine wl_loadA 64 rfl hld.out ?_) | ((with_reducible refine at_clo ?_); refine wl_clo2 (u1 := .slice ua n uc) (u2 := .int .i64 (m : Int)) rfl rfl rfl hcl ?_))
      refine PP.out.mono ?_
      rintro e w10 ⟨u', rfl, he⟩
      have fin := hide (hPk.out.putE ⟨u', rfl, he⟩)
      refine ⟨u', rfl, ?_⟩
      clear he H
      go_wp2_with fail
      go_ret
      rw [← hvs.out]
      exact fin.out
end Go.Proofs.YtkfdikpnnkbgaaaGreatDoor
