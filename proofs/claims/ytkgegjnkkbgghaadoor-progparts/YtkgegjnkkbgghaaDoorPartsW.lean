/-
  The walk of ProgParts.
-/
import Derived.Test.YtkgegjnkkbgghaaDoorFE
import Derived.Test.YtkgegjnkkbgghaaDoorDW
namespace Go.Proofs.YtkgegjnkkbgghaaDoor
open Go.RowKit Go.Shelf Go.Lib
set_option linter.unusedVariables false
set_option linter.unusedSimpArgs false

theorem st27 {S : Nat → Prop} {w0 w : World} {L : List Ent} (H : St S w0 w L) (i : Nat) {g : Nat} {k : Int} {s : S4} {l : Value} {mn mx : Int} (h : L[i]? = some (true, g, 27, reA k s l mn mx)) (k' : Int) (s' : S4) (l' : Value) (mn' mx' : Int) (hl : l'.oneCell' = true) : (storeVar 27 ⟨g, 0, none⟩ (reV k' s' l' mn' mx')).run Tryd.prog w = .ok () (w.setRow g (reA k' s' l' mn' mx')) := store28r (H.get i h) hl
theorem RI.loadI {w : World} {v : Value} {L : List Ins} (h : RI w v L) {k : Nat} {i : Ins} (hk : L[k]? = some i) : ∃ g c, v = .slice (some ⟨g, 0, none⟩) L.length c ∧ (loadVar 45 ⟨g, k * 7, none⟩).run Tryd.prog w = .ok (insV i) w := by
  obtain ⟨g, c, e, _, hc⟩ := h.at hk
  exact ⟨g, c, e, loadIc hc⟩
theorem prg_goes2 (t : Tr) (hf : fitT t) (hn : ((prg t).put 0 0).length ≤ 3000) : ∀ x ∈ (prg t).put 0 0, (0 ≤ x.x ∧ x.x ≤ 3000) ∧ (0 ≤ x.y ∧ x.y ≤ 3000) := by
  intro x hx
  have hl := (prg t).len 0 0
  have hN := cdT_nice t hf
  rw [hl, prg_n] at hn
  rw [prg_put] at hx
  rcases List.mem_append.1 hx with hx | hx
  · have := hN.ops 0 (cdT t).n x hx
    rw [Nat.zero_add] at this
    obtain ⟨h1, h2⟩ := this
    have hx2 := tgt_in h2 (Nat.le_refl _)
    refine ⟨by omega, ?_⟩
    rcases h1 with ⟨_, hy⟩ | ⟨_, _, hy⟩ | ⟨_, _, hy⟩
    · omega
    · omega
    · have := tgt_in hy (Nat.le_refl _); omega
  · rw [List.mem_singleton.1 hx]
    simp
theorem slice_cell {w : World} {P : Nat → Prop} {t : Tr} {u : Value} (T : TrV w P (reV t.1.k t.1.s u t.1.mn t.1.mx) t) : ∃ a n c, u = .slice a n c := by
  obtain ⟨va, vn, vc, hx⟩ := T.val
  simp only [reV, reA, Value.agg.injEq] at hx
  have := congrArg (fun a => a[5]?) hx
  simp at this
  exact ⟨_, _, _, this⟩
theorem run_ld45x {w : World} {dst : Option Nat} {x : Operand} {ty : TypeId} {pos : String} {after : Array Edge} (ev : Operand → Value) {ad : Addr} {v : Value} (hx : ev x = .pointer (some ad)) (hr : (loadVar 45 ad).run Tryd.prog w = .ok v w) : (execOp ev ⟨dst, .load 45 x, ty, pos, after, none⟩).run Tryd.prog w = .ok (.value v) w := by
  unfold execOp
  simp only [hx, Instr.loadAt, Instr.sureAddr, Sem.run_bind, Sem.run_pure, Result.andThen_ok, hr]
theorem guard45 : Tryd.prog.eqGuardType Tryd.prog.depth 45 = false := by kernel_rfl
theorem run_neqIx {w : World} {dst : Option Nat} {x y : Operand} {ty : TypeId} {pos : String} {after : Array Edge} (ev : Operand → Value) (p : Ins) (hx : ev x = insV p) (hy : ev y = insV p) : (execOp ev ⟨dst, .binOp .neq 45 x y 45, ty, pos, after, none⟩).run Tryd.prog w = .ok (.value (.bool false)) w := by
  have hg : (eqGuard .neq 45 x y (insV p) (insV p)).run Tryd.prog w = .ok () w := run_eqGuard_agg w .neq 45 x y (insA p) (insA p) guard45
  unfold execOp
  simp only [hx, hy, Sem.run_bind, hg, run_neqI, Result.andThen_ok, Sem.run_pure]
set_option maxHeartbeats 4000000 in
set_option maxRecDepth 100000 in
theorem partsW (cs1 cs2 : Array Value) (w : World) (hT : Tab w) (hP : Pw w) (hA1 : ∀ d, ArgR w d cs1.toList) (hA2 : ∀ d, ArgR w d cs2.toList) : Calls Tryd.prog 7 #[.agg cs1, .agg cs2] w fun e w' => e = .returned (.bool true) ∧ Below w.heap.size w w' := by
  obtain ⟨k1, s1, a1, n1, c1, mn1, mx1, hcs1, _⟩ := argR_cases (hA1 0)
  obtain rfl : cs1 = reA k1 s1 (.slice a1 n1 c1) mn1 mx1 := by
    apply Array.ext'
    exact hcs1
  obtain ⟨k2, s2, a2, n2, c2, mn2, mx2, hcs2, _⟩ := argR_cases (hA2 0)
  obtain rfl : cs2 = reA k2 s2 (.slice a2 n2 c2) mn2 mx2 := by
    apply Array.ext'
    exact hcs2
  show Calls Tryd.prog 7 #[reV k1 s1 (.slice a1 n1 c1) mn1 mx1, reV k2 s2 (.slice a2 n2 c2) mn2 mx2] w _
  have WK := hide (fun w' (hb : Below w.heap.size w w') => works_any w' (hT.below hb) (hP.below hb))
  have SM1 := hide (fun w' (hb : Below w.heap.size w w') => some_any _ w' (fun d => (hA1 d).kept hb))
  have SM2 := hide (fun w' (hb : Below w.heap.size w w') => some_any _ w' (fun d => (hA2 d).kept hb))
  clear hcs1 hcs2 hA1 hA2
  have H := St.start Nope w
  have m0 := trivial
  go_enter Tryd.func7, Tryd.ntmps7
  go_wp2_with (first | ((with_reducible refine at_box 27 ?_); clear m0; refine wl_box28 H rfl ?_; clear H; intro g2 w1 H q1 q2) | ((with_reducible refine at_box 27 ?_); refine wl_box28 H rfl ?_; clear H; intro g3 w1 H q3 q4))
  refine (WK.out w1 H.below).mono ?_
  rintro e w2 ⟨rfl, B2⟩
  replace H := H.call B2 (Nat.le_refl _)
  have HB2 := hide H.below
  replace H := hide H
  clear B2
  go_wp2_with fail
  refine reg7_3 w2 g2 g3 _ _ (load28 (H.out.drew.get 1 rfl)) (load28 (H.out.drew.get 0 rfl)) _ _ _ _ _ _ _ _ _ _ _ _ _ _ _ _ _ _ _ _ _ _ _ _ _ _ _ _ _ _ _ _ _ _ _ _ _ _ _ _ _ _ _ _ _ _ _ _ _ _ _ _ _ _ _ _ _ _ _ _ _ _ _ _ _ _ _ _ _ _ _ _ _ _ _ _ _ _ _ _ _ _ _ _ _ _ _ _ _ _ _ _ _ _ _ _ _ _ _ _ _ _ _ ?_
  refine (SM1.out w2.drew HB2.out.drew).mono ?_
  rintro e w4 ⟨t1, u1, rfl, T1, hz1, B4⟩
  have H4 := H.out.drew.call B4 (Nat.le_refl _)
  refine ⟨_, rfl, load28 (H4.get 0 rfl), ?_⟩
  refine (SM2.out w4 H4.below).mono ?_
  rintro e w5 ⟨t2, u2, rfl, T2, hz2, B5⟩
  have H5 := H4.call B5 (Nat.le_refl _)
  obtain ⟨ua1, un1, uc1, rfl⟩ := slice_cell T1
  obtain ⟨ua2, un2, uc2, rfl⟩ := slice_cell T2
  have T1' := T1.kept (fun b _ hl => B5.block b hl)
  have H6 : St Nope w (w5.setRow g2 (reA t1.1.k t1.1.s (.slice ua1 un1 uc1) t1.1.mn t1.1.mx)) [(true, g3, 27, reA k2 s2 (.slice a2 n2 c2) mn2 mx2), (true, g2, 27, reA t1.1.k t1.1.s (.slice ua1 un1 uc1) t1.1.mn t1.1.mx)] := H5.setRow 1 rfl _
  have H7 : St Nope w ((w5.setRow g2 (reA t1.1.k t1.1.s (.slice ua1 un1 uc1) t1.1.mn t1.1.mx)).setRow g3 (reA t2.1.k t2.1.s (.slice ua2 un2 uc2) t2.1.mn t2.1.mx)) [(true, g3, 27, reA t2.1.k t2.1.s (.slice ua2 un2 uc2) t2.1.mn t2.1.mx), (true, g2, 27, reA t1.1.k t1.1.s (.slice ua1 un1 uc1) t1.1.mn t1.1.mx)] := H6.setRow 0 rfl _
  have l2 := H.out.lti 1 rfl
  have l3 := H.out.lti 0 rfl
  have l4 := B4.size
  have hd : w2.drew.heap.size = w2.heap.size := rfl
  refine ⟨_, _, _, rfl, st27 H5 1 rfl _ _ _ _ _ rfl, st27 H6 0 rfl _ _ _ _ _ rfl, ?_⟩
  have TA : Hid (∀ w', Below ((w5.setRow g2 (reA t1.1.k t1.1.s (.slice ua1 un1 uc1) t1.1.mn t1.1.mx)).setRow g3 (reA t2.1.k t2.1.s (.slice ua2 un2 uc2) t2.1.mn t2.1.mx)).heap.size ((w5.setRow g2 (reA t1.1.k t1.1.s (.slice ua1 un1 uc1) t1.1.mn t1.1.mx)).setRow g3 (reA t2.1.k t2.1.s (.slice ua2 un2 uc2) t2.1.mn t2.1.mx)) w' → TrV w' (fun b => w2.heap.size ≤ b) (reV t1.1.k t1.1.s (.slice ua1 un1 uc1) t1.1.mn t1.1.mx) t1 ∧ TrV w' (fun b => w2.heap.size ≤ b) (reV t2.1.k t2.1.s (.slice ua2 un2 uc2) t2.1.mn t2.1.mx) t2) := fun w' hb => by
    have keep : ∀ b, w2.heap.size ≤ b → b < w5.heap.size → w'.heap[b]? = w5.heap[b]? := fun b h1 h2 => by
      rw [hb.block b (by simp; exact h2), setRow_other _ _ _ _ (by omega), setRow_other _ _ _ _ (by omega)]
    exact ⟨T1'.kept keep, (T2.mono (P' := fun b => w2.heap.size ≤ b) (fun b _ h => by omega)).kept keep⟩
  have l5 := B5.size
  have hs7 : w2.heap.size ≤ ((w5.setRow g2 (reA t1.1.k t1.1.s (.slice ua1 un1 uc1) t1.1.mn t1.1.mx)).setRow g3 (reA t2.1.k t2.1.s (.slice ua2 un2 uc2) t2.1.mn t2.1.mx)).heap.size := by simp; omega
  generalize (w5.setRow g2 (reA t1.1.k t1.1.s (.slice ua1 un1 uc1) t1.1.mn t1.1.mx)).setRow g3 (reA t2.1.k t2.1.s (.slice ua2 un2 uc2) t2.1.mn t2.1.mx) = w7 at H7 TA hs7
  have hdp1 := dpT_le t1
  have hdp2 := dpT_le t2
  have hz3 : szT (both t1 t2) = 1 + (szT t1 + szT t2) := by simp [both, szT, Fo.sz]
  have hdp3 : dpT (both t1 t2) ≤ 1 + max (dpT t1) (dpT t2) := by simp only [both, dpT, Fo.dp]; omega
  clear T1 T2 T1' B4 B5 H4 H5 H6 H SM1 SM2 WK
  have HB7 := hide H7.below
  have hs27 := HB2.out.size
  have H := St.start Nope w7
  replace H7 := hide H7
  go_wp2_with (first | ((with_reducible refine at_load 27 ?_); refine wl_loadA 27 rfl (load28 (H7.out.get 1 rfl)) ?_))
  refine (make_all t1 _ _ w7 (TA.out w7 (Below.refl _ _)).1 (by omega) (by omega)).mono ?_
  rintro e w8 ⟨B8, xa, xn, xc, rfl, xno, xok⟩
  replace xno := hide xno
  replace xok := hide xok
  have H8 := hide (H7.out.call B8 (Nat.le_refl _))
  go_wp2_with (first | ((with_reducible refine at_load 27 ?_); refine wl_loadA 27 rfl (load28 (H8.out.get 0 rfl)) ?_))
  refine (make_all t2 _ _ w8 (TA.out w8 B8).2 (by omega) (by omega)).mono ?_
  rintro e w9 ⟨B9, ya, yn, yc, rfl, yno, yok⟩
  replace yno := hide yno
  replace yok := hide yok
  have H9 := hide (H8.out.call B9 (Nat.le_refl _))
  have B79 := hide (B8.trans (B9.mono B8.size))
  go_wp2_with (first | ((with_reducible refine at_load 27 ?_); first | (refine wl_loadA 27 rfl (load28 (H9.out.get 1 rfl)) ?_) | (refine wl_loadA 27 rfl (load28 (H9.out.get 0 rfl)) ?_)) | ((with_reducible refine at_bs25b ?_); refine wl_bs25b rfl rfl ?_) | ((with_reducible refine at_build 27 ?_); refine wl_val (run_build27 _ 2 _ rfl rfl ⟨_, _, _, rfl⟩ _) ?_))
  have T9 := TA.out w9 B79.out
  have hs9 : w2.heap.size ≤ w9.heap.size := by
    have h1 := B79.out.size
    omega
  have TB := both_tr T9.1 T9.2 hs9
  have BA : Below w9.heap.size w9 (w9.alloc (.cells (reA t1.1.k t1.1.s (.slice ua1 un1 uc1) t1.1.mn t1.1.mx ++ reA t2.1.k t2.1.s (.slice ua2 un2 uc2) t2.1.mn t2.1.mx) 27)) := (Below.refl _ w9).alloc (Nat.le_refl _) _
  refine (make_all (both t1 t2) _ _ _ TB (by omega) (by omega)).mono ?_
  rintro e w10 ⟨B10, za, zn, zc, rfl, zno, zok⟩
  have B910 := BA.trans (B10.mono BA.size)
  have HB10 := hide ((HB7.out.trans (B79.out.mono HB7.out.size)).trans (B910.mono (Nat.le_trans HB7.out.size B79.out.size)))
  clear TB T9 BA B10 H TA
  have both0 := hide (mkE_both (t1 := t1) (t2 := t2))
  have m12 := hide (mkE_0 (t := both t1 t2))
  have b12 := hide (both_at (t1 := t1) (t2 := t2))
  have hn12 := hide (both_n t1 t2)
  have len1 := hide ((prg t1).len 0 0)
  have len2 := hide ((prg t2).len 0 0)
  have len3 := hide ((prg (both t1 t2)).len 0 0)
  have pn1 := hide (prg_n t1)
  replace B910 := hide B910
  replace B8 := hide B8
  replace B9 := hide B9
  obtain ⟨E1, hE1⟩ : ∃ E, E = mkE t1 := ⟨_, rfl⟩
  obtain ⟨E2, hE2⟩ : ∃ E, E = mkE t2 := ⟨_, rfl⟩
  obtain ⟨E3, hE3⟩ : ∃ E, E = mkE (both t1 t2) := ⟨_, rfl⟩
  rw [← hE1] at xno xok ⊢
  rw [← hE2] at yno yok ⊢
  rw [← hE3] at zno zok m12 ⊢
  rw [← hE1, ← hE2, ← hE3] at both0
  replace hE1 := hide hE1
  replace hE2 := hide hE2
  replace hE3 := hide hE3
  by_cases e3 : E3 = 0
  case neg =>
    have e3b : (E3 == 0) = false := by simpa using e3
    have e3c : (E3 != 0) = true := bne_iff_ne.2 e3
    by_cases e1 : E1 = 0
    · subst e1
      by_cases e2 : E2 = 0
      · subst e2
        go_wp2_with fail
        go_ret
        exact ⟨rfl, HB10.out⟩
      · have e2b : (E2 == 0) = false := by simpa using e2
        go_wp2_with fail
        go_ret
        exact ⟨rfl, HB10.out⟩
    · have e1b : (E1 == 0) = false := by simpa using e1
      go_wp2_with fail
      go_ret
      exact ⟨rfl, HB10.out⟩
  obtain ⟨e1, e2⟩ := both0.out e3
  obtain ⟨xlen, xr, _⟩ := xok.out e1
  obtain ⟨ylen, yr, _⟩ := yok.out e2
  obtain ⟨zlen, zr, _⟩ := zok e3
  obtain ⟨m1, m2⟩ := m12.out e3
  have hf2 := hide (((both_fit t1 t2).1 m1).2)
  subst e1
  subst e2
  subst e3
  have xr9 := xr.below B9.out
  have xr10 := hide (xr9.below B910.out)
  have yr10 := hide (yr.below B910.out)
  have zr10 := hide zr
  have pos1 := (cdT t1).pos
  have pos2 := (prg t2).pos
  have ln : ((prg (both t1 t2)).put 0 0).length + 1 = ((prg t1).put 0 0).length + ((prg t2).put 0 0).length := by rw [len1.out, len2.out, len3.out]; exact hn12.out
  have lx : ((prg t1).put 0 0).length = (cdT t1).n + 1 := by rw [len1.out, pn1.out]
  have ly : 1 ≤ ((prg t2).put 0 0).length := by rw [len2.out]; exact pos2
  have lz : ((prg (both t1 t2)).put 0 0).length ≤ 2048 := by rw [len3.out]; exact m2
  have GY := hide (prg_goes2 t2 hf2.out (by omega))
  have BT := hide (fun (i : Nat) (z : Ins) hi => b12.out hf2.out (i := i) (z := z) hi)
  clear xok yok zok xno yno zno xr yr zr m12 b12 both0 hn12 m1 m2 len1 len2 len3 pn1 pos1 pos2 xr9
  generalize hc1n : (cdT t1).n = N1 at *
  generalize (prg t1).put 0 0 = LX at *
  generalize (prg t2).put 0 0 = LY at *
  generalize (prg (both t1 t2)).put 0 0 = LZ at *
  subst xlen
  subst ylen
  subst zlen
  have i1 : (LX.length : Int) + (LY.length : Int) - 1 = (LZ.length : Int) := by omega
  have i1b : ((LZ.length : Int) == (LX.length : Int) + (LY.length : Int) - 1) = true := by rw [i1]; simp
  have i2 : (LX.length : Int) - 1 = (N1 : Int) := by omega
  have hx2 : LX.length ≤ 3000 := by omega
  have hy2 : LY.length ≤ 3000 := by omega
  have hx1 : 1 ≤ LX.length := by omega
  have hz1' : 1 ≤ LZ.length := by omega
  have hN : N1 ≤ 3000 := by omega
  have i1c : ((LZ.length : Int) != (LX.length : Int) + (LY.length : Int) - 1) = false := by rw [i1]; simp
  have lxH := hide lx
  have lnH := hide ln
  clear lx ln
  replace hc1n := hide hc1n
  obtain ⟨gx, cx, ex⟩ : ∃ g c, Value.slice xa LX.length xc = .slice (some ⟨g, 0, none⟩) LX.length c := by
    obtain ⟨g, c, e, _⟩ := xr10.out.loadI (k := 0) (i := LX[0]'(by omega)) (List.getElem?_eq_getElem (by omega))
    exact ⟨g, c, e⟩
  obtain ⟨rfl, rfl⟩ : xa = some ⟨gx, 0, none⟩ ∧ xc = cx := by simpa using ex
  have ldx : Hid (∀ w', Below w10.heap.size w10 w' → ∀ k i, LX[k]? = some i → (loadVar 45 ⟨gx, k * 7, none⟩).run Tryd.prog w' = .ok (insV i) w') := fun w' hb k i hk => by
    obtain ⟨g', c', e', h'⟩ := (xr10.out.below hb).loadI hk
    obtain ⟨e1, _⟩ : gx = g' ∧ xc = c' := by simpa using e'
    subst e1
    exact h'
  clear ex
  obtain ⟨gy, cy, ey⟩ : ∃ g c, Value.slice ya LY.length yc = .slice (some ⟨g, 0, none⟩) LY.length c := by
    obtain ⟨g, c, e, _⟩ := yr10.out.loadI (k := 0) (i := LY[0]'(by omega)) (List.getElem?_eq_getElem (by omega))
    exact ⟨g, c, e⟩
  obtain ⟨rfl, rfl⟩ : ya = some ⟨gy, 0, none⟩ ∧ yc = cy := by simpa using ey
  have ldy : Hid (∀ w', Below w10.heap.size w10 w' → ∀ k i, LY[k]? = some i → (loadVar 45 ⟨gy, k * 7, none⟩).run Tryd.prog w' = .ok (insV i) w') := fun w' hb k i hk => by
    obtain ⟨g', c', e', h'⟩ := (yr10.out.below hb).loadI hk
    obtain ⟨e1, _⟩ : gy = g' ∧ yc = c' := by simpa using e'
    subst e1
    exact h'
  clear ey
  obtain ⟨gz, cz, ez⟩ : ∃ g c, Value.slice za LZ.length zc = .slice (some ⟨g, 0, none⟩) LZ.length c := by
    obtain ⟨g, c, e, _⟩ := zr10.out.loadI (k := 0) (i := LZ[0]'(by omega)) (List.getElem?_eq_getElem (by omega))
    exact ⟨g, c, e⟩
  obtain ⟨rfl, rfl⟩ : za = some ⟨gz, 0, none⟩ ∧ zc = cz := by simpa using ez
  have ldz : Hid (∀ w', Below w10.heap.size w10 w' → ∀ k i, LZ[k]? = some i → (loadVar 45 ⟨gz, k * 7, none⟩).run Tryd.prog w' = .ok (insV i) w') := fun w' hb k i hk => by
    obtain ⟨g', c', e', h'⟩ := (zr10.out.below hb).loadI hk
    obtain ⟨e1, _⟩ : gz = g' ∧ zc = c' := by simpa using e'
    subst e1
    exact h'
  clear ez
  go_wp2_with fail
  go_loopw [12] (fun iv wr => ∃ i : Nat, iv = .int .i64 (i : Int) ∧ i ≤ LZ.length ∧ Hid (Below w10.heap.size w10 wr)) (fun iv _ => LZ.length - (RowKit.intOf iv).toNat)
  case atStart => exact ⟨0, rfl, Nat.zero_le _, Below.refl _ _⟩
  case round =>
    obtain ⟨i, rfl, hil, Fr⟩ := hrel
    by_cases hlt : i < LZ.length
    case neg =>
      have j1 : ¬ ((i : Int) < (LZ.length : Int)) := by omega
      have fin := hide (HB10.out.trans (Fr.out.mono HB10.out.size))
      go_wp2_with fail
      go_ret
      exact ⟨rfl, fin.out⟩
    have j1 : (i : Int) < (LZ.length : Int) := by omega
    obtain ⟨z, hz⟩ : ∃ z, LZ[i]? = some z := ⟨_, List.getElem?_eq_getElem hlt⟩
    have H := St.start Nope wr
    have hltH := hide hlt
    rcases BT.out i z hz with ⟨hi1, hxz⟩ | ⟨hi1, y, hyz, hzy⟩
    · have j2 : (i : Int) < (N1 : Int) := by omega
      have j3 : (i : Int) < (LX.length : Int) := by have := lxH.out; omega
      replace hz := hide hz
      replace hxz := hide hxz
      have m1 := trivial
      go_wp2_with (first | ((with_reducible refine at_build 45 ?_); refine wl_val (run_buildI0 _ _) ?_) | ((with_reducible refine at_alloc 45 ?_); refine wl_allocI H ?_; clear H; intro g13 wa H q1 q2) | ((with_reducible refine at_store 45 ?_); clear m1; refine wl_storeI 0 (q := ins0) H rfl rfl rfl ?_; clear H; intro wb H; have ldv := ldx.out wb (Fr.out.trans (H.below.mono Fr.out.size)) i z hxz.out) | ((with_reducible refine at_load 45 ?_); refine wl_loadA 45 rfl ldv ?_) | ((with_reducible refine at_store 45 ?_); refine wl_storeI 0 (q := z) H rfl rfl rfl ?_; clear H; intro wc H))
      refine wp_region_noPanic ?_
      refine wp_region_held_drew (S := (fun w' => (loadVar 45 ⟨gz, i * 7, none⟩).run Tryd.prog w' = .ok (insV z) w' ∧ (loadVar 45 ⟨g13, 0, none⟩).run Tryd.prog w' = .ok (insV z) w')) (by kernel_rfl) ⟨ldz.out _ (Fr.out.trans (H.below.mono Fr.out.size)).drew i _ hz.out, loadI (H.drew.get 0 rfl)⟩ (fun hH0 => ?_)
      refine wpAnyH_take (i := 0) (oi := { dst := some 98, op := Op.move (Operand.tmp 9), type := 29, pos := "law.go:162", after := #[], guard := none }) (v := ?_) rfl (by kernel_rfl) (by kernel_rfl) (by kernel_rfl) (fun _ _ _ h => h) (Or.inl ⟨by rfl, ?_⟩) hH0 ?_
      rotate_left
      · intro w' hw'
        obtain ⟨c1h, c2h⟩ := hw'
        go_simp
        try with_reducible rfl
      try simp only [Act.put, List.setIfInBounds_toArray, List.set_cons_zero, List.set_cons_succ]
      refine wpAnyH_take (i := 1) (oi := { dst := some 99, op := Op.move (Operand.tmp 12), type := 3, pos := "law.go:162", after := #[], guard := none }) (v := ?_) rfl (by kernel_rfl) (by kernel_rfl) (by kernel_rfl) (fun _ _ _ h => h) (Or.inl ⟨by rfl, ?_⟩) hH0 ?_
      rotate_left
      · intro w' hw'
        obtain ⟨c1h, c2h⟩ := hw'
        go_simp
        try with_reducible rfl
      try simp only [Act.put, List.setIfInBounds_toArray, List.set_cons_zero, List.set_cons_succ]
      refine wpAnyH_take (i := 2) (oi := { dst := some 100, op := Op.indexAddr 29 (Operand.tmp 98) (Operand.tmp 99), type := 0, pos := "law.go:162", after := #[{ on := 0, ground := Ground.data }, { on := 1, ground := Ground.data }], guard := none }) (v := ?_) rfl (by kernel_rfl) (by kernel_rfl) (by kernel_rfl) (fun _ _ _ h => h) (Or.inl ⟨by rfl, ?_⟩) hH0 ?_
      rotate_left
      · intro w' hw'
        obtain ⟨c1h, c2h⟩ := hw'
        go_simp
        try with_reducible rfl
      try simp only [Act.put, List.setIfInBounds_toArray, List.set_cons_zero, List.set_cons_succ]
      refine wpAnyH_take (i := 3) (oi := { dst := some 101, op := Op.load 45 (Operand.tmp 100), type := 45, pos := "law.go:162", after := #[{ on := 2, ground := Ground.data }], guard := none }) (v := insV z) rfl (by kernel_rfl) (by kernel_rfl) (by kernel_rfl) (fun _ _ _ h => h) (Or.inl ⟨by rfl, fun w' hw' => run_ld45x _ rfl hw'.1⟩) hH0 ?_
      try simp only [Act.put, List.setIfInBounds_toArray, List.set_cons_zero, List.set_cons_succ]
      refine wpAnyH_take (i := 4) (oi := { dst := some 102, op := Op.load 45 (Operand.tmp 13), type := 45, pos := "law.go:162", after := #[], guard := none }) (v := insV z) rfl (by kernel_rfl) (by kernel_rfl) (by kernel_rfl) (fun _ _ _ h => h) (Or.inl ⟨by rfl, fun w' hw' => run_ld45x _ rfl hw'.2⟩) hH0 ?_
      try simp only [Act.put, List.setIfInBounds_toArray, List.set_cons_zero, List.set_cons_succ]
      refine wpAnyH_take (i := 5) (oi := { dst := some 103, op := Op.binOp BinOp.neq 45 (Operand.tmp 101) (Operand.tmp 102) 45, type := 4, pos := "law.go:162", after := #[{ on := 3, ground := Ground.data }, { on := 4, ground := Ground.data }], guard := none }) (v := .bool false) rfl (by kernel_rfl) (by kernel_rfl) (by kernel_rfl) (fun _ _ _ h => h) (Or.inl ⟨by rfl, fun w' hw' => run_neqIx _ (z) rfl rfl⟩) hH0 ?_
      try simp only [Act.put, List.setIfInBounds_toArray, List.set_cons_zero, List.set_cons_succ]
      refine wpAnyH_done (by kernel_rfl) ?_ _
      refine NoPanic.normal ?_
      have F9 := hide (Fr.out.trans (H.below.mono Fr.out.size))
      clear H
      go_wp2_with fail
      go_roundw
      case rel => exact ⟨i + 1, by go_num, hltH.out, F9.out.drew⟩
      case measure => have := hltH.out; simp [RowKit.intOf]; omega
    · have j2 : ¬ ((i : Int) < (N1 : Int)) := by omega
      obtain ⟨j, hij⟩ : ∃ j : Nat, j = i - N1 := ⟨_, rfl⟩
      rw [← hij] at hyz
      have j4 : (i : Int) - (N1 : Int) = (j : Int) := by omega
      have hlx := lxH.out
      have j5 : (j : Int) < (LY.length : Int) := by have := (List.getElem?_eq_some_iff.1 hyz).1; omega
      have hjb : j ≤ 3000 := by omega
      obtain ⟨⟨gx0, gx1⟩, ⟨gy0, gy1⟩⟩ := GY.out y (List.mem_of_getElem? hyz)
      obtain ⟨yo, ys, yx, yy⟩ := y
      simp only at gx0 gx1 gy0 gy1
      obtain ⟨yx, rfl⟩ := Int.eq_ofNat_of_zero_le gx0
      obtain ⟨yy, rfl⟩ := Int.eq_ofNat_of_zero_le gy0
      obtain ⟨sx, hsx⟩ : ∃ sx : Nat, sx = yx + N1 := ⟨_, rfl⟩
      obtain ⟨sy, hsy⟩ : ∃ sy : Nat, sy = yy + N1 := ⟨_, rfl⟩
      have k1 : (yx : Int) + (N1 : Int) = (sx : Int) := by omega
      have k2 : (yy : Int) + (N1 : Int) = (sy : Int) := by omega
      have k3 : sx ≤ 10000 := by omega
      have k4 : sy ≤ 10000 := by omega
      have hzz : z = ⟨yo, ys, if yo = 3 then (yx : Int) else (sx : Int), if yo = 2 then (sy : Int) else (yy : Int)⟩ := by rw [hzy]; simp only [shI, k1, k2]
      clear hlx hzy gx0 gx1 gy0 gy1 hij hi1 hil hlt
      replace hyz := hide hyz
      replace hsx := hide hsx
      replace hsy := hide hsy
      have m1 := trivial
      by_cases y3 : yo = 3
      · subst y3
        have hz0 : z = ⟨3, ys, (yx : Int), (yy : Int)⟩ := by rw [hzz]; simp
        rw [hz0] at hz
        replace hz := hide hz
        have m2 := trivial
        go_wp2_with (first | ((with_reducible refine at_build 45 ?_); refine wl_val (run_buildI0 _ _) ?_) | ((with_reducible refine at_alloc 45 ?_); refine wl_allocI H ?_; clear H; intro g13 wa H q1 q2) | ((with_reducible refine at_store 45 ?_); clear m1; refine wl_storeI 0 (q := ins0) H rfl rfl rfl ?_; clear H; intro wb H; have ldv := ldy.out wb (Fr.out.trans (H.below.mono Fr.out.size)) j _ hyz.out) | ((with_reducible refine at_load 45 ?_); refine wl_loadA 45 rfl ldv ?_) | ((with_reducible refine at_store 45 ?_); refine wl_storeI 0 (q := ⟨3, ys, (yx : Int), (yy : Int)⟩) H rfl rfl rfl ?_; clear H; intro wc H; have b0 := H.cell 0 0 rfl (v := .int .i64 3) rfl; have b5 := H.cell 0 5 rfl (v := .int .i64 (yx : Int)) rfl; have b6 := H.cell 0 6 rfl (v := .int .i64 (yy : Int)) rfl))
        replace H : St Nope wr _ [(true, g13, 45, insA ⟨3, ys, (yx : Int), (yy : Int)⟩)] := H
        refine wp_region_noPanic ?_
        refine wp_region_held_drew (S := (fun w' => (loadVar 45 ⟨gz, i * 7, none⟩).run Tryd.prog w' = .ok (insV (⟨3, ys, (yx : Int), (yy : Int)⟩ : Ins)) w' ∧ (loadVar 45 ⟨g13, 0, none⟩).run Tryd.prog w' = .ok (insV (⟨3, ys, (yx : Int), (yy : Int)⟩ : Ins)) w')) (by kernel_rfl) ⟨ldz.out _ (Fr.out.trans (H.below.mono Fr.out.size)).drew i _ hz.out, loadI (H.drew.get 0 rfl)⟩ (fun hH0 => ?_)
        refine wpAnyH_take (i := 0) (oi := { dst := some 98, op := Op.move (Operand.tmp 9), type := 29, pos := "law.go:162", after := #[], guard := none }) (v := ?_) rfl (by kernel_rfl) (by kernel_rfl) (by kernel_rfl) (fun _ _ _ h => h) (Or.inl ⟨by rfl, ?_⟩) hH0 ?_
        rotate_left
        · intro w' hw'
          obtain ⟨c1h, c2h⟩ := hw'
          go_simp
          try with_reducible rfl
        try simp only [Act.put, List.setIfInBounds_toArray, List.set_cons_zero, List.set_cons_succ]
        refine wpAnyH_take (i := 1) (oi := { dst := some 99, op := Op.move (Operand.tmp 12), type := 3, pos := "law.go:162", after := #[], guard := none }) (v := ?_) rfl (by kernel_rfl) (by kernel_rfl) (by kernel_rfl) (fun _ _ _ h => h) (Or.inl ⟨by rfl, ?_⟩) hH0 ?_
        rotate_left
        · intro w' hw'
          obtain ⟨c1h, c2h⟩ := hw'
          go_simp
          try with_reducible rfl
        try simp only [Act.put, List.setIfInBounds_toArray, List.set_cons_zero, List.set_cons_succ]
        refine wpAnyH_take (i := 2) (oi := { dst := some 100, op := Op.indexAddr 29 (Operand.tmp 98) (Operand.tmp 99), type := 0, pos := "law.go:162", after := #[{ on := 0, ground := Ground.data }, { on := 1, ground := Ground.data }], guard := none }) (v := ?_) rfl (by kernel_rfl) (by kernel_rfl) (by kernel_rfl) (fun _ _ _ h => h) (Or.inl ⟨by rfl, ?_⟩) hH0 ?_
        rotate_left
        · intro w' hw'
          obtain ⟨c1h, c2h⟩ := hw'
          go_simp
          try with_reducible rfl
        try simp only [Act.put, List.setIfInBounds_toArray, List.set_cons_zero, List.set_cons_succ]
        refine wpAnyH_take (i := 3) (oi := { dst := some 101, op := Op.load 45 (Operand.tmp 100), type := 45, pos := "law.go:162", after := #[{ on := 2, ground := Ground.data }], guard := none }) (v := insV (⟨3, ys, (yx : Int), (yy : Int)⟩ : Ins)) rfl (by kernel_rfl) (by kernel_rfl) (by kernel_rfl) (fun _ _ _ h => h) (Or.inl ⟨by rfl, fun w' hw' => run_ld45x _ rfl hw'.1⟩) hH0 ?_
        try simp only [Act.put, List.setIfInBounds_toArray, List.set_cons_zero, List.set_cons_succ]
        refine wpAnyH_take (i := 4) (oi := { dst := some 102, op := Op.load 45 (Operand.tmp 13), type := 45, pos := "law.go:162", after := #[], guard := none }) (v := insV (⟨3, ys, (yx : Int), (yy : Int)⟩ : Ins)) rfl (by kernel_rfl) (by kernel_rfl) (by kernel_rfl) (fun _ _ _ h => h) (Or.inl ⟨by rfl, fun w' hw' => run_ld45x _ rfl hw'.2⟩) hH0 ?_
        try simp only [Act.put, List.setIfInBounds_toArray, List.set_cons_zero, List.set_cons_succ]
        refine wpAnyH_take (i := 5) (oi := { dst := some 103, op := Op.binOp BinOp.neq 45 (Operand.tmp 101) (Operand.tmp 102) 45, type := 4, pos := "law.go:162", after := #[{ on := 3, ground := Ground.data }, { on := 4, ground := Ground.data }], guard := none }) (v := .bool false) rfl (by kernel_rfl) (by kernel_rfl) (by kernel_rfl) (fun _ _ _ h => h) (Or.inl ⟨by rfl, fun w' hw' => run_neqIx _ ((⟨3, ys, (yx : Int), (yy : Int)⟩ : Ins)) rfl rfl⟩) hH0 ?_
        try simp only [Act.put, List.setIfInBounds_toArray, List.set_cons_zero, List.set_cons_succ]
        refine wpAnyH_done (by kernel_rfl) ?_ _
        refine NoPanic.normal ?_
        have F9 := hide (Fr.out.trans (H.below.mono Fr.out.size))
        clear H
        go_wp2_with fail
        go_roundw
        case rel => exact ⟨i + 1, by go_num, hltH.out, F9.out.drew⟩
        case measure => have := hltH.out; simp [RowKit.intOf]; omega
      have y3b : (yo == 3) = false := by simpa using y3
      by_cases y2 : yo = 2
      · subst y2
        have hz0 : z = ⟨2, ys, (sx : Int), (sy : Int)⟩ := by rw [hzz]; simp
        rw [hz0] at hz
        replace hz := hide hz
        have m2 := trivial
        go_wp2_with (first | ((with_reducible refine at_build 45 ?_); refine wl_val (run_buildI0 _ _) ?_) | ((with_reducible refine at_alloc 45 ?_); refine wl_allocI H ?_; clear H; intro g13 wa H q1 q2) | ((with_reducible refine at_store 45 ?_); clear m1; refine wl_storeI 0 (q := ins0) H rfl rfl rfl ?_; clear H; intro wb H; have ldv := ldy.out wb (Fr.out.trans (H.below.mono Fr.out.size)) j _ hyz.out) | ((with_reducible refine at_load 45 ?_); refine wl_loadA 45 rfl ldv ?_) | ((with_reducible refine at_store 45 ?_); refine wl_storeI 0 (q := ⟨2, ys, (yx : Int), (yy : Int)⟩) H rfl rfl rfl ?_; clear H; intro wc H; have b0 := H.cell 0 0 rfl (v := .int .i64 2) rfl; have b5 := H.cell 0 5 rfl (v := .int .i64 (yx : Int)) rfl; have b6 := H.cell 0 6 rfl (v := .int .i64 (yy : Int)) rfl) | ((with_reducible refine at_store 3 ?_); clear m2; refine wl_store1 0 5 3 (v := .int .i64 (sx : Int)) H rfl rfl rfl (by simp [insA]) one3 rfl ?_; clear H; intro wd H; clear b0 b5 b6; have b0 := H.cell 0 0 rfl (v := .int .i64 2) rfl; have b6 := H.cell 0 6 rfl (v := .int .i64 (yy : Int)) rfl) | ((with_reducible refine at_store 3 ?_); refine wl_store1 0 6 3 (v := .int .i64 (sy : Int)) H rfl rfl rfl (by simp [insA]) one3 rfl ?_; clear H; intro we H))
        replace H : St Nope wr _ [(true, g13, 45, insA ⟨2, ys, (sx : Int), (sy : Int)⟩)] := H
        refine wp_region_noPanic ?_
        refine wp_region_held_drew (S := (fun w' => (loadVar 45 ⟨gz, i * 7, none⟩).run Tryd.prog w' = .ok (insV (⟨2, ys, (sx : Int), (sy : Int)⟩ : Ins)) w' ∧ (loadVar 45 ⟨g13, 0, none⟩).run Tryd.prog w' = .ok (insV (⟨2, ys, (sx : Int), (sy : Int)⟩ : Ins)) w')) (by kernel_rfl) ⟨ldz.out _ (Fr.out.trans (H.below.mono Fr.out.size)).drew i _ hz.out, loadI (H.drew.get 0 rfl)⟩ (fun hH0 => ?_)
        refine wpAnyH_take (i := 0) (oi := { dst := some 98, op := Op.move (Operand.tmp 9), type := 29, pos := "law.go:162", after := #[], guard := none }) (v := ?_) rfl (by kernel_rfl) (by kernel_rfl) (by kernel_rfl) (fun _ _ _ h => h) (Or.inl ⟨by rfl, ?_⟩) hH0 ?_
        rotate_left
        · intro w' hw'
          obtain ⟨c1h, c2h⟩ := hw'
          go_simp
          try with_reducible rfl
        try simp only [Act.put, List.setIfInBounds_toArray, List.set_cons_zero, List.set_cons_succ]
        refine wpAnyH_take (i := 1) (oi := { dst := some 99, op := Op.move (Operand.tmp 12), type := 3, pos := "law.go:162", after := #[], guard := none }) (v := ?_) rfl (by kernel_rfl) (by kernel_rfl) (by kernel_rfl) (fun _ _ _ h => h) (Or.inl ⟨by rfl, ?_⟩) hH0 ?_
        rotate_left
        · intro w' hw'
          obtain ⟨c1h, c2h⟩ := hw'
          go_simp
          try with_reducible rfl
        try simp only [Act.put, List.setIfInBounds_toArray, List.set_cons_zero, List.set_cons_succ]
        refine wpAnyH_take (i := 2) (oi := { dst := some 100, op := Op.indexAddr 29 (Operand.tmp 98) (Operand.tmp 99), type := 0, pos := "law.go:162", after := #[{ on := 0, ground := Ground.data }, { on := 1, ground := Ground.data }], guard := none }) (v := ?_) rfl (by kernel_rfl) (by kernel_rfl) (by kernel_rfl) (fun _ _ _ h => h) (Or.inl ⟨by rfl, ?_⟩) hH0 ?_
        rotate_left
        · intro w' hw'
          obtain ⟨c1h, c2h⟩ := hw'
          go_simp
          try with_reducible rfl
        try simp only [Act.put, List.setIfInBounds_toArray, List.set_cons_zero, List.set_cons_succ]
        refine wpAnyH_take (i := 3) (oi := { dst := some 101, op := Op.load 45 (Operand.tmp 100), type := 45, pos := "law.go:162", after := #[{ on := 2, ground := Ground.data }], guard := none }) (v := insV (⟨2, ys, (sx : Int), (sy : Int)⟩ : Ins)) rfl (by kernel_rfl) (by kernel_rfl) (by kernel_rfl) (fun _ _ _ h => h) (Or.inl ⟨by rfl, fun w' hw' => run_ld45x _ rfl hw'.1⟩) hH0 ?_
        try simp only [Act.put, List.setIfInBounds_toArray, List.set_cons_zero, List.set_cons_succ]
        refine wpAnyH_take (i := 4) (oi := { dst := some 102, op := Op.load 45 (Operand.tmp 13), type := 45, pos := "law.go:162", after := #[], guard := none }) (v := insV (⟨2, ys, (sx : Int), (sy : Int)⟩ : Ins)) rfl (by kernel_rfl) (by kernel_rfl) (by kernel_rfl) (fun _ _ _ h => h) (Or.inl ⟨by rfl, fun w' hw' => run_ld45x _ rfl hw'.2⟩) hH0 ?_
        try simp only [Act.put, List.setIfInBounds_toArray, List.set_cons_zero, List.set_cons_succ]
        refine wpAnyH_take (i := 5) (oi := { dst := some 103, op := Op.binOp BinOp.neq 45 (Operand.tmp 101) (Operand.tmp 102) 45, type := 4, pos := "law.go:162", after := #[{ on := 3, ground := Ground.data }, { on := 4, ground := Ground.data }], guard := none }) (v := .bool false) rfl (by kernel_rfl) (by kernel_rfl) (by kernel_rfl) (fun _ _ _ h => h) (Or.inl ⟨by rfl, fun w' hw' => run_neqIx _ ((⟨2, ys, (sx : Int), (sy : Int)⟩ : Ins)) rfl rfl⟩) hH0 ?_
        try simp only [Act.put, List.setIfInBounds_toArray, List.set_cons_zero, List.set_cons_succ]
        refine wpAnyH_done (by kernel_rfl) ?_ _
        refine NoPanic.normal ?_
        have F9 := hide (Fr.out.trans (H.below.mono Fr.out.size))
        clear H
        go_wp2_with fail
        go_roundw
        case rel => exact ⟨i + 1, by go_num, hltH.out, F9.out.drew⟩
        case measure => have := hltH.out; simp [RowKit.intOf]; omega
      · have y2b : (yo == 2) = false := by simpa using y2
        have hz0 : z = ⟨yo, ys, (sx : Int), (yy : Int)⟩ := by rw [hzz, if_neg y3, if_neg y2]
        rw [hz0] at hz
        replace hz := hide hz
        have m2 := trivial
        go_wp2_with (first | ((with_reducible refine at_build 45 ?_); refine wl_val (run_buildI0 _ _) ?_) | ((with_reducible refine at_alloc 45 ?_); refine wl_allocI H ?_; clear H; intro g13 wa H q1 q2) | ((with_reducible refine at_store 45 ?_); clear m1; refine wl_storeI 0 (q := ins0) H rfl rfl rfl ?_; clear H; intro wb H; have ldv := ldy.out wb (Fr.out.trans (H.below.mono Fr.out.size)) j _ hyz.out) | ((with_reducible refine at_load 45 ?_); refine wl_loadA 45 rfl ldv ?_) | ((with_reducible refine at_store 45 ?_); refine wl_storeI 0 (q := ⟨yo, ys, (yx : Int), (yy : Int)⟩) H rfl rfl rfl ?_; clear H; intro wc H; have b0 := H.cell 0 0 rfl (v := .int .i64 yo) rfl; have b5 := H.cell 0 5 rfl (v := .int .i64 (yx : Int)) rfl; have b6 := H.cell 0 6 rfl (v := .int .i64 (yy : Int)) rfl) | ((with_reducible refine at_store 3 ?_); clear m2; refine wl_store1 0 5 3 (v := .int .i64 (sx : Int)) H rfl rfl rfl (by simp [insA]) one3 rfl ?_; clear H; intro wd H; clear b0 b5 b6; have b0 := H.cell 0 0 rfl (v := .int .i64 yo) rfl; have b6 := H.cell 0 6 rfl (v := .int .i64 (yy : Int)) rfl))
        replace H : St Nope wr _ [(true, g13, 45, insA ⟨yo, ys, (sx : Int), (yy : Int)⟩)] := H
        refine wp_region_noPanic ?_
        refine wp_region_held_drew (S := (fun w' => (loadVar 45 ⟨gz, i * 7, none⟩).run Tryd.prog w' = .ok (insV (⟨yo, ys, (sx : Int), (yy : Int)⟩ : Ins)) w' ∧ (loadVar 45 ⟨g13, 0, none⟩).run Tryd.prog w' = .ok (insV (⟨yo, ys, (sx : Int), (yy : Int)⟩ : Ins)) w')) (by kernel_rfl) ⟨ldz.out _ (Fr.out.trans (H.below.mono Fr.out.size)).drew i _ hz.out, loadI (H.drew.get 0 rfl)⟩ (fun hH0 => ?_)
        refine wpAnyH_take (i := 0) (oi := { dst := some 98, op := Op.move (Operand.tmp 9), type := 29, pos := "law.go:162", after := #[], guard := none }) (v := ?_) rfl (by kernel_rfl) (by kernel_rfl) (by kernel_rfl) (fun _ _ _ h => h) (Or.inl ⟨by rfl, ?_⟩) hH0 ?_
        rotate_left
        · intro w' hw'
          obtain ⟨c1h, c2h⟩ := hw'
          go_simp
          try with_reducible rfl
        try simp only [Act.put, List.setIfInBounds_toArray, List.set_cons_zero, List.set_cons_succ]
        refine wpAnyH_take (i := 1) (oi := { dst := some 99, op := Op.move (Operand.tmp 12), type := 3, pos := "law.go:162", after := #[], guard := none }) (v := ?_) rfl (by kernel_rfl) (by kernel_rfl) (by kernel_rfl) (fun _ _ _ h => h) (Or.inl ⟨by rfl, ?_⟩) hH0 ?_
        rotate_left
        · intro w' hw'
          obtain ⟨c1h, c2h⟩ := hw'
          go_simp
          try with_reducible rfl
        try simp only [Act.put, List.setIfInBounds_toArray, List.set_cons_zero, List.set_cons_succ]
        refine wpAnyH_take (i := 2) (oi := { dst := some 100, op := Op.indexAddr 29 (Operand.tmp 98) (Operand.tmp 99), type := 0, pos := "law.go:162", after := #[{ on := 0, ground := Ground.data }, { on := 1, ground := Ground.data }], guard := none }) (v := ?_) rfl (by kernel_rfl) (by kernel_rfl) (by kernel_rfl) (fun _ _ _ h => h) (Or.inl ⟨by rfl, ?_⟩) hH0 ?_
        rotate_left
        · intro w' hw'
          obtain ⟨c1h, c2h⟩ := hw'
          go_simp
          try with_reducible rfl
        try simp only [Act.put, List.setIfInBounds_toArray, List.set_cons_zero, List.set_cons_succ]
        refine wpAnyH_take (i := 3) (oi := { dst := some 101, op := Op.load 45 (Operand.tmp 100), type := 45, pos := "law.go:162", after := #[{ on := 2, ground := Ground.data }], guard := none }) (v := insV (⟨yo, ys, (sx : Int), (yy : Int)⟩ : Ins)) rfl (by kernel_rfl) (by kernel_rfl) (by kernel_rfl) (fun _ _ _ h => h) (Or.inl ⟨by rfl, fun w' hw' => run_ld45x _ rfl hw'.1⟩) hH0 ?_
        try simp only [Act.put, List.setIfInBounds_toArray, List.set_cons_zero, List.set_cons_succ]
        refine wpAnyH_take (i := 4) (oi := { dst := some 102, op := Op.load 45 (Operand.tmp 13), type := 45, pos := "law.go:162", after := #[], guard := none }) (v := insV (⟨yo, ys, (sx : Int), (yy : Int)⟩ : Ins)) rfl (by kernel_rfl) (by kernel_rfl) (by kernel_rfl) (fun _ _ _ h => h) (Or.inl ⟨by rfl, fun w' hw' => run_ld45x _ rfl hw'.2⟩) hH0 ?_
        try simp only [Act.put, List.setIfInBounds_toArray, List.set_cons_zero, List.set_cons_succ]
        refine wpAnyH_take (i := 5) (oi := { dst := some 103, op := Op.binOp BinOp.neq 45 (Operand.tmp 101) (Operand.tmp 102) 45, type := 4, pos := "law.go:162", after := #[{ on := 3, ground := Ground.data }, { on := 4, ground := Ground.data }], guard := none }) (v := .bool false) rfl (by kernel_rfl) (by kernel_rfl) (by kernel_rfl) (fun _ _ _ h => h) (Or.inl ⟨by rfl, fun w' hw' => run_neqIx _ ((⟨yo, ys, (sx : Int), (yy : Int)⟩ : Ins)) rfl rfl⟩) hH0 ?_
        try simp only [Act.put, List.setIfInBounds_toArray, List.set_cons_zero, List.set_cons_succ]
        refine wpAnyH_done (by kernel_rfl) ?_ _
        refine NoPanic.normal ?_
        have F9 := hide (Fr.out.trans (H.below.mono Fr.out.size))
        clear H
        go_wp2_with fail
        go_roundw
        case rel => exact ⟨i + 1, by go_num, hltH.out, F9.out.drew⟩
        case measure => have := hltH.out; simp [RowKit.intOf]; omega
end Go.Proofs.YtkgegjnkkbgghaaDoor
