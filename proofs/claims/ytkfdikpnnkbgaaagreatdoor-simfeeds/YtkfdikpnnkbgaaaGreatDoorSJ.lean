/-
  stand: an instruction, and all to which it leads on, are put into a set.
-/
import Derived.Test.YtkfdikpnnkbgaaaGreatDoorSG
import Derived.Test.YtkfdikpnnkbgaaaGreatDoorSH
import Derived.Test.YtkfdikpnnkbgaaaGreatDoorSF
import Derived.Test.YtkfdikpnnkbgaaaGreatDoorDE
namespace Go.Proofs.YtkfdikpnnkbgaaaGreatDoor
open Go.RowKit Go.Shelf
set_option linter.unusedVariables false
set_option linter.unusedSimpArgs false
attribute [local go_sem] Oper.semAt_some

def ints (q : List Nat) : List Int := q.map (fun k : Nat => (k : Int))
theorem ints_app (p q : List Nat) : ints (p ++ q) = ints p ++ ints q := by simp [ints]
theorem ints_len (q : List Nat) : (ints q).length = q.length := by simp [ints]
theorem addW_same {W : List Nat} (h : OkW W) {z : Nat} (hi : inW W z = true) : addW W z = W := by
  have hl := inW_lt h hi
  have hb : (W.getD (z / 64) 0 ||| 2 ^ (z % 64)) = W.getD (z / 64) 0 := by
    apply Nat.eq_of_testBit_eq
    intro j
    rw [Nat.testBit_or, Nat.testBit_two_pow]
    by_cases e : z % 64 = j
    · subst e
      have : (W.getD (z / 64) 0).testBit (z % 64) = true := hi
      rw [this]; simp
    · simp [e]
  unfold addW
  rw [hb]
  have hk : z / 64 < W.length := by rw [h.len]; omega
  apply List.ext_getElem?
  intro k
  rw [List.getElem?_set]
  by_cases e : z / 64 = k
  · subst e
    rw [if_pos rfl, if_pos hk, List.getD_eq_getElem?_getD, List.getElem?_eq_getElem hk]
    rfl
  · rw [if_neg e]
/-- Between two rounds of stand. -/
structure LI (w0 : World) (g g6 : Nat) (t : TypeId) (pre : Array Value) (L : List Ins) (W0 : List Nat) (num : Nat) (ds : List Nat) (m : Nat) (w : World) : Prop where
  ex : ∃ W q, SI w0 g g6 t pre (fun _ => True) W (ints q) w ∧ SdI L W0 W q num ∧ msr W q = m
  nd : ds.Nodup
  mks : ∀ D ∈ ds, w0.heap.size ≤ D ∧ w.heap[D]? = some (.deferred (some []))
theorem mk_ne {w : World} {D k : Nat} {cs : Array Value} {t : TypeId} (h : w.heap[D]? = some (.deferred (some []))) (h2 : w.heap[k]? = some (.cells cs t (0, 0))) : D ≠ k := fun e => by
  rw [e, h2] at h
  cases h
set_option maxHeartbeats 8000000 in
set_option maxRecDepth 100000 in
theorem stand_in (n : Nat) (h3 : 3 ≤ n) (ad : Option Addr) (c : Nat) (L : List Ins) (num g : Nat) (pre : Array Value) (t : TypeId) (W0 : List Nat) (w : World) (hL : HsI w (fun k => k < w.heap.size ∧ k ≠ g) ad L) (hG : GoL L) (hlen : L.length ≤ 2048) (hn : num < L.length) (hW : OkW W0) (hc : Clsd L (snW W0)) (hg : w.heap[g]? = some (.cells (pA pre W0) t (0, 0))) :
    CallsIn Fence.wide n Tryz.prog 56 #[.slice ad L.length c, .pointer (some ⟨g, pre.size, none⟩), .int .i64 (num : Int)] w fun e w' => (∃ v, e = .returned v) ∧ But (fun k => k = g) w w' ∧ ∃ W, OkW W ∧ (∀ m, inW W m = true ↔ inW W0 m = true ∨ Eps L num m) ∧ w'.heap[g]? = some (.cells (pA pre W) t (0, 0)) := by
  have hgl := (Array.getElem?_eq_some_iff.1 hg).1
  replace hL := hide hL
  replace hG := hide hG
  replace hW := hide hW
  replace hc := hide hc
  replace hg := hide hg
  replace hn := hide hn
  refine callsIn_of_wp_marks Tryz.func56 rfl trivial ?_ rfl
  simp only [Tryz.ntmps56, List.size_toArray, List.length_cons, List.length_nil, Nat.reduceAdd, Nat.reduceSub, Array.replicate_succ, Array.replicate_zero, List.push_toArray, List.append_toArray, List.nil_append, List.cons_append]
  gi_wp2_with (first | ((with_reducible refine atI_begin ?_); refine wlI_begin wide_fn rfl (fun _ _ => rfl) (fun _ _ => rfl) ?_; intro gr g6 w1 q6 qr B1 n1 n2 n3; replace q6 := hide q6; replace qr := hide qr; replace B1 := hide B1))
  have S1 : SI w g g6 t pre (fun _ => True) W0 (ints [num]) w1 := ⟨⟨B1.out.os, B1.out.tape, B1.out.output, B1.out.size, fun k hk _ => B1.out.block k hk⟩, (B1.out.block g hgl).trans hg.out, hgl, n2, gr, _, _, q6.out, qr.out, ⟨0, 1, rfl, by simp, by simp [ints], fun i z hi => by
    match i with
    | 0 => simp [ints] at hi; subst hi; rfl
    | i + 1 => simp [ints] at hi⟩, n1, n3, trivial⟩
  have LI1 : LI w g g6 t pre L W0 num [] (msr W0 [num]) w1 := ⟨⟨W0, [num], S1, SdI.start hW.out hn.out, rfl⟩, List.nodup_nil, fun D hD => by cases hD⟩
  clear S1 q6 qr B1 n1 n3
  refine wpIn_loopM (fun m a w' => ∃ (ds : List Nat) (u2 u7 u8 u9 u10 u11 u12 u13 u14 u15 u16 u17 u18 u19 u20 u21 u22 u23 u24 u25 u26 u27 u28 u29 u30 u31 u32 u33 u34 u35 u36 : Value), a = { tmps := #[.slice ad L.length c, .pointer (some ⟨g, pre.size, none⟩), u2, undef, undef, undef, .pointer (some ⟨g6, 0, none⟩), u7, u8, u9, u10, u11, u12, u13, u14, u15, u16, u17, u18, u19, u20, u21, u22, u23, u24, u25, u26, u27, u28, u29, u30, u31, u32, u33, u34, u35, u36], defers := marks ds } ∧ LI w g g6 t pre L W0 num ds m w') (m0 := msr W0 [num]) ⟨[], _, _, _, _, _, _, _, _, _, _, _, _, _, _, _, _, _, _, _, _, _, _, _, _, _, _, _, _, _, _, _, rfl, LI1⟩ ?_
  clear LI1
  rintro m a wr ⟨ds, u2, u7, u8, u9, u10, u11, u12, u13, u14, u15, u16, u17, u18, u19, u20, u21, u22, u23, u24, u25, u26, u27, u28, u29, u30, u31, u32, u33, u34, u35, u36, rfl, ⟨W, q, hS, hD, rfl⟩, hnd, hmk⟩
  rcases List.eq_nil_or_concat q with rfl | ⟨q', z, rfl⟩
  · obtain ⟨gr, cur, v, e1, e2, e3, e4, e5, e6⟩ := hS.row
    obtain ⟨o, cc, rfl⟩ := QuP.empty e3
    have c6 := cell_row e1 0 (v := .slice (some ⟨gr, o, none⟩) 0 cc) rfl
    replace e1 := hide e1
    replace e2 := hide e2
    replace e3 := hide e3
    replace hS := hide hS
    replace hD := hide hD
    replace hmk := hide hmk
    replace hnd := hide hnd
    gi_wp2_with (first | ((with_reducible refine atI_load 54 ?_); refine wlI_load 54 wide_fn rfl (ld60 c6) ?_))
    refine leaves_marks ds wr hnd.out (fun D hD => (hmk.out D hD).2) (fun w' s1 s2 s3 s4 s5 => ?_)
    refine ⟨_, results_none rfl _ _ _, ⟨_, rfl⟩, ?_, W, hD.out.ok, hD.out.fin hc.out, ?_⟩
    · have hb := hS.out.but
      exact ⟨s2.trans hb.os, s3.trans hb.tape, s4.trans hb.output, Nat.le_trans hb.size s1, fun k hk hkg => (s5 k (fun hkd => by have := (hmk.out k hkd).1; omega)).trans (hb.block k hk hkg)⟩
    · exact (s5 g (fun hkd => by have := (hmk.out g hkd).1; omega)).trans hS.out.set
  · rw [List.concat_eq_append] at hS hD ⊢
    have hzl := hD.qlt z (by simp)
    have hz2 : z < 2048 := by omega
    have hql := hD.room
    simp only [List.length_append, List.length_cons, List.length_nil] at hql
    obtain ⟨gr, cur, v, e1, e2, e3, e4, e5, e6⟩ := hS.row
    rw [ints_app] at e3
    obtain ⟨o, cc, rfl, f1, f2, f3⟩ := QuP.last e3
    have hil := ints_len q'
    obtain ⟨mm, hmm⟩ : ∃ mm, mm = q'.length := ⟨_, rfl⟩
    obtain ⟨ln, hln⟩ : ∃ ln, ln = mm + 1 := ⟨_, rfl⟩
    rw [hil, ← hmm] at f1 f2 f3
    rw [hil, ← hmm, ← hln] at e1
    have cz : wr.cell? ⟨gr, o + mm, none⟩ = some (.int .i64 (z : Int)) := by rw [cell_of_row wr gr _ _ 3 (0, 0) e2]; exact f1
    have c6 := cell_row e1 0 (v := .slice (some ⟨gr, o, none⟩) ln cc) rfl
    have i0 : (0 : Int) < (ln : Int) := by omega
    have i1 : (ln : Int) - 1 = (mm : Int) := by omega
    have hS3 : SI w g g6 t pre (fun _ => True) W (ints q') (wr.drew.setCell ⟨g6, 0, none⟩ (.slice (some ⟨gr, o, none⟩) mm cc)) := hS.drew.box (fun gr2 cur2 v2 x1 x2 x3 => by
      have y1 : wr.heap[g6]? = some (.cells #[v2] 54 (0, 0)) := x1
      rw [e1] at y1
      obtain ⟨o2, c2, e, _⟩ := x3.ex
      cases y1
      cases e
      have y2 : wr.heap[gr]? = some (.cells cur2 3 (0, 0)) := x2
      rw [e2] at y2
      cases y2
      exact f3)
    have hmk3 : ∀ D ∈ ds, w.heap.size ≤ D ∧ (wr.drew.setCell ⟨g6, 0, none⟩ (.slice (some ⟨gr, o, none⟩) mm cc)).heap[D]? = some (.deferred (some [])) := fun D hD => ⟨(hmk D hD).1, (Below.heap_setCell wr.drew ⟨g6, 0, none⟩ _ D (mk_ne (hmk D hD).2 e1)).trans (hmk D hD).2⟩
    have hcz := cz
    replace hD := hide hD
    replace e1 := hide e1
    replace e2 := hide e2
    replace e3 := hide e3
    replace f1 := hide f1
    replace f3 := hide f3
    replace hS := hide hS
    replace hmk := hide hmk
    replace hnd := hide hnd
    replace hS3 := hide hS3
    replace hmk3 := hide hmk3
    replace hmm := hide hmm
    replace hln := hide hln
    replace hil := hide hil
    have hmb : mm ≤ 5000 := by rw [hmm.out]; omega
    gi_wp2_with (first | ((with_reducible refine atI_load 54 ?_); refine wlI_load 54 wide_fn rfl (ld60 c6) ?_))
    refine reg51_3 _ (marks ds) wr gr g6 o mm cc (z : Int) (by omega) ln hln.out f2 e1.out cz _ _ _ _ _ _ _ _ _ _ _ _ _ _ _ _ _ _ _ _ _ _ _ _ _ _ _ _ _ _ _ _ _ _ _ _ ?_
    clear c6 cz hcz hS hmk e1 e2
    generalize wr.drew.setCell ⟨g6, 0, none⟩ (.slice (some ⟨gr, o, none⟩) mm cc) = w3 at hS3 hmk3 ⊢
    gi_wp2
    refine ⟨trivial, fun h => (by cases h), (callsIn_wide.2 (add_any g pre t W z hD.out.ok hz2 w3 hS3.out.set)).mono ?_⟩
    rintro e w4 ⟨rfl, hset4, hb4⟩
    have hS4 : Hid (SI w g g6 t pre (fun _ => True) (addW W z) (ints q') w4) := hS3.out.turn hb4 hset4
    have hmk4 : Hid (∀ D ∈ ds, w.heap.size ≤ D ∧ w4.heap[D]? = some (.deferred (some []))) := fun D hD => ⟨(hmk3.out D hD).1, (hb4.block D (Array.getElem?_eq_some_iff.1 (hmk3.out D hD).2).1 (by have := (hmk3.out D hD).1; omega)).trans (hmk3.out D hD).2⟩
    clear hset4 hb4
    cases hin : inW W z with
    | true =>
      have hsame := addW_same hD.out.ok hin
      have hD5 := hide (hD.out.old hin)
      have hM5 := hide (msr_old W q' z)
      replace hin := hide hin
      gi_wp2
      refine ⟨_, hM5.out, ds, _, _, _, _, _, _, _, _, _, _, _, _, _, _, _, _, _, _, _, _, _, _, _, _, _, _, _, _, _, _, _, rfl, ⟨W, q', by rw [← hsame]; exact hS4.out, hD5.out, rfl⟩, hnd.out, hmk4.out⟩
    | false =>
      obtain ⟨xi, hxi⟩ : ∃ xi, L[z]? = some xi := ⟨_, List.getElem?_eq_getElem hzl.1⟩
      have hD5 := hide (hD.out.new hin hlen hG.out hxi)
      have hM5 := hide (msr_new hD.out.ok hz2 hin q' xi)
      have hxy := hG.out xi (List.mem_of_getElem? hxi)
      obtain ⟨b, off, cur0, t0, fr0, hadr, ⟨hbl, hbg⟩, hbb, hcells⟩ : ∃ b off cur t fr, ad = some ⟨b, off, none⟩ ∧ (b < w.heap.size ∧ b ≠ g) ∧ w.heap[b]? = some (.cells cur t fr) ∧ ∀ k i, L[k]? = some i → ∀ j u, (insA i)[j]? = some u → cur[off + k * 7 + j]? = some u := by
        rcases hL.out with h | h
        · rw [h] at hxi; simp at hxi
        · exact h
      subst hadr
      have i4 : (z : Int) < (L.length : Int) := by omega
      obtain ⟨gr5, hS5, k1, k2, k3, k4⟩ := hS4.out.at
      have hs4 := hS4.out.but.size
      have hb4 := (hS4.out.but.block b hbl hbg).trans hbb
      have hI4 : ∀ j u, (insA xi)[j]? = some u → w4.cell? ⟨b, off + z * 7 + j, none⟩ = some u := fun j u hj => by
        rw [cell_of_row w4 b _ _ t0 fr0 hb4]; exact hcells z xi hxi j u hj
      have h64 : g6 < w4.heap.size := by obtain ⟨_, _, _, y, _⟩ := hS4.out.row; exact (Array.getElem?_eq_some_iff.1 y).1
      have hmlt : Hid (∀ D ∈ ds, D < w4.heap.size) := fun D hD => (Array.getElem?_eq_some_iff.1 (hmk4.out D hD).2).1
      replace hin := hide hin
      replace hxi := hide hxi
      replace hxy := hide hxy
      replace hbb := hide hbb
      replace hcells := hide hcells
      replace hI4 := hide hI4
      replace hS5 := hide hS5
      replace k4 := hide k4
      replace hb4 := hide hb4
      gi_wp2
      refine ⟨trivial, fun h => (by cases h), (onward_in _ _ _).mono ?_⟩
      rintro e w5 ⟨gB, rfl, hbB, B5, hgB⟩
      have hs5 := B5.size
      have hlB := (Array.getElem?_eq_some_iff.1 hbB).1
      have hst := onward_stops w5.heap.size (fun k => k = g6 ∨ k = gr5 ∨ w5.heap.size ≤ k) (n - 1) gB b (off + z * 7) xi w5 hbB (fun j u hj => by
        have := hI4.out j u hj
        exact (World.cell?_of_block (B5.block b (by omega))).trans this) ⟨by omega, by omega⟩ ⟨by omega, by omega⟩ (fun h => (hxy.out.1 (by omega)).1) (fun h => (hxy.out.2 h).1)
      have I0 : SI w g g6 t pre (fun k => k = gr5 ∨ w5.heap.size ≤ k) (addW W z) (ints (q' ++ [])) w5 ∧ ∀ D ∈ ds, w5.heap[D]? = some (.deferred (some [])) := ⟨by rw [List.append_nil]; exact (hS5.out.mono (fun k _ h => .inl h)).below B5, fun D hD => (B5.block D (hmlt.out D hD)).trans (hmk4.out D hD).2⟩
      replace B5 := hide B5
      replace hbB := hide hbB
      gi_wp2
      refine wpIn_rangeFunc_ownH rfl (by omega) (gf := 118) (lb := #[.pointer (some ⟨gB, 0, none⟩)]) rfl (wide_fn 118) (enters_of Tryz.func118 (by kernel_rfl) rfl)
        hst (fun h k => h.trans k) (fun W l o o' hl ho hc _ => ⟨by simp [World.putObj], fun k hk hlt hX => (grownBy_putObj' W l o').block k hlt (fun h => by cases h; omega)⟩) (Below.refl _ w5) (fun _ => rfl)
        (fun pr Wd => SI w g g6 t pre (fun k => k = gr5 ∨ w5.heap.size ≤ k) (addW W z) (ints (q' ++ pr)) Wd ∧ ∀ D ∈ ds, Wd.heap[D]? = some (.deferred (some [])))
        (fun _ _ _ => False)
        (fun pr Wd Wd' row hs hg' hr => ⟨hs.1.own (by omega) hg' hr, fun D hD => (hg'.block D (Array.getElem?_eq_some_iff.1 (hs.2 D hD)).1 (fun e => by have := (hr D e.symm).1; have := hmlt.out D hD; omega)).trans (hs.2 D hD)⟩)
        (fun _ _ _ _ _ hs _ _ => hs) I0
        (fun x a' Wd => ∃ (u0 u1 u2 u3 u4 u5 u7 u9 u10 u11 u12 u13 u14 u15 u16 u17 u18 u19 u20 u21 u22 u23 u24 u25 u26 u27 u28 u29 u30 u31 u32 u33 u34 u35 u36 : Value), a' = { tmps := #[u0, u1, u2, u3, u4, u5, .pointer (some ⟨g6, 0, none⟩), u7, .int .i64 (x : Int), u9, u10, u11, u12, u13, u14, u15, u16, u17, u18, u19, u20, u21, u22, u23, u24, u25, u26, u27, u28, u29, u30, u31, u32, u33, u34, u35, u36], defers := [] })
        (fun x a' _ Wd Wd' row hs hg' hr => hs) ?assign ?body ?done ?stop
      case assign =>
        intro l pr x Wd K hi hK
        simp only [encO, List.zip_toArray, List.zip_cons_cons, List.zip_nil_left, List.zip_nil_right, List.foldl_toArray, List.foldl_cons, List.foldl_nil, List.setIfInBounds_toArray, List.set_cons_zero, List.set_cons_succ]
        replace hK := hide hK
        replace hi := hide hi
        gi_wp2
        exact hK.out _ Wd ⟨Nat.le_refl _, fun _ _ _ h _ => h⟩ (KO.refl _ _ _) hi.out ⟨_, _, _, _, _, _, _, _, _, _, _, _, _, _, _, _, _, _, _, _, _, _, _, _, _, _, _, _, _, _, _, _, _, _, _, rfl⟩
      case body =>
        rintro l pr x a' Wd hl ⟨r, hr⟩ ⟨hs, hm⟩ ⟨u0, u1, u2, u3, u4, u5, u7, u9, u10, u11, u12, u13, u14, u15, u16, u17, u18, u19, u20, u21, u22, u23, u24, u25, u26, u27, u28, u29, u30, u31, u32, u33, u34, u35, u36, rfl⟩ hlt
        obtain ⟨v, v', wx, e6, hrun, e6', hone, hs', hb'⟩ := hs.push (fun k hk => .inr (by have := (Array.getElem?_eq_some_iff.1 hr).1; omega)) (by rw [ints_len]; simp; omega) (x : Int) 54
        have c6 := cell_row e6 0 (v := v) rfl
        have hmx : ∀ D ∈ ds, (wx.setCell ⟨g6, 0, none⟩ v').heap[D]? = some (.deferred (some [])) := fun D hD => (hb'.block D (Array.getElem?_eq_some_iff.1 (hm D hD)).1 (fun h => by
          rcases h with h | ⟨_, cur, h⟩
          · exact mk_ne (hm D hD) e6 h
          · rw [hm D hD] at h; cases h)).trans (hm D hD)
        have hKF : KeepsFrom w5.heap.size Wd (wx.setCell ⟨g6, 0, none⟩ v') := ⟨hb'.size, fun k o hk ho hcs => (hb'.block k (Array.getElem?_eq_some_iff.1 ho).1 (fun h => by
          rcases h with h | ⟨_, cur, h⟩
          · rw [h, e6] at ho; cases ho; cases hcs
          · rw [ho] at h; cases h; cases hcs)).trans ho⟩
        have hKO : KO w5.heap.size (fun k => k = g6 ∨ k = gr5 ∨ w5.heap.size ≤ k) Wd (wx.setCell ⟨g6, 0, none⟩ v') := ⟨hb'.size, fun k hk hl hX => hb'.block k hl (fun h => hX (by
          rcases h with h | ⟨h, _⟩
          · exact .inl h
          · exact .inr h))⟩
        have hs2 : SI w g g6 t pre (fun k => k = gr5 ∨ w5.heap.size ≤ k) (addW W z) (ints (q' ++ (pr ++ [x]))) (wx.setCell ⟨g6, 0, none⟩ v') := by
          have := hs'
          rw [show ints (q' ++ pr) ++ [(x : Int)] = ints (q' ++ (pr ++ [x])) by simp [ints]] at this
          exact this
        replace hs := hide hs
        replace hs' := hide hs'
        replace hb' := hide hb'
        replace hr := hide hr
        replace hm := hide hm
        replace e6 := hide e6
        gi_wp2_with (first | ((with_reducible refine atI_load 54 ?_); refine wlI_load 54 (round_fn l) rfl (ld60 c6) ?_) | ((with_reducible refine atI_push ?_); refine wlI_push (round_fn l) hrun e6' hone rfl (fun _ => rfl) (fun _ => rfl) (fun _ _ => rfl) (fun _ _ => rfl) ?_; intro u0))
        exact ⟨hKF, hKO, hs2, hmx⟩
      case done =>
        rintro D xs Wd hD hSx ⟨hs, hm⟩ hK
        subst hSx
        replace hs := hide hs
        replace hm := hide hm
        replace hK := hide hK
        gi_wp2
        refine ⟨_, hM5.out, D :: ds, _, _, _, _, _, _, _, _, _, _, _, _, _, _, _, _, _, _, _, _, _, _, _, _, _, _, _, _, _, _, _, rfl, ⟨addW W z, q' ++ onw xi, hs.out.mono (fun _ _ _ => trivial), hD5.out, rfl⟩, List.nodup_cons.2 ⟨fun h => by have := hmlt.out D h; omega, hnd.out⟩, fun E hE => ?_⟩
        rcases List.mem_cons.1 hE with rfl | hE
        · exact ⟨by omega, hK.out⟩
        · exact ⟨(hmk4.out E hE).1, hm.out E hE⟩
      case stop => rintro D cc2 pr Wd hD hSx h; exact h.elim
end Go.Proofs.YtkfdikpnnkbgaaaGreatDoor
