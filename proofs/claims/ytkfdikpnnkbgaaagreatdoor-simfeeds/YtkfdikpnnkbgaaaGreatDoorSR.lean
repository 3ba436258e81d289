/-
  ends, and its iterator; Ends.
-/
import Derived.Test.YtkfdikpnnkbgaaaGreatDoorSQ
namespace Go.Proofs.YtkfdikpnnkbgaaaGreatDoor
open Go.RowKit Go.Shelf
set_option linter.unusedVariables false
set_option linter.unusedSimpArgs false
attribute [local go_sem] Oper.semAt_some

/-- Is k a place up to which what is read from fr on is accepted? -/
def plc (L : List Ins) (s : ByteArray) (fr k : Nat) : Prop := fr ≤ k ∧ accS L (stn L (((bys s).drop fr).take (k - fr)))
open Classical in
/-- All such places below k. -/
noncomputable def eL (L : List Ins) (s : ByteArray) (fr k : Nat) : List Nat := (List.range k).filter (fun j => decide (plc L s fr j))
theorem eL_succ_yes {L : List Ins} {s : ByteArray} {fr k : Nat} (h : plc L s fr k) : eL L s fr (k + 1) = eL L s fr k ++ [k] := by
  unfold eL
  rw [List.range_succ, List.filter_append]
  simp [h]
theorem eL_succ_no {L : List Ins} {s : ByteArray} {fr k : Nat} (h : ¬ plc L s fr k) : eL L s fr (k + 1) = eL L s fr k := by
  unfold eL
  rw [List.range_succ, List.filter_append]
  simp [h]
theorem eL_le (L : List Ins) (s : ByteArray) (fr k : Nat) : (eL L s fr k).length ≤ k := by
  unfold eL
  have := List.length_filter_le (fun j => @decide (plc L s fr j) (Classical.propDecidable _)) (List.range k)
  simpa using this
theorem eL_fr (L : List Ins) (s : ByteArray) (fr : Nat) : ∀ k, k ≤ fr → eL L s fr k = []
  | 0, _ => rfl
  | k + 1, h => by rw [eL_succ_no (fun hp => by have := hp.1; omega), eL_fr L s fr k (by omega)]
theorem eL_more {L : List Ins} {s : ByteArray} {fr k : Nat} (h : ∀ j, k ≤ j → ¬ plc L s fr j) : ∀ d, eL L s fr (k + d) = eL L s fr k
  | 0 => rfl
  | d + 1 => by rw [← Nat.add_assoc, eL_succ_no (h _ (by omega)), eL_more h d]
theorem eL_dead {L : List Ins} {s : ByteArray} {fr k : Nat} (hk : k + 1 ≤ s.size) (hf : fr ≤ k) (hn : ∀ m, ¬ stn L (((bys s).drop fr).take (k + 1 - fr)) m) : eL L s fr (k + 1) = eL L s fr (s.size + 1) := by
  have := eL_more (L := L) (s := s) (fr := fr) (k := k + 1) (fun j hj hp => by
    obtain ⟨i, _, h1, _⟩ := hp.2
    have e : ((bys s).drop fr).take (j - fr) = ((bys s).drop fr).take (k + 1 - fr) ++ (((bys s).drop fr).drop (k + 1 - fr)).take (j - (k + 1)) := by
      rw [← List.take_add, show k + 1 - fr + (j - (k + 1)) = j - fr by omega]
    rw [e] at h1
    exact stn_dead _ _ hn i h1) (s.size + 1 - (k + 1))
  rw [show k + 1 + (s.size + 1 - (k + 1)) = s.size + 1 by omega] at this
  exact this.symm
set_option maxHeartbeats 1000000 in
theorem begin_at (ad : Option Addr) (c : Nat) (L : List Ins) (w : World) (hL : HsI w (fun k => k < w.heap.size) ad L) (hG : GoL L) (hlen : L.length ≤ 2048) (h0 : 0 < L.length) :
    Calls Tryz.prog 36 #[.slice ad L.length c] w fun e w' => ∃ W, e = .returned (.pointer (some ⟨w.heap.size, 0, none⟩)) ∧ Below w.heap.size w w' ∧ OkW W ∧ (∀ m, inW W m = true ↔ Eps L 0 m) ∧ Rn w' w.heap.size ad L.length c W := by
  have hnew := heap_alloc_new w (.cells (pA #[.slice ad L.length c] noW) 111)
  have hB1 : Hid (Below w.heap.size w (w.alloc (.cells (pA #[.slice ad L.length c] noW) 111))) := (Below.refl _ w).alloc (Nat.le_refl _) _
  have hst := hide (callsIn_wide.1 (stand_in 5 (by omega) ad c L 0 w.heap.size #[.slice ad L.length c] 111 noW (w.alloc (.cells (pA #[.slice ad L.length c] noW) 111)) (hL.kept (fun k _ hk => hB1.out.block k hk) (fun k hk h => ⟨by simp; omega, by omega⟩)) hG hlen h0 OkW.no (fun i q h => by have := inW_no i; unfold snW at h; rw [this] at h; cases h) hnew))
  replace hL := hide hL
  generalize hln : L.length = n at *
  go_enter Tryz.func36, Tryz.ntmps36
  go_wp2_with (first | ((with_reducible refine at_build' 111 _ ?_); refine wl_val (run_build103 _ _ _ _ _ _ _ rfl) ?_) | ((with_reducible refine at_box 111 ?_); refine wl_val (run_box103 _ _ _ _ _ _ _ rfl) ?_))
  refine hst.out.mono ?_
  rintro e w2 ⟨⟨v, rfl⟩, hb, W, hW, hin, hg⟩
  replace hin := hide hin
  go_wp2_with fail
  go_ret
  refine ⟨W, rfl, hB1.out.trans (hb.below (by simp) (fun k e => by omega)), hW, fun m => ?_, hg⟩
  have := hin.out m
  rw [inW_no] at this
  simpa using this
set_option maxHeartbeats 8000000 in
set_option maxRecDepth 100000 in
theorem ends_stops (n : Nat) (gl gf gs : Nat) (ad : Option Addr) (c : Nat) (L : List Ins) (s : ByteArray) (fr : Nat) (w : World) (hl : w.heap[gl]? = some (.cells #[.slice ad L.length c] 30 (0, 0))) (hf : w.heap[gf]? = some (.cells #[.int .i64 (fr : Int)] 3 (0, 0))) (hs : w.heap[gs]? = some (.cells #[.string s] 9 (0, 0)))
    (hL : HsI w (fun k => k < w.heap.size) ad L) (hT : Tab w) (hG : GoL L) (hok : ∀ q ∈ L, OkS q.s) (h0 : 0 < L.length) (hlen : L.length ≤ 2048) (hsl : s.size ≤ 65536) (hfr : fr ≤ s.size) :
    SeqP Fence.wide n Tryz.prog 113 #[.pointer (some ⟨gl, 0, none⟩), .pointer (some ⟨gf, 0, none⟩), .pointer (some ⟨gs, 0, none⟩)] encO (fun B => Kc (fun k => w.heap.size ≤ k ∧ k ≠ B)) (fun xs => xs = eL L s fr (s.size + 1)) (fun _ => True) (s.size + 2) w := fun l J Jx V hV hJ hJx hJt hJxt hYY hJ0 => by
  have hs0 := hV.size
  have ll := (Array.getElem?_eq_some_iff.1 hl).1
  have lf := (Array.getElem?_eq_some_iff.1 hf).1
  have ls := (Array.getElem?_eq_some_iff.1 hs).1
  have cl := cell_row ((hV.block gl ll).trans hl) 0 (v := .slice ad L.length c) rfl
  have cf := cell_row ((hV.block gf lf).trans hf) 0 (v := .int .i64 (fr : Int)) rfl
  have hsV : Hid (V.heap[gs]? = some (.cells #[.string s] 9 (0, 0))) := (hV.block gs ls).trans hs
  have hTV : Hid (Tab V) := hT.below hV
  have hLV : Hid (HsI V (fun k => k < w.heap.size) ad L) := hL.kept (fun k _ hk => hV.block k hk) (fun k _ h => h)
  replace hYY := hide hYY
  replace hJ := hide hJ
  replace hJx := hide hJx
  replace hJt := hide hJt
  replace hJxt := hide hJxt
  replace hJ0 := hide hJ0
  replace hok := hide hok
  replace hG := hide hG
  have hpos := hT.pos
  clear hl hf hs hL hT hV
  have hbg := hide (begin_at ad c L V (hLV.out.kept (fun _ _ _ => rfl) (fun k hk h => hk)) hG.out hlen h0)
  show CallsIn Fence.wide n Tryz.prog 113 #[.func (.yield l) #[] #[], .pointer (some ⟨gl, 0, none⟩), .pointer (some ⟨gf, 0, none⟩), .pointer (some ⟨gs, 0, none⟩)] V _
  refine callsIn_of_wp Tryz.func113 rfl trivial ?_ rfl
  simp only [Tryz.ntmps113, List.size_toArray, List.length_cons, List.length_nil, Nat.reduceAdd, Nat.reduceSub, Array.replicate_succ, Array.replicate_zero, List.push_toArray, List.append_toArray, List.nil_append, List.cons_append]
  gi_wp2_with (first | ((with_reducible refine atI_load 30 ?_); refine wlI_load 30 wide_fn rfl (ld29 cl) ?_))
  refine ⟨trivial, fun h => (by cases h), (callsIn_wide.2 hbg.out).mono ?_⟩
  rintro e w1 ⟨W0, rfl, B1, hW0, hst0, hR0⟩
  have cf1 := (B1.cell (p := ⟨gf, 0, none⟩) (by show gf < V.heap.size; omega)).trans cf
  have R0 : Hid (RnS L V.heap.size ad c (((bys s).drop fr).take (fr - fr)) W0 w1) := ⟨hW0, by rw [Nat.sub_self]; exact hst0, hR0⟩
  have J1 : Hid (J [] w1) := own_below hJ.out hJ0.out B1
  have k1 : Hid (Kc (fun k => w.heap.size ≤ k) V w1) := Kc.below B1 (Nat.le_refl _)
  have sz1 : Hid (V.heap.size < w1.heap.size) := hR0.lt
  have x1 : Hid ([] = eL L s fr fr) := (eL_fr L s fr fr (Nat.le_refl _)).symm
  clear hst0 hR0 hW0 B1 cl cf
  gi_wp2_with (first | ((with_reducible refine atI_load 3 ?_); refine wlI_load 3 wide_fn rfl (ld3 cf1) ?_))
  clear cf1
  gi_loopw [6] (fun v wr => ∃ (k : Nat) (Wr : List Nat) (xs : List Nat), v = .int .i64 ((k : Nat) : Int) ∧ fr ≤ k ∧ k ≤ s.size ∧ Hid (RnS L V.heap.size ad c (((bys s).drop fr).take (k - fr)) Wr wr) ∧ Hid (xs = eL L s fr k) ∧ Hid (J xs wr) ∧ Hid (Kc (fun k => w.heap.size ≤ k) V wr) ∧ Hid (V.heap.size < wr.heap.size)) (fun v _ => s.size - (intOf v).toNat)
  case atStart => exact ⟨fr, W0, [], rfl, Nat.le_refl _, hfr, R0, x1, J1, k1, sz1⟩
  case round =>
    obtain ⟨k, Wr, xs, rfl, hfk, hk, hR, hx, hJr, hkr, hszr⟩ := hrel
    have hLr : HsI wr (fun k => k < w.heap.size) ad L := hLV.out.kc hkr.out (fun k h => by omega)
    have hin : Hid (∀ i, inW Wr i = true → i < L.length) := fun i hi => stn_lt hG.out h0 _ i ((hR.out.st i).1 hi)
    have hTr : Tab wr := hTV.out.kc hkr.out (by omega)
    have hsz := hkr.out.1
    have hacc := hide (callsIn_wide.1 (acc_in 5 (by omega) V.heap.size ad c L Wr hR.out.ok wr hR.out.rn (hLr.kept (fun _ _ _ => rfl) (fun k hk h => hk)) hin.out hTr h0))
    have hxb : accB L Wr = true ↔ plc L s fr k := by
      rw [accB_iff hR.out.ok]
      exact (accS_congr (fun m => hR.out.st m)).trans ⟨fun h => ⟨hfk, h⟩, fun h => h.2⟩
    generalize accB L Wr = xb at hacc hxb
    replace hxb := hide hxb
    gi_wp2
    refine ⟨trivial, fun h => (by cases h), (callsIn_wide.2 hacc.out).mono ?_⟩
    rintro e w4 ⟨rfl, B4⟩
    have hJ4 : Hid (J xs w4) := own_below hJ.out hJr.out B4
    have hk4 : Hid (Kc (fun k => w.heap.size ≤ k) V w4) := hkr.out.trans (Kc.below B4 (Nat.le_refl _))
    have hR4 : Hid (RnS L V.heap.size ad c (((bys s).drop fr).take (k - fr)) Wr w4) := ⟨hR.out.ok, hR.out.st, hR.out.rn.kept (B4.block _ hszr.out)⟩
    have hsz4 : Hid (V.heap.size < w4.heap.size) := Nat.lt_of_lt_of_le hszr.out B4.size
    clear hLr hTr hacc
    replace B4 := hide B4
    cases xb with
    | true =>
      have hp := hxb.out.1 rfl
      have hx2 : Hid (xs ++ [k] = eL L s fr (k + 1)) := by
        have := hx.out
        show _ = _
        rw [eL_succ_yes hp, ← this]
      have hxl : xs.length < s.size + 2 := by
        have := eL_le L s fr k
        rw [← hx.out] at this
        omega
      obtain ⟨fn, tmps, assign, body, hy, hR5⟩ := hYY.out xs k w4 hJ4.out hxl hsz4.out
      simp only [encO] at hy
      replace hp := hide hp
      gi_wp2
      refine ⟨fun h => (by cases h), hR5.mono ?_⟩
      clear hy hR5
      rintro e WW ⟨kf, (⟨rfl, hJ2, kp⟩ | ⟨rfl, hJx2⟩)⟩
      · obtain ⟨XS, hXS⟩ : ∃ XS, XS = xs ++ [k] := ⟨_, rfl⟩
        rw [← hXS] at hJ2 hx2
        replace hXS := hide hXS
        have kp2 : Kc (fun k => w.heap.size ≤ k) w4 WW := ⟨kp.1, fun j cs t f hj e => kp.2 j cs t f (fun h => hj h.1) e⟩
        have hk2 : Hid (Kc (fun k => w.heap.size ≤ k) V WW) := hk4.out.trans kp2
        have hR2 : Hid (RnS L V.heap.size ad c (((bys s).drop fr).take (k - fr)) Wr WW) := ⟨hR4.out.ok, hR4.out.st, kp.2 _ _ _ _ (fun h => h.2 rfl) hR4.out.rn⟩
        have hsz2 : Hid (V.heap.size < WW.heap.size) := Nat.lt_of_lt_of_le hsz4.out kp.1
        have hL2 : Hid (HsI WW (fun k => k < WW.heap.size ∧ k ≠ V.heap.size) ad L) := (hLV.out.kc hk2.out (fun k h => by omega)).kept (fun _ _ _ => rfl) (fun k hk h => ⟨hk, by omega⟩)
        have hT2 : Hid (Tab WW) := hTV.out.kc hk2.out (by omega)
        have c9 := cell_row (hk2.out.2 gs _ _ _ (by omega) hsV.out) 0 (v := .string s) rfl
        replace hJ2 := hide hJ2
        clear kf kp kp2
        by_cases hend : k = s.size
        · subst hend
          have i3 : (((s.size : Nat) : Int) == (s.size : Int)) = true := by simp
          gi_wp2_with (first | ((with_reducible refine atI_load 9 ?_); refine wlI_load 9 wide_fn rfl (ld9 c9) ?_))
          refine ⟨by first | exact wide_fn _ | exact fun f _ => wide_fn f, ?_⟩
          first | (rename_i hKK; refine hKK _ _ ?_) | (rename_i hKK x1 x2 x3; refine hKK _ _ ?_) | (rename_i hKK x1 x2 x3 x4; refine hKK _ _ ?_) | (rename_i hKK x1 x2 x3 x4 x5; refine hKK _ _ ?_) | (rename_i hKK x1 x2; refine hKK _ _ ?_)
          gi_wp2
          refine bodyPost_ret (results_none rfl _ _ _) rfl ?_
          exact ⟨⟨_, rfl⟩, .inl ⟨_, hx2.out, hJ2.out⟩⟩
        · have hlt : k < s.size := by omega
          have i3 : ((k : Int) == (s.size : Int)) = false := by simp; omega
          have i4 : (k : Int) < (s.size : Int) := by omega
          have i5 : ¬ ((s.size : Int) ≤ (k : Int)) := by omega
          have b0 := bt_eq hlt
          have hbr := bt_range s k
          obtain ⟨b, hb⟩ : ∃ b : Nat, bt s k = (b : Int) := ⟨(bt s k).toNat, by omega⟩
          have hb2 : b < 256 := by omega
          have htk : ((bys s).drop fr).take (k + 1 - fr) = ((bys s).drop fr).take (k - fr) ++ [b] := by
            rw [show k + 1 - fr = (k - fr) + 1 by omega, List.take_add_one, List.getElem?_drop, show fr + (k - fr) = k by omega, bys_at hlt, hb]
            rfl
          rw [hb] at b0
          have hfeed := hide (callsIn_wide.1 (feed_in 6 (by omega) V.heap.size ad c L Wr hR2.out.ok b hb2 WW hR2.out.rn hL2.out hin.out hT2.out h0 hlen hG.out hok.out))
          replace htk := hide htk
          replace hb := hide hb
          clear hbr
          have hltH := hide hlt
          replace hend := hide hend
          gi_wp2_with (first | ((with_reducible refine atI_load 9 ?_); refine wlI_load 9 wide_fn rfl (ld9 c9) ?_))
          refine ⟨trivial, fun h => (by cases h), (callsIn_wide.2 hfeed.out).mono ?_⟩
          rintro e w9 ⟨V9, rfl, hV9, hst9, hR9, hb9⟩
          have hS9 : RnS L V.heap.size ad c (((bys s).drop fr).take (k + 1 - fr)) V9 w9 := ⟨hV9, fun m => by
            rw [hst9 m, htk.out, stn_snoc]
            exact nxt_congr (fun i => hR2.out.st i) b m, hR9⟩
          have hg9 : WW.grownBy w9 (some V.heap.size) := ⟨hb9.os, hb9.tape, hb9.output, hb9.size, fun k hk hn => hb9.block k hk (fun e => hn (by rw [e]))⟩
          have hJ9 : Hid (J XS w9) := hJt.out _ _ _ hJ2.out hg9
          have hk9 : Hid (Kc (fun k => w.heap.size ≤ k) V w9) := hk2.out.trans ⟨hb9.size, fun k cs t fr hX e => (hb9.block k (Array.getElem?_eq_some_iff.1 e).1 (fun h => hX (by rw [h]; exact hs0))).trans e⟩
          by_cases hd : V9 = noW
          · have hdd : decide (V9 = noW) = true := by simp [hd]
            rw [hdd]
            have hno : XS = eL L s fr (s.size + 1) := by
              rw [hx2.out]
              have hn : ∀ m, ¬ stn L (((bys s).drop fr).take (k + 1 - fr)) m := fun m h => by
                have := (hS9.st m).2 h
                rw [hd, inW_no] at this
                cases this
              exact eL_dead (by have := hltH.out; omega) hfk hn
            replace hno := hide hno
            replace hS9 := hide hS9
            clear hst9 hR9 hb9 hd hg9
            gi_wp2
            refine bodyPost_ret (results_none rfl _ _ _) rfl ?_
            exact ⟨⟨_, rfl⟩, .inl ⟨_, hno.out, hJ9.out⟩⟩
          · have hdd : decide (V9 = noW) = false := by simp [hd]
            rw [hdd]
            replace hS9 := hide hS9
            have hsz9 : Hid (V.heap.size < w9.heap.size) := Nat.lt_of_lt_of_le hsz2.out hb9.size
            clear hst9 hR9 hb9 hd hg9
            gi_wp2
            go_roundw
            case rel => exact ⟨k + 1, V9, XS, by go_num, by omega, hltH.out, hS9, hx2, hJ9, hk9, hsz9⟩
            case measure => have := hltH.out; simp [intOf]; omega

      · replace hJx2 := hide hJx2
        clear kf
        gi_wp2
        refine bodyPost_ret (results_none rfl _ _ _) rfl ?_
        exact ⟨⟨_, rfl⟩, .inr ⟨_, trivial, hJx2.out⟩⟩
    | false =>
      have hp : ¬ plc L s fr k := fun h => by have := hxb.out.2 h; cases this
      obtain ⟨XS, hXS⟩ : ∃ XS, XS = xs := ⟨_, rfl⟩
      have hx2 : Hid (XS = eL L s fr (k + 1)) := by
        have := hx.out
        show _ = _
        rw [eL_succ_no hp, ← this, hXS]
      have hJ2 : Hid (J XS w4) := by rw [hXS]; exact hJ4
      replace hXS := hide hXS
      replace hp := hide hp
      have hL2 : Hid (HsI w4 (fun k => k < w4.heap.size ∧ k ≠ V.heap.size) ad L) := (hLV.out.kc hk4.out (fun k h => by omega)).kept (fun _ _ _ => rfl) (fun k hk h => ⟨hk, by omega⟩)
      have hT2 : Hid (Tab w4) := hTV.out.kc hk4.out (by omega)
      have c9 := cell_row (hk4.out.2 gs _ _ _ (by omega) hsV.out) 0 (v := .string s) rfl
      obtain ⟨WW, hWW⟩ : ∃ WW, WW = w4 := ⟨_, rfl⟩
      subst hWW
      have hk2 := hk4
      have hR2 := hR4
      have hsz2 := hsz4
      clear hk4 hR4 hsz4
      gi_wp2
      refine ⟨fun f _ => wide_fn f, ?_⟩
      first | (rename_i hKK; refine hKK _ _ ?_) | (rename_i hKK x1 x2 x3; refine hKK _ _ ?_) | (rename_i hKK x1 x2 x3 x4; refine hKK _ _ ?_) | (rename_i hKK x1 x2 x3 x4 x5; refine hKK _ _ ?_) | (rename_i hKK x1 x2; refine hKK _ _ ?_)
      by_cases hend : k = s.size
      · subst hend
        have i3 : (((s.size : Nat) : Int) == (s.size : Int)) = true := by simp
        gi_wp2_with (first | ((with_reducible refine atI_load 9 ?_); refine wlI_load 9 wide_fn rfl (ld9 c9) ?_))
        refine ⟨by first | exact wide_fn _ | exact fun f _ => wide_fn f, ?_⟩
        first | (rename_i hKK; refine hKK _ _ ?_) | (rename_i hKK x1 x2 x3; refine hKK _ _ ?_) | (rename_i hKK x1 x2 x3 x4; refine hKK _ _ ?_) | (rename_i hKK x1 x2 x3 x4 x5; refine hKK _ _ ?_) | (rename_i hKK x1 x2; refine hKK _ _ ?_)
        gi_wp2
        refine bodyPost_ret (results_none rfl _ _ _) rfl ?_
        exact ⟨⟨_, rfl⟩, .inl ⟨_, hx2.out, hJ2.out⟩⟩
      · have hlt : k < s.size := by omega
        have i3 : ((k : Int) == (s.size : Int)) = false := by simp; omega
        have i4 : (k : Int) < (s.size : Int) := by omega
        have i5 : ¬ ((s.size : Int) ≤ (k : Int)) := by omega
        have b0 := bt_eq hlt
        have hbr := bt_range s k
        obtain ⟨b, hb⟩ : ∃ b : Nat, bt s k = (b : Int) := ⟨(bt s k).toNat, by omega⟩
        have hb2 : b < 256 := by omega
        have htk : ((bys s).drop fr).take (k + 1 - fr) = ((bys s).drop fr).take (k - fr) ++ [b] := by
          rw [show k + 1 - fr = (k - fr) + 1 by omega, List.take_add_one, List.getElem?_drop, show fr + (k - fr) = k by omega, bys_at hlt, hb]
          rfl
        rw [hb] at b0
        have hfeed := hide (callsIn_wide.1 (feed_in 6 (by omega) V.heap.size ad c L Wr hR2.out.ok b hb2 WW hR2.out.rn hL2.out hin.out hT2.out h0 hlen hG.out hok.out))
        replace htk := hide htk
        replace hb := hide hb
        clear hbr
        have hltH := hide hlt
        replace hend := hide hend
        gi_wp2_with (first | ((with_reducible refine atI_load 9 ?_); refine wlI_load 9 wide_fn rfl (ld9 c9) ?_))
        refine ⟨trivial, fun h => (by cases h), (callsIn_wide.2 hfeed.out).mono ?_⟩
        rintro e w9 ⟨V9, rfl, hV9, hst9, hR9, hb9⟩
        have hS9 : RnS L V.heap.size ad c (((bys s).drop fr).take (k + 1 - fr)) V9 w9 := ⟨hV9, fun m => by
          rw [hst9 m, htk.out, stn_snoc]
          exact nxt_congr (fun i => hR2.out.st i) b m, hR9⟩
        have hg9 : WW.grownBy w9 (some V.heap.size) := ⟨hb9.os, hb9.tape, hb9.output, hb9.size, fun k hk hn => hb9.block k hk (fun e => hn (by rw [e]))⟩
        have hJ9 : Hid (J XS w9) := hJt.out _ _ _ hJ2.out hg9
        have hk9 : Hid (Kc (fun k => w.heap.size ≤ k) V w9) := hk2.out.trans ⟨hb9.size, fun k cs t fr hX e => (hb9.block k (Array.getElem?_eq_some_iff.1 e).1 (fun h => hX (by rw [h]; exact hs0))).trans e⟩
        by_cases hd : V9 = noW
        · have hdd : decide (V9 = noW) = true := by simp [hd]
          rw [hdd]
          have hno : XS = eL L s fr (s.size + 1) := by
            rw [hx2.out]
            have hn : ∀ m, ¬ stn L (((bys s).drop fr).take (k + 1 - fr)) m := fun m h => by
              have := (hS9.st m).2 h
              rw [hd, inW_no] at this
              cases this
            exact eL_dead (by have := hltH.out; omega) hfk hn
          replace hno := hide hno
          replace hS9 := hide hS9
          clear hst9 hR9 hb9 hd hg9
          gi_wp2
          refine bodyPost_ret (results_none rfl _ _ _) rfl ?_
          exact ⟨⟨_, rfl⟩, .inl ⟨_, hno.out, hJ9.out⟩⟩
        · have hdd : decide (V9 = noW) = false := by simp [hd]
          rw [hdd]
          replace hS9 := hide hS9
          have hsz9 : Hid (V.heap.size < w9.heap.size) := Nat.lt_of_lt_of_le hsz2.out hb9.size
          clear hst9 hR9 hb9 hd hg9
          gi_wp2
          go_roundw
          case rel => exact ⟨k + 1, V9, XS, by go_num, by omega, hltH.out, hS9, hx2, hJ9, hk9, hsz9⟩
          case measure => have := hltH.out; simp [intOf]; omega
end Go.Proofs.YtkfdikpnnkbgaaaGreatDoor
