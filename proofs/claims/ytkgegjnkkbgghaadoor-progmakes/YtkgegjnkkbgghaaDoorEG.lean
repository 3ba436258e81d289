/-
  cut, some: a pattern that is not too great.
-/
import Derived.Test.YtkgegjnkkbgghaaDoorEF
namespace Go.Proofs.YtkgegjnkkbgghaaDoor
open Go.RowKit
set_option linter.unusedVariables false
set_option linter.unusedSimpArgs false

/-- append of a pattern, as it runs. -/
theorem run_snoc {w : World} {base m : Nat} {v : Value} {f : Fo} {t : Tr} {u : Value} (R : Rw w base v f) (T : TrV w (fun b => m ≤ b) (reV t.1.k t.1.s u t.1.mn t.1.mx) t) (hm : ∀ k, v.ownBlock = some k → k < m) (hbm : base ≤ m) (hmw : m ≤ w.heap.size) (hf : f.len ≤ 1000000) :
    ∃ a2 n2 c2 w2, (Builtin.append_ #[25, 25] 25 #[v, .slice (some ⟨w.heap.size, 0, none⟩) 1 1]).run Tryd.prog (w.alloc (.cells (reA t.1.k t.1.s u t.1.mn t.1.mx) 27)) = .ok (.slice a2 n2 c2) w2 ∧ Rw w2 base (.slice a2 n2 c2) (f.snoc t) ∧ (w.alloc (.cells (reA t.1.k t.1.s u t.1.mn t.1.mx) 27)).grownBy w2 v.ownBlock := by
  obtain ⟨i0, hi, hz0, hz1, hz2⟩ := info28
  obtain ⟨u', zs, hu', o, p, kd⟩ := T
  obtain rfl : u = u' := by
    simp only [reV, reA, Value.agg.injEq] at hu'
    have := congrArg (fun a => a[5]?) hu'
    simpa using this
  obtain ⟨xs, ro, rk⟩ := R
  obtain ⟨ua, uc, hu, _, _⟩ := owns8_val o
  have hu1 : u.oneCell' = true := by rw [hu]; rfl
  generalize hA : reA t.1.k t.1.s u t.1.mn t.1.mx = A at *
  have hAl : A.toList.length = 8 := by rw [← hA]; rfl
  have hold : ∀ b, b < w.heap.size → (w.alloc (.cells A 27)).heap[b]? = w.heap[b]? := fun b hb => Below.heap_alloc _ _ _ hb
  obtain ⟨v2, w2, h1, h2, h3, _, h5⟩ := run_append_own_at (P := Tryd.prog) (w.alloc (.cells A 27)) base 25 25 27 i0 (reV 0 noSet (.slice none 0 0) 0 0) 8 80 Tryd.underlying25 hi hz0 hz1 hz2 rfl (by decide) v f.len xs (owns8_of_block ro (fun b hb => hold b (owns8_lt ro hb).2)) ⟨w.heap.size, 0, none⟩ 1 1 A.toList (by omega) (fun j v' hj => by
    rw [add_plain, Nat.zero_add, cell_of_row _ _ _ _ _ _ (heap_alloc_new w _)]
    simpa using hj) (by rw [← hA]; exact reA_one hu1) (by unfold maxLen; omega) (by omega) (by simp; omega)
  obtain ⟨a2, c2, hv2, _, _⟩ := owns8_val h2
  subst hv2
  refine ⟨a2, f.len + 1, c2, w2, h1, ⟨xs ++ A.toList, by rw [Fo.len_snoc]; exact h2, ?_⟩, h3⟩
  have keep : ∀ b, b < w.heap.size → v.ownBlock ≠ some b → w2.heap[b]? = w.heap[b]? := fun b hb hn => by
    rw [h3.block b (by simp; omega) (fun e => hn e.symm), hold b hb]
  have ne : ∀ b, b < w.heap.size → v.ownBlock ≠ some b → (Value.slice a2 (f.len + 1) c2).ownBlock ≠ some b := fun b hb hn e => by
    rcases h5 with h | h
    · exact hn (by rw [← h, e])
    · rw [h] at e
      have : w.heap.size + 1 = b := by simpa using e
      omega
  have far : ∀ b, m ≤ b → v.ownBlock ≠ some b := fun b hb e => by have := hm b e; omega
  have step : ∀ {ff : Fo} {ys : List Value} {PP : Nat → Prop}, Kd w PP ff ys → (∀ b, PP b → base ≤ b ∧ v.ownBlock ≠ some b) → Kd w2 (fun b => base ≤ b ∧ (Value.slice a2 (f.len + 1) c2).ownBlock ≠ some b) ff ys := fun hk hP =>
    ((hk.mono (P' := fun b => (base ≤ b ∧ (Value.slice a2 (f.len + 1) c2).ownBlock ≠ some b) ∧ v.ownBlock ≠ some b) (fun b hb hp => ⟨⟨(hP b hp).1, ne b hb (hP b hp).2⟩, (hP b hp).2⟩)).kept (w' := w2) (fun b hp hl => keep b hl hp.2)).mono (fun b _ hp => hp.1)
  have o2 := owns8_of_block (w' := w2) o (fun b hb => keep b (owns8_lt o hb).2 (far b (p b hb)))
  rw [← hA]
  exact Kd.snoc o2 (fun b hb => ⟨by have := p b hb; omega, ne b (owns8_lt o hb).2 (far b (p b hb))⟩) (step kd (fun b hb => ⟨by omega, far b hb⟩)) (step rk (fun b hb => hb))
theorem st25 {S : Nat → Prop} {w0 w : World} {L : List Ent} (H : St S w0 w L) (i : Nat) {g : Nat} {k : Int} {s : S4} {l : Value} {mn mx : Int} (h : L[i]? = some (true, g, 27, reA k s l mn mx)) (a : Option Addr) (n c : Nat) : (storeVar 25 ⟨g, 5, none⟩ (.slice a n c)).run Tryd.prog w = .ok () (w.setCell ⟨g, 5, none⟩ (.slice a n c)) := by
  have hc := H.cell i 5 h (v := l) rfl
  have hf := H.fz i 5 h
  have e : (storeCells ⟨g, 5, none⟩ [.slice a n c]).run Tryd.prog w = .ok () (w.setCell ⟨g, 5, none⟩ (.slice a n c)) := by simp [storeCells, go_sem, run_store Tryd.prog w _ (.slice a n c) _ rfl, stored, hc, hf]
  have e4 : (Value.slice a n c).cells = #[.slice a n c] := rfl
  unfold storeVar
  simp only [Sem.run_bind, one26, Result.andThen_ok, e4]
  simpa using e
/-- What can be read of a pattern that came in, at any depth. -/
theorem argR_cases {w0 : World} : ∀ {d : Nat} {cs : List Value}, ArgR w0 d cs → ∃ (k : Int) (s : S4) (a : Option Addr) (n c : Nat) (mn mx : Int), cs = (reA k s (.slice a n c) mn mx).toList ∧ ∀ d', d = d' + 1 → n ≤ maxLen ∧ (0 < n → ∃ b off, a = some ⟨b, off, none⟩ ∧ b < w0.heap.size ∧ ∀ i, i < n → ∃ cs', cs'.length = 8 ∧ (∀ j u, cs'[j]? = some u → w0.cell? ⟨b, off + i * 8 + j, none⟩ = some u) ∧ ArgR w0 d' cs')
  | 0, cs, ⟨k, s, a, n, c, mn, mx, e⟩ => ⟨k, s, a, n, c, mn, mx, e, fun d' h => by omega⟩
  | d + 1, cs, ⟨k, s, a, n, c, mn, mx, e, h1, h2⟩ => ⟨k, s, a, n, c, mn, mx, e, fun d' h => by
      obtain rfl : d = d' := by omega
      exact ⟨h1, h2⟩⟩
/-- How cut ends. -/
def CutP (w : World) (gb β : Nat) (e : Ending) (w' : World) : Prop := ∃ t u β', e = .returned (reV t.1.k t.1.s u t.1.mn t.1.mx) ∧ TrV w' (fun b => w.heap.size ≤ b) (reV t.1.k t.1.s u t.1.mn t.1.mx) t ∧ w'.heap[gb]? = some (.cells #[.int .i64 ((β' : Nat) : Int)] 3 (0, 0)) ∧ β' + szT t = β ∧ But (fun k => k = gb) w w'
set_option maxHeartbeats 4000000 in
set_option maxRecDepth 100000 in
theorem cut_step (w0 : World) (gb : Nat) (hgb : w0.heap.size ≤ gb) (d : Nat) (ih : ∀ d', d = d' + 1 → d ≤ 130 → ∀ (cs : List Value) (β : Nat) (w : World), ArgR w0 d' cs → β + 1 ≤ 100 → (∀ k, k < w0.heap.size → w.heap[k]? = w0.heap[k]?) → w.heap[gb]? = some (.cells #[.int .i64 ((β + 1 : Nat) : Int)] 3 (0, 0)) →
    Calls Tryd.prog 20 #[.agg cs.toArray, .int .i64 (d' : Int), .pointer (some ⟨gb, 0, none⟩)] w (CutP w gb (β + 1))) : d ≤ 130 → ∀ (cs : List Value) (β : Nat) (w : World), ArgR w0 d cs → β + 1 ≤ 100 → (∀ k, k < w0.heap.size → w.heap[k]? = w0.heap[k]?) → w.heap[gb]? = some (.cells #[.int .i64 ((β + 1 : Nat) : Int)] 3 (0, 0)) →
    Calls Tryd.prog 20 #[.agg cs.toArray, .int .i64 (d : Int), .pointer (some ⟨gb, 0, none⟩)] w (CutP w gb (β + 1)) := by
  intro hd cs β w hA hβ hw0 hbx
  obtain ⟨k, s, a, n, c, mn, mx, rfl, hkid⟩ := argR_cases hA
  show Calls Tryd.prog 20 #[reV k s (.slice a n c) mn mx, .int .i64 (d : Int), .pointer (some ⟨gb, 0, none⟩)] w _
  have lgb : gb < w.heap.size := (Array.getElem?_eq_some_iff.1 hbx).1
  have H : St (fun k => k = gb) w w [(true, gb, 3, #[.int .i64 ((β + 1 : Nat) : Int)])] := ⟨But.refl _ _, fun x hx => by rw [List.mem_singleton.1 hx]; exact hbx, fun x hx _ _ => by rw [List.mem_singleton.1 hx], by simp⟩
  obtain ⟨b1, hb1⟩ : ∃ b1 : Int, b1 = ((β + 1 : Nat) : Int) := ⟨_, rfl⟩
  rw [← hb1] at H
  have hb2 : b1 - 1 = (β : Int) := by omega
  have hb3 : IntKind.i64.wrap (β : Int) = (β : Int) := by rw [IntKind.wrap_i64]; omega
  have hb4 : wrap64 (β : Int) = (β : Int) := by unfold wrap64; omega
  have hβ2 : β ≤ 100 := by omega
  have hw0' := hide hw0
  replace hkid := hide hkid
  replace ih := hide ih
  replace hbx := hide hbx
  replace hb1 := hide hb1
  clear hA hw0
  have m0 := trivial
  go_enter Tryd.func20, Tryd.ntmps20
  go_wp2_with (first | ((with_reducible refine at_box 27 ?_); refine wl_box28 H rfl ?_; clear H; intro g3 w1 H q1 q2) | ((with_reducible refine at_alloc 27 ?_); clear m0; refine wl_alloc28 H ?_; clear H; intro g6 w1 H q5 q6) | ((with_reducible refine at_alloc 27 ?_); refine wl_alloc28 H ?_; clear H; intro g7 w2 H q3 q4) | ((with_reducible refine at_load 3 ?_); refine wl_ld3 2 0 H (v := .int .i64 b1) rfl rfl rfl ?_) | ((with_reducible refine at_store 3 ?_); refine wl_store1 2 0 3 (v := .int .i64 (β : Int)) H rfl rfl rfl (by simp) one3 rfl ?_; clear H; intro w3 H) | ((with_reducible refine at_load 27 ?_); refine wl_load28 1 H rfl rfl ?_) | ((with_reducible refine at_store 27 ?_); refine wl_store28 0 H rfl rfl rfl rfl ?_; clear H; intro w4 H) | ((with_reducible refine at_store 25 ?_); refine wl_setL 0 H rfl rfl rfl ?_; clear H; intro w5 H))
  have HL : Hid (St (fun k => k = gb) w w5 [(true, g7, 27, reA k s (.slice none 0 0) mn mx), (true, g6, 27, reA 0 noSet (.slice none 0 0) 0 0), (true, g3, 27, reA k s (.slice a n c) mn mx), (true, gb, 3, #[.int .i64 ((β : Nat) : Int)])]) := H
  clear H
  have l7 := HL.out.lti 0 rfl
  have l6 := HL.out.lti 1 rfl
  have l3 := HL.out.lti 2 rfl
  have l5 := HL.out.but.size
  have hne : Hid (gb ≠ g7 ∧ gb ≠ g6 ∧ gb ≠ g3) := by
    refine ⟨fun e => ?_, fun e => ?_, fun e => ?_⟩ <;> (have := HL.out.nd; simp [e] at this)
  have fin : Hid (∀ (w7 : World), St (fun k => k = gb) w w7 ([(true, g7, 27, reA k s (.slice none 0 0) mn mx), (true, g6, 27, reA 0 noSet (.slice none 0 0) 0 0), (true, g3, 27, reA k s (.slice a n c) mn mx), (true, gb, 3, #[.int .i64 ((β : Nat) : Int)])] ++ []) → True) := fun _ _ => trivial
  have fin2 : Hid (∀ (w7 : World) (f : Fo) (β' : Nat) (va : Option Addr) (vn vc : Nat), w7.heap[gb]? = some (.cells #[.int .i64 ((β' : Nat) : Int)] 3 (0, 0)) → But (fun k => k = gb) w w7 → Rw w7 w5.heap.size (.slice va vn vc) f → β' + f.sz = β → CutP w gb (β + 1) (.returned (reV k s (.slice va vn vc) mn mx)) w7) := fun w7 f β' va vn vc h1 h2 h3 h4 => by
    obtain ⟨xs, ro, rk⟩ := h3
    refine ⟨(⟨k, s, mn, mx⟩, f), .slice va vn vc, β', rfl, ⟨_, xs, rfl, owns8_mono ro (Nat.zero_le _), fun b hb => ?_, rk.mono (fun b _ hb => ?_)⟩, h1, ?_, h2⟩
    · have := owns8_lt ro hb; omega
    · have := hb.1; omega
    · simp only [szT]; omega
  clear fin
  go_loopw [8] (fun iv ws => ∃ (i : Nat) (f : Fo) (va : Option Addr) (vn vc β' : Nat), iv = .int .i64 (i : Int) ∧ i ≤ 100 ∧ β' ≤ 100 ∧ Hid (St (fun k => k = gb) w ws [(true, g7, 27, reA k s (.slice va vn vc) mn mx), (true, g6, 27, reA 0 noSet (.slice none 0 0) 0 0), (true, g3, 27, reA k s (.slice a n c) mn mx), (true, gb, 3, #[.int .i64 ((β' : Nat) : Int)])]) ∧ Hid (Rw ws w5.heap.size (.slice va vn vc) f) ∧ Hid (β' + f.sz = β ∧ f.len = i) ∧ Hid (w5.heap.size ≤ ws.heap.size)) (fun iv _ => 200 - (RowKit.intOf iv).toNat)
  case atStart => exact ⟨0, .nil, none, 0, 0, β, rfl, Nat.zero_le _, hβ2, HL, Rw.start _ _, ⟨rfl, rfl⟩, Nat.le_refl _⟩
  case round =>
    obtain ⟨i, f, va, vn, vc, β', rfl, hi100, hβ100, Hr, Rr, hsum, hsz⟩ := hrel
    have c3 := Hr.out.cell 2 5 rfl (v := .slice a n c) rfl
    have cB := Hr.out.cell 3 0 rfl (v := .int .i64 ((β' : Nat) : Int)) rfl
    have finr : Hid (∀ w7, St (fun k => k = gb) w w7 [(true, g7, 27, reA k s (.slice va vn vc) mn mx), (true, g6, 27, reA k s (.slice va vn vc) mn mx), (true, g3, 27, reA k s (.slice a n c) mn mx), (true, gb, 3, #[.int .i64 ((β' : Nat) : Int)])] → Rw w7 w5.heap.size (.slice va vn vc) f → CutP w gb (β + 1) (.returned (reV k s (.slice va vn vc) mn mx)) w7) := fun w7 H7 R7 => fin2.out w7 f β' va vn vc (H7.get 3 rfl) H7.but R7 hsum.out.1
    have Rk : Hid (∀ ys, Rw (wr.setRow g6 ys) w5.heap.size (.slice va vn vc) f) := fun ys => Rr.out.kept (fun b hb _ => setRow_other _ _ _ _ (by omega))
    by_cases hin : (i : Int) < (n : Int)
    case neg =>
      go_wp2_with (first | ((with_reducible refine at_load 27 ?_); refine wl_load28 0 Hr.out rfl rfl ?_) | ((with_reducible refine at_store 27 ?_); refine wpList_store_row rfl 27 _ _ rfl g6 _ rfl rfl 27 _ (Hr.out.get 1 rfl) size28 rfl (by have h1 : ∀ k n, (Value.int k n).oneCell' = true := fun _ _ => rfl; have h2 : ∀ a n c, (Value.slice a n c).oneCell' = true := fun _ _ _ => rfl; simp [reA, h1, h2]) ?_))
      have H7 := Hr.out.setRow 1 rfl (reA k s (.slice va vn vc) mn mx)
      refine bodyPost_ret (results_cell0 rfl _ _ g6 _ rfl (load28 (H7.get 1 rfl))) rfl ?_
      exact finr.out _ H7 (Rk.out _)
    by_cases hd0 : d = 0
    case pos =>
      have e0 : (d : Int) = 0 := by omega
      have e1 : ¬ ((0 : Int) < (d : Int)) := by omega
      go_wp2_with (first | ((with_reducible refine at_load 27 ?_); refine wl_load28 0 Hr.out rfl rfl ?_) | ((with_reducible refine at_store 27 ?_); refine wpList_store_row rfl 27 _ _ rfl g6 _ rfl rfl 27 _ (Hr.out.get 1 rfl) size28 rfl (by have h1 : ∀ k n, (Value.int k n).oneCell' = true := fun _ _ => rfl; have h2 : ∀ a n c, (Value.slice a n c).oneCell' = true := fun _ _ _ => rfl; simp [reA, h1, h2]) ?_))
      have H7 := Hr.out.setRow 1 rfl (reA k s (.slice va vn vc) mn mx)
      refine bodyPost_ret (results_cell0 rfl _ _ g6 _ rfl (load28 (H7.get 1 rfl))) rfl ?_
      exact finr.out _ H7 (Rk.out _)
    have e1 : (0 : Int) < (d : Int) := by omega
    by_cases hb0 : β' = 0
    case pos =>
      have e2 : ¬ ((0 : Int) < ((β' : Nat) : Int)) := by omega
      go_wp2_with (first | ((with_reducible refine at_load 27 ?_); refine wl_load28 0 Hr.out rfl rfl ?_) | ((with_reducible refine at_store 27 ?_); refine wpList_store_row rfl 27 _ _ rfl g6 _ rfl rfl 27 _ (Hr.out.get 1 rfl) size28 rfl (by have h1 : ∀ k n, (Value.int k n).oneCell' = true := fun _ _ => rfl; have h2 : ∀ a n c, (Value.slice a n c).oneCell' = true := fun _ _ _ => rfl; simp [reA, h1, h2]) ?_))
      have H7 := Hr.out.setRow 1 rfl (reA k s (.slice va vn vc) mn mx)
      refine bodyPost_ret (results_cell0 rfl _ _ g6 _ rfl (load28 (H7.get 1 rfl))) rfl ?_
      exact finr.out _ H7 (Rk.out _)
    have e2 : (0 : Int) < ((β' : Nat) : Int) := by omega
    obtain ⟨d', rfl⟩ : ∃ d', d = d' + 1 := ⟨d - 1, by omega⟩
    obtain ⟨γ, rfl⟩ : ∃ γ, β' = γ + 1 := ⟨β' - 1, by omega⟩
    obtain ⟨hnm, hels⟩ := hkid.out d' rfl
    obtain ⟨b, off, rfl, hbl, hel⟩ := hels (by omega)
    obtain ⟨cs', hl8, hcell, hA'⟩ := hel i (by omega)
    obtain ⟨k1, s1, a1, n1, cc1, mn1, mx1, rfl, _⟩ := argR_cases hA'
    have hkeep : ∀ kk, kk < w0.heap.size → wr.heap[kk]? = w0.heap[kk]? := fun kk hkk => (Hr.out.but.block kk (by omega) (by omega)).trans (hw0'.out kk hkk)
    have hld : (loadVar 27 ⟨b, off + i * 8, none⟩).run Tryd.prog wr.drew = .ok (reV k1 s1 (.slice a1 n1 cc1) mn1 mx1) wr.drew := load28c (fun j v hj => by
      have h1 := hcell j v (by simpa using hj)
      exact (World.cell?_of_block (w := w0) (w' := wr.drew) (a := ⟨b, off + i * 8 + j, none⟩) (hkeep b hbl)).trans h1)
    have c7 := Hr.out.cell 0 5 rfl (v := .slice va vn vc) rfl
    obtain ⟨dd, hdd⟩ : ∃ dd : Int, dd = ((d' + 1 : Nat) : Int) := ⟨_, rfl⟩
    rw [← hdd] at e1
    simp only [← hdd]
    have hw1 : dd - 1 = (d' : Int) := by omega
    have hw2 : IntKind.i64.wrap (d' : Int) = (d' : Int) := by rw [IntKind.wrap_i64]; omega
    have hw3 : wrap64 (d' : Int) = (d' : Int) := by unfold wrap64; omega
    have IH := hide (ih.out d' rfl hd (reA k1 s1 (.slice a1 n1 cc1) mn1 mx1).toList γ wr.drew hA' (by omega) hkeep (Hr.out.get 3 rfl))
    have hiH := hide hin
    replace hcell := hide hcell
    replace hkeep := hide hkeep
    replace hld := hide hld
    replace c7 := hide c7
    replace hels := hide hels
    replace hel := hide hel
    replace hl8 := hide hl8
    clear ih hkid hnm finr Rk
    go_wp2_with fail
    refine reg20_7 wr g3 g7 gb b off i n c vn vc va dd (d' : Int) k1 s1 (.slice a1 n1 cc1) mn1 mx1 c7.out c3 hld.out hin hw1 hw2 hw3 _ _ _ _ _ _ _ _ _ _ _ _ _ _ _ _ _ _ _ _ _ _ _ _ _ _ _ _ _ _ _ _ _ _ _ _ _ _ _ _ _ _ _ _ ?_
    refine IH.out.mono ?_
    rintro e w8 ⟨t4, u4, β4, rfl, T4, hb4', hs4, B4⟩
    have B4' : But (fun k => k = gb) wr w8 := (But.refl _ wr).drew.trans B4 (fun _ _ h => h)
    have hsz8 := B4'.size
    have H8 : St (fun k => k = gb) w w8 [(true, g7, 27, reA k s (.slice va vn vc) mn mx), (true, g6, 27, reA 0 noSet (.slice none 0 0) 0 0), (true, g3, 27, reA k s (.slice (some ⟨b, off, none⟩) n c) mn mx), (true, gb, 3, #[.int .i64 ((β4 : Nat) : Int)])] := Hr.out.callS B4' (fun _ _ h => h) rfl (fun x hx => by
      have hn := hne.out
      rcases List.mem_cons.1 hx with rfl | hx
      · exact .inl ⟨by simp, fun h => hn.1 h.symm⟩
      rcases List.mem_cons.1 hx with rfl | hx
      · exact .inl ⟨by simp, fun h => hn.2.1 h.symm⟩
      rcases List.mem_cons.1 hx with rfl | hx
      · exact .inl ⟨by simp, fun h => hn.2.2 h.symm⟩
      rw [List.mem_singleton.1 hx]
      exact .inr hb4')
    have R8 : Rw w8 w5.heap.size (.slice va vn vc) f := Rr.out.kept (fun b hb hl => B4'.block b hl (by omega))
    have hfl : f.len ≤ 1000000 := by have := hsum.out.2; omega
    obtain ⟨a2, n2, c2, w9, happ, R9, G9⟩ := run_snoc (m := wr.heap.size) R8 T4 (fun kk hkk => (Rr.out.lt hkk).2) hsz.out hsz8 hfl
    have H9 := ((H8.alloc 27 (reA t4.1.k t4.1.s u4 t4.1.mn t4.1.mx)).tail).grown G9 (fun kk hkk => ⟨fun x hx => by
      have hk := (R8.lt hkk).1
      have hx2 := HL.out.lti 3 rfl
      rcases List.mem_cons.1 hx with rfl | hx
      · simp only; omega
      rcases List.mem_cons.1 hx with rfl | hx
      · simp only; omega
      rcases List.mem_cons.1 hx with rfl | hx
      · simp only; omega
      rw [List.mem_singleton.1 hx]
      simp only
      omega, fun hl => by have := (R8.lt hkk).1; omega⟩)
    have hst := st25 H9 0 rfl a2 n2 c2
    have H10 : Hid (St (fun k => k = gb) w (w9.setCell ⟨g7, 5, none⟩ (.slice a2 n2 c2)) [(true, g7, 27, reA k s (.slice a2 n2 c2) mn mx), (true, g6, 27, reA 0 noSet (.slice none 0 0) 0 0), (true, g3, 27, reA k s (.slice (some ⟨b, off, none⟩) n c) mn mx), (true, gb, 3, #[.int .i64 ((β4 : Nat) : Int)])]) := H9.setCell 0 rfl 5 (.slice a2 n2 c2)
    have R10 : Hid (Rw (w9.setCell ⟨g7, 5, none⟩ (.slice a2 n2 c2)) w5.heap.size (.slice a2 n2 c2) (f.snoc t4)) := R9.kept (fun b hb _ => Below.heap_setCell w9 ⟨g7, 5, none⟩ _ b (by show b ≠ g7; omega))
    have hsum2 : Hid (β4 + (f.snoc t4).sz = β ∧ (f.snoc t4).len = i + 1) := ⟨by rw [Fo.sz_snoc]; have := hsum.out.1; omega, by rw [Fo.len_snoc, hsum.out.2]⟩
    have hsz10 : Hid (w5.heap.size ≤ (w9.setCell ⟨g7, 5, none⟩ (.slice a2 n2 c2)).heap.size) := by
      have h1 := G9.size
      have h2 := hsz.out
      have h3 : (w9.setCell ⟨g7, 5, none⟩ (.slice a2 n2 c2)).heap.size = w9.heap.size := by simp [World.setCell]
      show w5.heap.size ≤ (w9.setCell ⟨g7, 5, none⟩ (.slice a2 n2 c2)).heap.size
      rw [h3]
      simp at h1
      omega
    have hbd : Hid (i + 1 ≤ 100 ∧ β4 ≤ 100) := by
      have h1 := len_le_sz (f.snoc t4)
      have h2 := hsum2.out
      exact ⟨by omega, by omega⟩
    refine ⟨_, _, _, _, _, .slice a2 n2 c2, w9, _, rfl, H8.cell 0 5 rfl rfl, (H8.alloc 27 _).cell 1 5 rfl rfl, happ, hst, ?_⟩
    generalize w9.setCell ⟨g7, 5, none⟩ (.slice a2 n2 c2) = w10 at H10 R10 hsz10 hst
    clear hst happ H9 H8 R8 R9 G9 T4 hb4' B4 B4' IH hld c7 c3 cB
    go_wp2_with fail
    go_roundw
    case rel => exact ⟨i + 1, f.snoc t4, a2, n2, c2, β4, by go_num, hbd.out.1, hbd.out.2, H10, R10, hsum2, hsz10⟩
    case measure => simp [RowKit.intOf]; omega
set_option maxHeartbeats 4000000 in
set_option maxRecDepth 100000 in
theorem cut_any (w0 : World) (gb : Nat) (hgb : w0.heap.size ≤ gb) : ∀ (d : Nat), d ≤ 130 → ∀ (cs : List Value) (β : Nat) (w : World), ArgR w0 d cs → β + 1 ≤ 100 → (∀ k, k < w0.heap.size → w.heap[k]? = w0.heap[k]?) → w.heap[gb]? = some (.cells #[.int .i64 ((β + 1 : Nat) : Int)] 3 (0, 0)) →
    Calls Tryd.prog 20 #[.agg cs.toArray, .int .i64 (d : Int), .pointer (some ⟨gb, 0, none⟩)] w (CutP w gb (β + 1)) := by
  intro d
  induction d with
  | zero => exact cut_step w0 gb hgb 0 (fun d' h => by omega)
  | succ d ih => exact cut_step w0 gb hgb (d + 1) (fun d' h => by
      obtain rfl : d = d' := by omega
      intro hd
      exact ih (by omega))
end Go.Proofs.YtkgegjnkkbgghaaDoor
