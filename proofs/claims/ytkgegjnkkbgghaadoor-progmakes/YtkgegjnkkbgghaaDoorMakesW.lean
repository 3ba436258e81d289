/-
  Two programs that are the same; the walk of ProgMakes.
-/
import Derived.Test.YtkgegjnkkbgghaaDoorKB
import Derived.Test.YtkgegjnkkbgghaaDoorEH
import Derived.Test.YtkgegjnkkbgghaaDoorDW
namespace Go.Proofs.YtkgegjnkkbgghaaDoor
open Go.RowKit Go.Shelf Go.Lib
set_option linter.unusedVariables false
set_option linter.unusedSimpArgs false

theorem RI.loadM {w : World} {v : Value} {L : List Ins} (h : RI w v L) {k : Nat} {i : Ins} (hk : L[k]? = some i) : ∃ g c, v = .slice (some ⟨g, 0, none⟩) L.length c ∧ (loadVar 45 ⟨g, k * 7, none⟩).run Tryd.prog w = .ok (insV i) w := by
  obtain ⟨g, c, e, _, hc⟩ := h.at hk
  exact ⟨g, c, e, loadIc hc⟩
theorem run_ld45x {w : World} {dst : Option Nat} {x : Operand} {ty : TypeId} {pos : String} {after : Array Edge} (ev : Operand → Value) {ad : Addr} {v : Value} (hx : ev x = .pointer (some ad)) (hr : (loadVar 45 ad).run Tryd.prog w = .ok v w) : (execOp ev ⟨dst, .load 45 x, ty, pos, after, none⟩).run Tryd.prog w = .ok (.value v) w := by
  unfold execOp
  simp only [hx, Instr.loadAt, Instr.sureAddr, Sem.run_bind, Sem.run_pure, Result.andThen_ok, hr]
theorem guard45 : Tryd.prog.eqGuardType Tryd.prog.depth 45 = false := by kernel_rfl
theorem run_neqIx {w : World} {dst : Option Nat} {x y : Operand} {ty : TypeId} {pos : String} {after : Array Edge} (ev : Operand → Value) (p : Ins) (hx : ev x = insV p) (hy : ev y = insV p) : (execOp ev ⟨dst, .binOp .neq 45 x y 45, ty, pos, after, none⟩).run Tryd.prog w = .ok (.value (.bool false)) w := by
  have hg : (eqGuard .neq 45 x y (insV p) (insV p)).run Tryd.prog w = .ok () w := run_eqGuard_agg w .neq 45 x y (insA p) (insA p) guard45
  unfold execOp
  simp only [hx, hy, Sem.run_bind, hg, run_neqI, Result.andThen_ok, Sem.run_pure]
theorem slice_cell {w : World} {P : Nat → Prop} {t : Tr} {u : Value} (T : TrV w P (reV t.1.k t.1.s u t.1.mn t.1.mx) t) : ∃ a n c, u = .slice a n c := by
  obtain ⟨va, vn, vc, hx⟩ := T.val
  simp only [reV, reA, Value.agg.injEq] at hx
  have := congrArg (fun a => a[5]?) hx
  simp at this
  exact ⟨_, _, _, this⟩
theorem ArgR.keptM {w w' : World} (hb : Below w.heap.size w w') : ∀ {d : Nat} {cs : List Value}, ArgR w d cs → ArgR w' d cs
  | 0, _, h => h
  | d + 1, cs, ⟨k, s, a, n, c, mn, mx, e, h1, h2⟩ => ⟨k, s, a, n, c, mn, mx, e, h1, fun hp => by
      obtain ⟨b, off, e1, e2, e3⟩ := h2 hp
      refine ⟨b, off, e1, by have := hb.size; omega, fun i hi => ?_⟩
      obtain ⟨cs', f1, f2, f3⟩ := e3 i hi
      exact ⟨cs', f1, fun j u hj => (hb.cell (p := ⟨b, off + i * 8 + j, none⟩) e2).trans (f2 j u hj), ArgR.keptM hb f3⟩⟩
theorem same_none (w : World) : Calls Tryd.prog 13 #[.slice none 0 0, .slice none 0 0] w fun e w' => e = .returned (.bool true) ∧ Below w.heap.size w w' := by
  have F := hide (Below.refl w.heap.size w)
  go_enter Tryd.func13, Tryd.ntmps13
  go_wp2_with fail
  go_loopw [5] (fun iv wr => iv = .int .i64 0 ∧ Hid (Below w.heap.size w wr)) (fun _ _ => 0)
  case atStart => exact ⟨rfl, F⟩
  case round =>
    obtain ⟨rfl, Fr⟩ := hrel
    go_wp2_with fail
    go_ret
    exact ⟨rfl, Fr.out⟩
set_option maxHeartbeats 4000000 in
set_option maxRecDepth 100000 in
theorem same_any (L : List Ins) (n : Nat) (hn : L.length = n) (hn2 : n ≤ 2048) (g1 g2 c1 c2 : Nat) (w : World) (R1 : RI w (.slice (some ⟨g1, 0, none⟩) n c1) L) (R2 : RI w (.slice (some ⟨g2, 0, none⟩) n c2) L) : Calls Tryd.prog 13 #[.slice (some ⟨g1, 0, none⟩) n c1, .slice (some ⟨g2, 0, none⟩) n c2] w fun e w' => e = .returned (.bool true) ∧ Below w.heap.size w w' := by
  have F := hide (Below.refl w.heap.size w)
  have LD1 : Hid (∀ w', Below w.heap.size w w' → ∀ i z, L[i]? = some z → (loadVar 45 ⟨g1, i * 7, none⟩).run Tryd.prog w' = .ok (insV z) w') := fun w' hb i z hz => by
    obtain ⟨g, c, e, h⟩ := (R1.below hb).loadM hz
    cases e
    exact h
  have LD2 : Hid (∀ w', Below w.heap.size w w' → ∀ i z, L[i]? = some z → (loadVar 45 ⟨g2, i * 7, none⟩).run Tryd.prog w' = .ok (insV z) w') := fun w' hb i z hz => by
    obtain ⟨g, c, e, h⟩ := (R2.below hb).loadM hz
    cases e
    exact h
  replace hn := hide hn
  clear R1 R2
  go_enter Tryd.func13, Tryd.ntmps13
  go_wp2_with fail
  go_loopw [5] (fun iv wr => ∃ i : Nat, i ≤ n ∧ iv = .int .i64 (i : Int) ∧ Hid (Below w.heap.size w wr)) (fun iv _ => n - (RowKit.intOf iv).toNat)
  case atStart => exact ⟨0, Nat.zero_le _, rfl, F⟩
  case round =>
    obtain ⟨i, hi, rfl, Fr⟩ := hrel
    by_cases hge : n ≤ i
    · obtain rfl : i = n := by omega
      go_wp2_with fail
      go_ret
      exact ⟨rfl, Fr.out⟩
    have hlt : i < n := by omega
    have j1 : (i : Int) < (n : Int) := by omega
    clear hge
    obtain ⟨z, hz⟩ : ∃ z, L[i]? = some z := ⟨_, List.getElem?_eq_getElem (by rw [hn.out]; exact hlt)⟩
    have hltH := hide hlt
    replace hz := hide hz
    go_wp2_with fail
    refine wp_region_noPanic ?_
    refine wp_region_held_drew (S := (fun w' => (loadVar 45 ⟨g1, i * 7, none⟩).run Tryd.prog w' = .ok (insV z) w' ∧ (loadVar 45 ⟨g2, i * 7, none⟩).run Tryd.prog w' = .ok (insV z) w')) (by kernel_rfl) ⟨LD1.out _ Fr.out.drew i z hz.out, LD2.out _ Fr.out.drew i z hz.out⟩ (fun hH0 => ?_)
    refine wpAnyH_take (i := 0) (oi := { dst := some 17, op := Op.move (Operand.tmp 0), type := 29, pos := "law.go:45", after := #[], guard := none }) (v := ?_) rfl (by kernel_rfl) (by kernel_rfl) (by kernel_rfl) (fun _ _ _ h => h) (Or.inl ⟨by rfl, ?_⟩) hH0 ?_
    rotate_left
    · intro w' hw'
      obtain ⟨c1h, c2h⟩ := hw'
      go_simp
      try with_reducible rfl
    try simp only [Act.put, List.setIfInBounds_toArray, List.set_cons_zero, List.set_cons_succ]
    refine wpAnyH_take (i := 1) (oi := { dst := some 18, op := Op.move (Operand.tmp 5), type := 3, pos := "law.go:45", after := #[], guard := none }) (v := ?_) rfl (by kernel_rfl) (by kernel_rfl) (by kernel_rfl) (fun _ _ _ h => h) (Or.inl ⟨by rfl, ?_⟩) hH0 ?_
    rotate_left
    · intro w' hw'
      obtain ⟨c1h, c2h⟩ := hw'
      go_simp
      try with_reducible rfl
    try simp only [Act.put, List.setIfInBounds_toArray, List.set_cons_zero, List.set_cons_succ]
    refine wpAnyH_take (i := 2) (oi := { dst := some 19, op := Op.indexAddr 29 (Operand.tmp 17) (Operand.tmp 18), type := 0, pos := "law.go:45", after := #[{ on := 0, ground := Ground.data }, { on := 1, ground := Ground.data }], guard := none }) (v := ?_) rfl (by kernel_rfl) (by kernel_rfl) (by kernel_rfl) (fun _ _ _ h => h) (Or.inl ⟨by rfl, ?_⟩) hH0 ?_
    rotate_left
    · intro w' hw'
      obtain ⟨c1h, c2h⟩ := hw'
      go_simp
      try with_reducible rfl
    try simp only [Act.put, List.setIfInBounds_toArray, List.set_cons_zero, List.set_cons_succ]
    refine wpAnyH_take (i := 3) (oi := { dst := some 20, op := Op.load 45 (Operand.tmp 19), type := 45, pos := "law.go:45", after := #[{ on := 2, ground := Ground.data }], guard := none }) (v := insV z) rfl (by kernel_rfl) (by kernel_rfl) (by kernel_rfl) (fun _ _ _ h => h) (Or.inl ⟨by rfl, fun w' hw' => run_ld45x _ rfl hw'.1⟩) hH0 ?_
    try simp only [Act.put, List.setIfInBounds_toArray, List.set_cons_zero, List.set_cons_succ]
    refine wpAnyH_take (i := 4) (oi := { dst := some 21, op := Op.move (Operand.tmp 1), type := 29, pos := "law.go:45", after := #[], guard := none }) (v := ?_) rfl (by kernel_rfl) (by kernel_rfl) (by kernel_rfl) (fun _ _ _ h => h) (Or.inl ⟨by rfl, ?_⟩) hH0 ?_
    rotate_left
    · intro w' hw'
      obtain ⟨c1h, c2h⟩ := hw'
      go_simp
      try with_reducible rfl
    try simp only [Act.put, List.setIfInBounds_toArray, List.set_cons_zero, List.set_cons_succ]
    refine wpAnyH_take (i := 5) (oi := { dst := some 22, op := Op.move (Operand.tmp 5), type := 3, pos := "law.go:45", after := #[], guard := none }) (v := ?_) rfl (by kernel_rfl) (by kernel_rfl) (by kernel_rfl) (fun _ _ _ h => h) (Or.inl ⟨by rfl, ?_⟩) hH0 ?_
    rotate_left
    · intro w' hw'
      obtain ⟨c1h, c2h⟩ := hw'
      go_simp
      try with_reducible rfl
    try simp only [Act.put, List.setIfInBounds_toArray, List.set_cons_zero, List.set_cons_succ]
    refine wpAnyH_take (i := 6) (oi := { dst := some 23, op := Op.indexAddr 29 (Operand.tmp 21) (Operand.tmp 22), type := 0, pos := "law.go:45", after := #[{ on := 4, ground := Ground.data }, { on := 5, ground := Ground.data }], guard := none }) (v := ?_) rfl (by kernel_rfl) (by kernel_rfl) (by kernel_rfl) (fun _ _ _ h => h) (Or.inl ⟨by rfl, ?_⟩) hH0 ?_
    rotate_left
    · intro w' hw'
      obtain ⟨c1h, c2h⟩ := hw'
      go_simp
      try with_reducible rfl
    try simp only [Act.put, List.setIfInBounds_toArray, List.set_cons_zero, List.set_cons_succ]
    refine wpAnyH_take (i := 7) (oi := { dst := some 24, op := Op.load 45 (Operand.tmp 23), type := 45, pos := "law.go:45", after := #[{ on := 6, ground := Ground.data }], guard := none }) (v := insV z) rfl (by kernel_rfl) (by kernel_rfl) (by kernel_rfl) (fun _ _ _ h => h) (Or.inl ⟨by rfl, fun w' hw' => run_ld45x _ rfl hw'.2⟩) hH0 ?_
    try simp only [Act.put, List.setIfInBounds_toArray, List.set_cons_zero, List.set_cons_succ]
    refine wpAnyH_take (i := 8) (oi := { dst := some 25, op := Op.binOp BinOp.neq 45 (Operand.tmp 20) (Operand.tmp 24) 45, type := 4, pos := "law.go:45", after := #[{ on := 3, ground := Ground.data }, { on := 7, ground := Ground.data }], guard := none }) (v := .bool false) rfl (by kernel_rfl) (by kernel_rfl) (by kernel_rfl) (fun _ _ _ h => h) (Or.inl ⟨by rfl, fun w' hw' => run_neqIx _ z rfl rfl⟩) hH0 ?_
    try simp only [Act.put, List.setIfInBounds_toArray, List.set_cons_zero, List.set_cons_succ]
    refine wpAnyH_done (by kernel_rfl) ?_ _
    refine NoPanic.normal ?_
    have F9 := hide Fr.out.drew
    clear hH0
    go_wp2_with fail
    my_round ⟨i + 1, hltH.out, by go_num, F9⟩
    case measure => have := hltH.out; (first | (change n - ((i : Int) + 1).toNat < n - (i : Int).toNat; omega) | (simp [RowKit.intOf]; omega))
/-- What Count answers. -/
theorem cnts_any (t : Tr) (P : Nat → Prop) (v : Value) (w : World) (T : TrV w P (reV t.1.k t.1.s v t.1.mn t.1.mx) t) (hsz : szT t ≤ 4096) (hdp : dpT t ≤ 128) : ∃ R E : Nat, R ≤ 1048576 ∧ E ≤ 2 ∧ (∀ w', Below w.heap.size w w' → Calls Tryd.prog 11 #[reV t.1.k t.1.s v t.1.mn t.1.mx] w' (fun e w2 => e = .returned (.tuple #[.int .i64 (R : Int), .int .i64 (E : Int)]) ∧ Below w'.heap.size w' w2)) ∧ (∀ w', Below w.heap.size w w' → Calls Tryd.prog 12 #[reV t.1.k t.1.s v t.1.mn t.1.mx] w' (fun e w2 => e = .returned (.tuple #[.int .i64 (R : Int), .int .i64 (E : Int)]) ∧ Below w'.heap.size w' w2)) := by
  have TK : ∀ w', Below w.heap.size w w' → TrV w' P (reV t.1.k t.1.s v t.1.mn t.1.mx) t := fun w' hb => T.kept (fun b _ hl => hb.block b hl)
  by_cases hf : fitT t
  · exact ⟨min (prg t).n cap, 0, Nat.min_le_right _ _, by omega, fun w' hb => count_ok t P _ w' (TK w' hb) hf hsz hdp, fun w' hb => rcount_ok t P v w' (TK w' hb) hf hsz hdp _ rfl⟩
  · exact ⟨0, 2, by omega, by omega, fun w' hb => count_no t P _ w' (TK w' hb) hf hsz hdp, fun w' hb => rcount_no t P v w' (TK w' hb) hf hsz hdp⟩
theorem makes_same {t : Tr} {w1 w2 w3 : World} {a1 a2 : Option Addr} {n1 c1 n2 c2 : Nat} {E : Int} (h1 : MakeA t w1 (.returned (.tuple #[.slice a1 n1 c1, .int .i64 E])) w2) (h2 : MakeA t w2 (.returned (.tuple #[.slice a2 n2 c2, .int .i64 E])) w3) (w4 : World) (hb : Below w3.heap.size w3 w4) : Calls Tryd.prog 13 #[.slice a1 n1 c1, .slice a2 n2 c2] w4 (fun e w' => e = .returned (.bool true) ∧ Below w4.heap.size w4 w') := by
  obtain ⟨B1, a1', n1', c1', e1, no1, ok1⟩ := h1
  obtain ⟨B2, a2', n2', c2', e2, no2, ok2⟩ := h2
  cases e1
  cases e2
  by_cases h : mkE t = 0
  · obtain ⟨e1, R1, _⟩ := ok1 h
    obtain ⟨e2, R2, _⟩ := ok2 h
    have R1' := (R1.below B2).below hb
    have R2' := R2.below hb
    have hsm : (prg t).n ≤ 2048 := by
      by_cases hf : fitT t
      · apply Classical.byContradiction
        intro hh
        rw [mkE_big hf (by omega)] at h
        cases h
      · rw [mkE_no hf] at h
        cases h
    have hln := (prg t).len 0 0
    have hpos := (prg t).pos
    have hz : ∃ z, ((prg t).put 0 0)[0]? = some z := ⟨_, List.getElem?_eq_getElem (by omega)⟩
    obtain ⟨z, hz⟩ := hz
    obtain ⟨g1, k1, q1, _⟩ := R1'.at hz
    obtain ⟨g2, k2, q2, _⟩ := R2'.at hz
    cases q1
    cases q2
    exact same_any _ _ rfl (by omega) _ _ _ _ _ R1' R2'
  · obtain ⟨rfl, rfl, rfl⟩ := no1 h
    obtain ⟨rfl, rfl, rfl⟩ := no2 h
    exact same_none w4
set_option maxHeartbeats 4000000 in
set_option maxRecDepth 100000 in
theorem makesW (cs : Array Value) (w : World) (hT : Tab w) (hP : Pw w) (hA : ∀ d, ArgR w d cs.toList) : Calls Tryd.prog 3 #[.agg cs] w fun e w' => e = .returned (.bool true) ∧ Below w.heap.size w w' := by
  obtain ⟨k1, s1, a1, n1, c1, mn1, mx1, hcs1, _⟩ := argR_cases (hA 0)
  obtain rfl : cs = reA k1 s1 (.slice a1 n1 c1) mn1 mx1 := by
    apply Array.ext'
    exact hcs1
  show Calls Tryd.prog 3 #[reV k1 s1 (.slice a1 n1 c1) mn1 mx1] w _
  have WK := hide (fun w' (hb : Below w.heap.size w w') => works_any w' (hT.below hb) (hP.below hb))
  have SM := hide (fun w' (hb : Below w.heap.size w w') => some_any _ w' (fun d => (hA d).keptM hb))
  clear hcs1 hA
  have H := St.start Nope w
  go_enter Tryd.func3, Tryd.ntmps3
  go_wp2_with (first | ((with_reducible refine at_box 27 ?_); refine wl_box28 H rfl ?_; clear H; intro g1 w1 H q1 q2) | ((with_reducible refine at_load 27 ?_); refine wl_load28 0 H rfl rfl ?_))
  have l1 := H.lti 0 rfl
  refine (SM.out w1 H.below).mono ?_
  rintro e w2 ⟨t, u, rfl, T, hz, B2⟩
  replace H := H.call B2 (Nat.le_refl _)
  obtain ⟨ua, un, uc, rfl⟩ := slice_cell T
  have hdp := dpT_le t
  have TA : Hid (∀ w', But (fun k => k = g1) w2 w' → TrV w' (fun b => w1.heap.size ≤ b) (reV t.1.k t.1.s (.slice ua un uc) t.1.mn t.1.mx) t) := fun w' hb => T.kept (fun b hb2 hl => hb.block b hl (fun e => by have h1 : w1.heap.size ≤ b := hb2; have h2 : b = g1 := e; omega))
  have K2 := St.one (H.get 0 rfl)
  replace H := hide H
  clear T B2 SM
  go_wp2_with (first | ((with_reducible refine at_store 27 ?_); refine wl_store28 0 K2 rfl rfl rfl rfl ?_; clear K2; intro w3 K3) | ((with_reducible refine at_load 27 ?_); refine wl_load28 0 K3 rfl rfl ?_))
  have F3 : Hid (Below w.heap.size w w3) := (H.out.but.trans K3.but (fun i hi e => by have h2 : i = g1 := e; omega)).below (Nat.le_refl _) (fun _ h => h.elim)
  obtain ⟨E, hE⟩ : ∃ E, E = mkE t := ⟨_, rfl⟩
  replace hE := hide hE
  refine (make_all t _ _ w3 (TA.out w3 K3.but) (by omega) (by omega)).mono ?_
  rintro e w4 M1
  obtain ⟨xa, xn, xc, rfl⟩ : ∃ a n c, e = .returned (.tuple #[.slice a n c, .int .i64 E]) := by obtain ⟨_, a, n, c, h, _⟩ := M1; exact ⟨a, n, c, by rw [hE.out]; exact h⟩
  have F4 : Hid (Below w.heap.size w w4) := F3.out.trans (M1.1.mono F3.out.size)
  have K4 := K3.call M1.1 (Nat.le_refl _)
  replace M1 := hide M1
  clear K3 F3 H
  go_wp2_with (first | ((with_reducible refine at_load 27 ?_); refine wl_load28 0 K4 rfl rfl ?_))
  refine (rmake_any t _ _ w4 (TA.out w4 K4.but) (by omega) (by omega)).mono ?_
  rintro e w5 M2
  obtain ⟨ya, yn, yc, rfl⟩ : ∃ a n c, e = .returned (.tuple #[.slice a n c, .int .i64 E]) := by obtain ⟨_, a, n, c, h, _⟩ := M2; exact ⟨a, n, c, by rw [hE.out]; exact h⟩
  have F5 : Hid (Below w.heap.size w w5) := F4.out.trans (M2.1.mono F4.out.size)
  have K5 := K4.call M2.1 (Nat.le_refl _)
  have SA := hide (makes_same M1.out M2)
  replace M2 := hide M2
  obtain ⟨R, E2, hR, hE2, C1, C2⟩ := cnts_any t _ _ w5 (TA.out w5 K5.but) (by omega) (by omega)
  replace C1 := hide C1
  replace C2 := hide C2
  clear K4 F4 M1
  go_wp2_with (first | ((with_reducible refine at_load 27 ?_); refine wl_load28 0 K5 rfl rfl ?_))
  refine (C1.out w5 (Below.refl _ _)).mono ?_
  rintro e w6 ⟨rfl, B6⟩
  have F6 : Hid (Below w.heap.size w w6) := F5.out.trans (B6.mono F5.out.size)
  have K6 := K5.call B6 (Nat.le_refl _)
  replace B6 := hide B6
  clear K5
  go_wp2_with (first | ((with_reducible refine at_load 27 ?_); refine wl_load28 0 K6 rfl rfl ?_))
  refine (C2.out w6 B6.out).mono ?_
  rintro e w7 ⟨rfl, B7⟩
  have B57 : Hid (Below w5.heap.size w5 w7) := B6.out.trans (B7.mono B6.out.size)
  have F7 : Hid (Below w.heap.size w w7) := F5.out.trans (B57.out.mono F5.out.size)
  clear K6 B7 B6 F6 F5 C1 C2
  go_wp2_with fail
  refine (SA.out w7 B57.out).mono ?_
  rintro e w8 ⟨rfl, B8⟩
  have F8 : Hid (Below w.heap.size w w8) := F7.out.trans (B8.mono F7.out.size)
  clear B8 B57 SA
  go_wp2_with fail
  refine (WK.out w8 F8.out).mono ?_
  rintro e w9 ⟨rfl, B9⟩
  have F9 : Hid (Below w.heap.size w w9) := F8.out.trans (B9.mono F8.out.size)
  clear B9
  go_wp2_with fail
  go_ret
  exact ⟨rfl, F9.out⟩
end Go.Proofs.YtkgegjnkkbgghaaDoor
