/-
  The walk of ChunkMerges.
-/
import Derived.Test.YtmjjedbdedemcaaDoorTS
namespace Go.Proofs.YtmjjedbdedemcaaDoor
open Go.RowKit Go.ChangeShapes Go.WideShapes Go.ChangeAt
set_option linter.unusedVariables false
set_option linter.unusedSimpArgs false

theorem came_ints {H : Type} {enc : TypeId × Value → H} {W : World} {base : Nat} {a : Option Addr} {len cap : Nat} {d : DataW H} {p : List MemPlace} (h : DataW.Trod enc Tryd.prog W base (fun _ => true) true 22 (.slice a len cap) d p) : ∃ l, HasN W a len cap l := by
  obtain ⟨fuel, hf⟩ := h
  rcases open_ints Tryd.underlying22 Tryd.underlying3 (by kernel_rfl) hf with ⟨hcs, _⟩ | ⟨x, l, c, zs, hcs, _, hl, hm, hz, _, hcell, hwz⟩
  · simp [Value.cells] at hcs
    obtain ⟨rfl, rfl, rfl⟩ := hcs
    exact ⟨[], rfl, Nat.le_refl _, Nat.zero_le _, fun h => by omega, fun i => by simp⟩
  · simp [Value.cells] at hcs
    obtain ⟨rfl, rfl, rfl⟩ := hcs
    simp at hz
    refine ⟨zs.take len, by simp; omega, hl, hm, fun hp => ?_, fun i => ?_⟩
    · obtain ⟨b, off, spot⟩ := x
      have hc := hcell 0 (by omega)
      have hspot : spot = none := by simpa [Addr.add] using World.cell?_spot hc
      subst hspot
      refine ⟨b, off, rfl, ?_, fun i hi => ?_⟩
      · have := World.block_lt_of_cell? W _ hc
        rwa [add_plain] at this
      · have := hcell i (by omega)
        rw [add_plain] at this
        rw [this]
        simp [List.getD, hi]
    · rcases Nat.lt_or_ge i (zs.take len).length with hi | hi
      · rw [List.getD, List.getElem?_eq_getElem hi, Option.getD_some]
        have hn := List.getElem_mem hi
        exact wf_i64 (hwz _ (List.mem_of_mem_take hn))
      · simp [List.getD, List.getElem?_eq_none hi]
theorem up_get : ∀ (M : List Smp) (i : Nat), Up M → i + 1 < M.length → (M.getD i noSmp).1 < (M.getD (i + 1) noSmp).1
  | [], i, _, h => by simp at h
  | x :: M, 0, h, hl => by
    cases M with
    | nil => simp at hl
    | cons y M => exact h.1 y (by simp)
  | x :: M, i + 1, h, hl => by simpa using up_get M i h.2 (by simpa using hl)
section
variable {w : World} {ops : Array Oper} {rest : List Oper} {o : Oper} {a : Act} {Q : Exit → Act → World → Prop}
theorem wpList_appSg (hw : Region.wanted o (yielded ops a.tmps) = true) (s x : Operand) (ho : o.op = .call { callee := .builtin .append, args := #[s, x], argTypes := #[26, 26] })
    (base : Nat) (v : Value) (k : Nat) (L : List Smp) (hs : a.eval s = v) (hown : w.ownsRow base 50 2 v k (flat L))
    (ax : Option Addr) (m cap : Nat) (M : List Smp) (hx : a.eval x = .slice ax m cap) (hM : HasS w ax m cap M) (hb : k + m ≤ 1099511627776) (hbase : base ≤ w.heap.size)
    (h : ∀ v' w', w'.ownsRow base 50 2 v' (k + m) (flat (L ++ M)) → w.grownBy w' v.ownBlock → wpList Tryd.prog ops Q rest (a.put o.dst v') w') : wpList Tryd.prog ops Q (o :: rest) a w := by
  refine wpList_step fun K hK' => ?_
  rw [if_pos hw]
  obtain ⟨v', w', hrun, r1, r2⟩ := run_appS w o.type base v k L hown ax m cap M hM hb hbase
  unfold Oper.wp
  simp [execOp, ho, resolve, invoke, builtin, hs, hx, hrun, Result.andThen]
  exact hK' _ _ (h v' w' r1 r2)
end
theorem rising_of {w0 w w' : World} {n : Nat} {e : Ending} (b : Below w0.heap.size w0 w) (h : Rising w n e w') : ∃ (L : List Smp) (a : Option Addr) (cap : Nat), e = .returned (.slice a n cap) ∧ HasS w' a n cap L ∧ Up L ∧ (∀ s ∈ L, 0 ≤ s.1 ∧ s.1 ≤ 35184372088832) ∧ Below w0.heap.size w0 w' ∧ Below w.heap.size w w' := by
  obtain ⟨R, a, cap, rfl, hl, hu, hb, hs, hbel⟩ := h
  refine ⟨R.map up, a, cap, rfl, hs, hu, fun s hs => ?_, b.trans (hbel.mono b.size), hbel⟩
  obtain ⟨y, hy, rfl⟩ := List.mem_map.1 hs
  have := hb y hy
  simp only [up]; omega

set_option maxHeartbeats 4000000 in
set_option maxRecDepth 100000 in
theorem merges_walk (f0 : Int) (hf0 : -9223372036854775808 ≤ f0 ∧ f0 ≤ 9223372036854775807) (a1 : Option Addr) (len1 cap1 : Nat) (l1 : List Int) (a2 : Option Addr) (len2 cap2 : Nat) (l2 : List Int) (f3 : Int) (hf3 : -9223372036854775808 ≤ f3 ∧ f3 ≤ 9223372036854775807) (a4 : Option Addr) (len4 cap4 : Nat) (l4 : List Int) (f5 : Int) (hf5 : -9223372036854775808 ≤ f5 ∧ f5 ≤ 9223372036854775807) (w : World) (hT : Tabs w) (H1 : HasN w a1 len1 cap1 l1) (H2 : HasU w a2 len2 cap2 l2) (H4 : HasN w a4 len4 cap4 l4) :
    Calls Tryd.prog 5 #[.int .i64 f0, .slice a1 len1 cap1, .slice a2 len2 cap2, .int .i64 f3, .slice a4 len4 cap4, .int .i64 f5] w fun e w' => e = .returned (.bool true) ∧ Below w.heap.size w w' := by
  have W0 := hide (works_any w hT)
  have R1 := hide (fun w' (B : Below w.heap.size w w') => rising_any w' f0 hf0 a1 len1 cap1 l1 (H1.kept B (Nat.le_refl _)) a2 len2 cap2 l2 (H2.kept B (Nat.le_refl _)))
  have R2 := hide (fun w' (B : Below w.heap.size w w') => rising_any w' f3 hf3 a4 len4 cap4 l4 (H4.kept B (Nat.le_refl _)) none 0 0 [] (hasU_nil w'))
  obtain ⟨n1, hn1⟩ : ∃ n, min len1 300 = n := ⟨_, rfl⟩
  obtain ⟨n2, hn2⟩ : ∃ n, min len4 300 = n := ⟨_, rfl⟩
  rw [hn1] at R1
  rw [hn2] at R2
  have hn1' : n1 ≤ 300 := by omega
  have hn2' : n2 ≤ 300 := by omega
  obtain ⟨c, hc, AM⟩ := among_ex f5 2000000 2000000 rfl hf5 (by omega) (by omega)
  have hc1 : (c : Int) < 2000000 := by omega
  have hc0 : (0 : Int) ≤ (c : Int) := by omega
  replace AM := hide AM
  clear H1 H2 H4 hT hn1 hn2 hf0 hf3 hf5
  go_enter Tryd.func5, Tryd.ntmps5
  go_wp2_with fail
  refine W0.out.mono ?_
  rintro e w1 ⟨rfl, b1⟩
  replace b1 := hide b1
  clear W0
  go_wp2_with fail
  refine (R1.out w1 b1.out).mono ?_
  intro e w2 h2
  obtain ⟨A, aA, cA, rfl, HA, uA, rA, b2, -⟩ := rising_of b1.out h2
  replace HA := hide HA
  replace uA := hide uA
  replace rA := hide rA
  replace b2 := hide b2
  clear R1 h2 b1
  go_wp2_with fail
  refine (R2.out w2 b2.out).mono ?_
  intro e w3 h3
  obtain ⟨B, aB, cB, rfl, HB, uB, rB, b3, b23⟩ := rising_of b2.out h3
  have HA3 := hide (HA.out.kept b23 (Nat.le_refl _))
  have MG := hide (merge_any w3 aA n1 cA A HA3.out aB n2 cB B HB (by omega))
  replace HB := hide HB
  replace uB := hide uB
  replace rB := hide rB
  replace b3 := hide b3
  clear R2 h3 b2 b23 HA
  go_wp2_with fail
  refine MG.out.mono ?_
  rintro e w4 ⟨aM, cM, rfl, HM, b34, -⟩
  have hML := mrg_len A B
  have hAl := HA3.out.hlen
  have hBl := HB.out.hlen
  have uM := hide (mrg_up A B uA.out uB.out)
  have iM := hide (mrg_in A B)
  have rM : Hid (∀ s ∈ mrg A B, 0 ≤ s.1 ∧ s.1 ≤ 35184372088832) := fun s hs => by
    rcases mrg_mem A B s hs with hs | hs
    · exact rA.out s hs
    · exact rB.out s hs
  have b4 := hide (b3.out.trans (b34.mono b3.out.size))
  have HB4 := hide (HB.out.kept b34 (Nat.le_refl _))
  clear MG b34 b3 HB HA3 uA rA rB
  generalize mrg A B = M at *
  obtain ⟨m, hm⟩ : ∃ m, M.length = m := ⟨_, rfl⟩
  rw [hm] at HM hML ⊢
  have hm6 : m ≤ 600 := by omega
  have WI := hide (fun w' (b : Below w4.heap.size w4 w') f t => within_any w' aM m cM M (HM.kept b (Nat.le_refl _)) f t (by omega))
  replace HM := hide HM
  replace hm := hide hm
  clear hML hAl
  go_wp2_with fail
  refine (AM.out _).mono ?_
  rintro e w5 ⟨rfl, rfl⟩
  clear AM
  go_wp2_with fail
  refine (WI.out w5 (Below.refl _ _) 0 (c : Int)).mono ?_
  rintro e w6 ⟨aP, cP, rfl, HP, b56, -⟩
  obtain ⟨P1, hP1⟩ : ∃ P, M.filter (inR 0 (c : Int)) = P := ⟨_, rfl⟩
  rw [hP1] at HP ⊢
  obtain ⟨p1, hp1⟩ : ∃ p, P1.length = p := ⟨_, rfl⟩
  rw [hp1] at HP ⊢
  have WI2 := hide (WI.out w6 b56 ((c : Int) + 1) 35184372088832)
  replace HP := hide HP
  replace b56 := hide b56
  replace hP1 := hide hP1
  replace hp1 := hide hp1
  clear WI
  go_wp2_with fail
  refine WI2.out.mono ?_
  rintro e w7 ⟨aQ, cQ, rfl, HQ, b67, -⟩
  obtain ⟨P2, hP2⟩ : ∃ P, M.filter (inR ((c : Int) + 1) 35184372088832) = P := ⟨_, rfl⟩
  rw [hP2] at HQ ⊢
  obtain ⟨p2, hp2⟩ : ∃ p, P2.length = p := ⟨_, rfl⟩
  rw [hp2] at HQ ⊢
  have HP7 := hide (HP.out.kept b67 (Nat.le_refl _))
  have b57 := hide (b56.out.trans (b67.mono b56.out.size))
  have HM7 := hide (HM.out.kept b57.out (Nat.le_refl _))
  have HB7 := hide (HB4.out.kept b57.out (Nat.le_refl _))
  have b7 := hide (b4.out.trans (b57.out.mono b4.out.size))
  have hPP : Hid (P1 ++ P2 = M) := by rw [← hP1.out, ← hP2]; exact parts_all M c 35184372088832 uM.out rM.out
  replace HQ := hide HQ
  replace hP2 := hide hP2
  replace hp2 := hide hp2
  have hpp : p1 + p2 = m := by rw [← hp1.out, ← hp2.out, ← hm.out, ← hPP.out]; simp
  clear WI2 HP b67 b56 HM HB4 b4 b57
  go_wp2_with fail
  go_loopw [18] (fun iv wr => ∃ (k d : Nat), 1 ≤ k ∧ k ≤ m + 1 ∧ iv = .int .i64 (k : Int) ∧ wr = w7.drewN d) (fun iv _ => m + 1 - (intOf iv).toNat)
  case atStart => exact ⟨1, 0, by omega, by omega, rfl, rfl⟩
  case round =>
    obtain ⟨k, d, hk1, hk2, rfl, rfl⟩ := hrel
    by_cases hkl : k < m
    · obtain ⟨b, off, rfl, hb, hcs⟩ := HM7.out.cells (by omega)
      obtain ⟨p, hp⟩ : ∃ p, k = p + 1 := ⟨k - 1, by omega⟩
      have hlt := up_get M p uM.out (by rw [hm.out]; omega)
      have c0 := (hcs p (by omega)).1
      have c1 := (hcs k (by omega)).1
      rw [← hp] at hlt
      have c0' : (w7.drewN d).cell? ⟨b, off + p * 2, none⟩ = some (.int .i64 (M.getD p noSmp).1) := c0
      have c1' : (w7.drewN d).cell? ⟨b, off + k * 2, none⟩ = some (.int .i64 (M.getD k noSmp).1) := c1
      have hp' : (k : Int) - 1 = (p : Int) := by omega
      have j1 : (k : Int) < (m : Int) := by omega
      have j2 : (p : Int) < (m : Int) := by omega
      generalize (M.getD p noSmp).1 = x0 at *
      generalize (M.getD k noSmp).1 = x1 at *
      replace hp := hide hp
      clear c0 c1 hcs
      generalize hwr : w7.drewN d = wr at *
      replace hwr := hide hwr
      go_wp2_with fail
      go_quiet (fail)
      replace hp' := hide hp'
      replace hpp := hide hpp
      replace hBl := hide hBl
      clear j2 c0' c1'
      have hd : decide (x1 ≤ x0) = false := by simp; omega
      generalize decide (x1 ≤ x0) = dd at *
      subst hd
      go_wp2_with fail
      go_roundw
      case rel => exact ⟨k + 1, d + nq, by omega, by omega, by go_num, by rw [← hwr.out, World.drewN_drewN]⟩
      case measure => simp [intOf]; omega
    · have hkl' : (m : Int) ≤ (k : Int) := by omega
      have d7 := hide (below_drewN (Below.refl w7.heap.size w7) d)
      generalize w7.drewN d = w8 at *
      have HM8 := hide (HM7.out.kept d7.out (Nat.le_refl _))
      have HB8 := hide (HB7.out.kept d7.out (Nat.le_refl _))
      have HP8 := hide (HP7.out.kept d7.out (Nat.le_refl _))
      have HQ8 := hide (HQ.out.kept d7.out (Nat.le_refl _))
      have b8 := hide (b7.out.trans (d7.out.mono b7.out.size))
      have M1 := merge_any w8 aM m cM M HM8.out aB n2 cB B HB8.out (by omega)
      rw [mrg_stays M B uM.out uB.out iM.out] at M1
      have M2 := hide (fun w' (bx : Below w8.heap.size w8 w') => merge_any w' aM m cM M (HM8.out.kept bx (Nat.le_refl _)) none 0 0 [] (hasS_nil w') (by omega))
      rw [mrg_nil] at M2
      replace M1 := hide M1
      clear HM7 HB7 HP7 HQ d7 b7 HB8 uM uB iM rM hP1 hP2
      replace hpp := hide hpp
      replace hBl := hide hBl
      go_wp2_with fail
      refine M1.out.mono ?_
      rintro e w9 ⟨a9, c9, rfl, H9, b9, -⟩
      have S9 := sameS_any w9 a9 aM M.length m c9 cM M M H9 (HM8.out.kept b9 (Nat.le_refl _))
      rw [decide_eq_true (rfl : M = M)] at S9
      replace S9 := hide S9
      replace b9 := hide b9
      clear M1 H9
      go_wp2_with fail
      refine S9.out.mono ?_
      rintro e w10 ⟨rfl, d10, rfl⟩
      have b10 := hide (below_drewN b9.out d10)
      generalize w9.drewN d10 = w10 at *
      clear S9 b9
      go_wp2_with fail
      refine (M2.out w10 b10.out).mono ?_
      rintro e w11 ⟨a11, c11, rfl, H11, b11, -⟩
      have b11' := hide (b10.out.trans (b11.mono b10.out.size))
      have S11 := sameS_any w11 a11 aM M.length m c11 cM M M H11 (HM8.out.kept b11'.out (Nat.le_refl _))
      rw [decide_eq_true (rfl : M = M)] at S11
      replace S11 := hide S11
      clear M2 H11 b11
      go_wp2_with fail
      refine S11.out.mono ?_
      rintro e w12 ⟨rfl, d12, rfl⟩
      have b12 := hide (below_drewN b11'.out d12)
      generalize w11.drewN d12 = w12 at *
      clear S11 b11' b10
      have O0 := hide (ownsS_nil w12 w12.heap.size (Nat.le_refl _))
      have b13 := hide (b12.out.alloc b12.out.size (.cells #[] 50))
      have n13 : Hid (w12.heap.size ≤ (w12.alloc (.cells #[] 50)).heap.size) := by show w12.heap.size ≤ _; simp
      have HP13 := hide (HP8.out.kept b13.out (Nat.le_refl _))
      have bw : ∀ {v' : Value} {k : Nat} {L : List Smp} {wa wb : World}, Below w8.heap.size w8 wa → wa.ownsRow w12.heap.size 50 2 v' k (flat L) → wa.grownBy wb v'.ownBlock → Below w8.heap.size w8 wb := fun ha ho hg => ha.grown hg ha.size (fun q e => by have := (ho.lt q e).1; have := b12.out.size; omega)
      have fin : ∀ v2 w14 v3 w15, w14.ownsRow w12.heap.size 50 2 v2 (0 + p1) (flat ([] ++ P1)) → (w12.alloc (.cells #[] 50)).grownBy w14 (Value.slice (some ⟨w12.heap.size, 0, none⟩) 0 0).ownBlock → w15.ownsRow w12.heap.size 50 2 v3 (0 + p1 + p2) (flat ([] ++ P1 ++ P2)) → w14.grownBy w15 v2.ownBlock →
          ∃ a3 c3, v3 = .slice a3 m c3 ∧ HasS w15 a3 m c3 M ∧ Below w8.heap.size w8 w15 := fun v2 w14 v3 w15 O2 G2 O3 G3 => by
        have b14 := bw b13.out O0.out G2
        have b15 := bw b14 O2 G3
        rw [List.nil_append, hPP.out, Nat.zero_add, hpp.out] at O3
        obtain ⟨a3, c3, e3, H3⟩ := hasS_of_owns O3 HM8.out.vb
        exact ⟨a3, c3, e3, H3, b15⟩
      replace fin := hide fin
      have stp : ∀ v2 w14, w14.ownsRow w12.heap.size 50 2 v2 (0 + p1) (flat ([] ++ P1)) → (w12.alloc (.cells #[] 50)).grownBy w14 (Value.slice (some ⟨w12.heap.size, 0, none⟩) 0 0).ownBlock → HasS w14 aQ p2 cQ P2 ∧ w12.heap.size ≤ w14.heap.size := fun v2 w14 O2 G2 =>
        ⟨HQ8.out.kept (bw b13.out O0.out G2) (Nat.le_refl _), Nat.le_trans n13.out G2.size⟩
      replace stp := hide stp
      have hsum : p1 + p2 ≤ 600 := by rw [hpp.out]; omega
      clear bw b13 HP8 HQ8
      go_wp2_with (at_builtin; first | (refine wpList_appSg (by rfl) (.tmp 72) (.tmp 73) rfl w12.heap.size _ 0 [] rfl O0.out _ _ _ P1 rfl HP13.out (by omega) n13.out ?_; intro v2 w14 O2 G2; obtain ⟨H14, s14⟩ := stp.out v2 w14 O2 G2; have fin2 := hide (fun v3 w15 => fin.out v2 w14 v3 w15 O2 G2); replace H14 := hide H14; replace s14 := hide s14; replace O2 := hide O2; clear fin stp O0 HP13 G2) | (refine wpList_appSg (by rfl) (.tmp 74) (.tmp 75) rfl w12.heap.size _ _ _ rfl O2.out _ _ _ P2 rfl H14.out (by omega) s14.out ?_; intro v3 w15 O3 G3; obtain ⟨a3, c3, e3, H15, b15⟩ := fin2.out v3 w15 O3 G3; subst e3; have S15 := hide (sameS_any w15 a3 aM m m c3 cM M M H15 (HM8.out.kept b15 (Nat.le_refl _))); replace b15 := hide b15; clear O3 G3 fin2 O2 H14 H15))
      simp only [decide_true] at S15
      refine S15.out.mono ?_
      rintro e w16 ⟨rfl, d16, rfl⟩
      have b16 := hide (b8.out.trans ((below_drewN b15.out d16).mono b8.out.size))
      generalize w15.drewN d16 = w16 at *
      clear S15 b15
      go_wp2_with fail
      go_ret
      exact ⟨rfl, b16.out⟩
end Go.Proofs.YtmjjedbdedemcaaDoor
