/-
  The walk of ChunkBack.
-/
import Derived.Test.YtmjjedbdedemcaaDoorUC
namespace Go.Proofs.YtmjjedbdedemcaaDoor
open Go.RowKit Go.ChangeShapes Go.WideShapes Go.ChangeAt
set_option linter.unusedVariables false
set_option linter.unusedSimpArgs false

theorem came_ints {H : Type} {enc : TypeId × Value → H} {W : World} {base : Nat} {a : Option Addr} {len cap : Nat} {d : DataW H} {p : List MemPlace} (h : DataW.Trod enc Tryd.prog W base (fun _ => true) true 22 (.slice a len cap) d p) : ∃ l, HasN W a len cap l := by
  obtain ⟨fuel, hf⟩ := h
  rcases open_ints Tryd.underlying22 Tryd.underlying3 (by kernel_rfl) hf with ⟨hcs, _⟩ | ⟨x, l, c, zs, hcs, _, hl, hm, hz, _, hcell, hwz⟩
  · simp [Value.cells] at hcs
    obtain ⟨rfl, rfl, rfl⟩ := hcs
    exact ⟨[], rfl, Nat.le_refl _, Nat.zero_le _, fun h => by omega, fun i => by simp⟩
  · simp [Value.cells] at hcs
    obtain ⟨rfl, rfl, rfl⟩ := hcs
    simp at hz
    refine ⟨zs.take len, by simp; omega, hl, hm, fun hp => ?_, fun i => ?_⟩
    · obtain ⟨b, off, spot⟩ := x
      have hc := hcell 0 (by omega)
      have hspot : spot = none := by simpa [Addr.add] using World.cell?_spot hc
      subst hspot
      refine ⟨b, off, rfl, ?_, fun i hi => ?_⟩
      · have := World.block_lt_of_cell? W _ hc
        rwa [add_plain] at this
      · have := hcell i (by omega)
        rw [add_plain] at this
        rw [this]
        simp [List.getD, hi]
    · rcases Nat.lt_or_ge i (zs.take len).length with hi | hi
      · rw [List.getD, List.getElem?_eq_getElem hi, Option.getD_some]
        have hn := List.getElem_mem hi
        exact wf_i64 (hwz _ (List.mem_of_mem_take hn))
      · simp [List.getD, List.getElem?_eq_none hi]
theorem slice_ofB {W : World} {base : Nat} {v : Value} {k : Nat} {xs : List Value} (h : W.ownsRow base 5 1 v k xs) : ∃ a cap, v = .slice a k cap := slice_of_owns h
section
variable {w : World} {ops : Array Oper} {o : Oper} {a : Act} {Q : Exit → Act → World → Prop} {K : Act → World → Prop} {E : Prop}
/-- append of bytes to a row of one's own, as one step of a region that draws. -/
theorem step_appB (hgd : o.guard = none) (s x : Operand) (ho : o.op = .call { callee := .builtin .append, args := #[s, x], argTypes := #[24, 24] })
    (base : Nat) (v : Value) (n : Nat) (l : List Int) (hs : a.eval s = v) (hown : w.ownsRow base 5 1 v n (l.map (Value.int .u8)))
    (ax : Option Addr) (len cap : Nat) (lx : List Int) (hx : a.eval x = .slice ax len cap) (hh : Has w ax len cap lx)
    (hb : n + len ≤ 4398046511104) (hbase : base ≤ w.heap.size)
    (h : ∀ v' w', w'.ownsRow base 5 1 v' (n + len) ((l ++ lx).map (Value.int .u8)) → w.grownBy w' v.ownBlock → K (a.put o.dst v') w') :
    if Region.wanted o (yielded ops a.tmps) = true then Oper.wp Tryd.prog o a w K Q else E := by
  have hw : Region.wanted o (yielded ops a.tmps) = true := by simp [Region.wanted, hgd]
  rw [if_pos hw]
  obtain ⟨i0, hi, hz0, hz1, hz2⟩ := info_parts info5
  cases ax with
  | none =>
    have hc := hh.nil rfl
    have hl := hh.le
    subst hc
    obtain rfl : len = 0 := by omega
    obtain rfl : lx = [] := List.eq_nil_of_length_eq_zero hh.hlen
    have hrun := run_append_owned_none (P := Tryd.prog) (w := w) base 24 o.type 5 i0 1 Tryd.underlying24 hi v n (l.map (Value.int .u8)) hown
    unfold Oper.wp
    simp [execOp, ho, resolve, invoke, builtin, hs, hx, hrun, Result.andThen]
    exact h v w (by simpa using hown) (World.grownBy.refl w _)
  | some ad =>
    obtain ⟨v', w', hrun, r1, r2, r3⟩ := run_append_own (P := Tryd.prog) w base 24 o.type 5 i0 (.int .u8 0) 1 1 Tryd.underlying24 hi hz0 hz1 hz2 rfl (by decide) v n (l.map (Value.int .u8)) hown ad len cap (lx.map (Value.int .u8)) (by simp [hh.hlen])
      (fun j u hj => by
        by_cases hp : 0 < len
        · obtain ⟨b, off, e1, e2, e3⟩ := cells_of_has hh hp
          cases e1
          exact e3 j u hj
        · obtain rfl : lx = [] := List.eq_nil_of_length_eq_zero (by have := hh.hlen; omega)
          simp at hj) (ints_oneCell _ _) (by unfold maxLen; omega) (by omega) hbase
    unfold Oper.wp
    simp [execOp, ho, resolve, invoke, builtin, hs, hx, hrun, Result.andThen]
    exact h v' w' (by simpa using r1) r2
end
theorem HasS.front {w : World} {a : Option Addr} {len cap : Nat} {L : List Smp} (h : HasS w a len cap L) (k : Nat) (hk : k ≤ len) : HasS w a k cap (L.take k) := by
  have hl := h.hlen
  refine ⟨by simp; omega, Nat.le_trans hk h.le, h.capb, h.nil, fun hp => ?_, fun x hx => h.vb x (List.mem_of_mem_take hx)⟩
  obtain ⟨b, off, e1, e2, e3⟩ := h.cells (by omega)
  refine ⟨b, off, e1, e2, fun i hi => ?_⟩
  have : (L.take k).getD i noSmp = L.getD i noSmp := by simp [List.getD, List.getElem?_take, hi]
  rw [this]
  exact e3 i (by omega)

set_option maxHeartbeats 4000000 in
set_option maxRecDepth 100000 in
theorem back_walk (f0 : Int) (hf0 : -9223372036854775808 ≤ f0 ∧ f0 ≤ 9223372036854775807) (a1 : Option Addr) (len1 cap1 : Nat) (l1 : List Int) (a2 : Option Addr) (len2 cap2 : Nat) (l2 : List Int) (a3 : Option Addr) (len3 cap3 : Nat) (l3 : List Int) (w : World) (hT : Tabs w) (H1 : HasN w a1 len1 cap1 l1) (H2 : HasU w a2 len2 cap2 l2) (H3 : Has w a3 len3 cap3 l3) :
    Calls Tryd.prog 3 #[.int .i64 f0, .slice a1 len1 cap1, .slice a2 len2 cap2, .slice a3 len3 cap3] w fun e w' => e = .returned (.bool true) ∧ Below w.heap.size w w' := by
  have W0 := hide (works_any w hT)
  have R1 := hide (fun w' (B : Below w.heap.size w w') => rising_any w' f0 hf0 a1 len1 cap1 l1 (H1.kept B (Nat.le_refl _)) a2 len2 cap2 l2 (H2.kept B (Nat.le_refl _)))
  obtain ⟨n, hn⟩ : ∃ n, min len1 300 = n := ⟨_, rfl⟩
  rw [hn] at R1
  have hn' : n ≤ 300 := by omega
  obtain ⟨gl, hgl⟩ : ∃ m, min len3 50 = m := ⟨_, rfl⟩
  have hgl1 : gl ≤ len3 := by omega
  have hgl2 : gl ≤ 50 := by omega
  have hle3 := H3.le
  have hcap3 := H3.capb
  unfold maxLen at hcap3
  have HG0 := H3.front gl hgl1
  generalize l3.take gl = g at HG0
  have gi1 : (gl : Int) ≤ (cap3 : Int) := by omega
  have gi1' : (gl : Int) ≤ (len3 : Int) := by omega
  have gi2 : (if (50 : Int) < (len3 : Int) then (50 : Int) else (len3 : Int)) = (gl : Int) := by split <;> omega
  have gi3 : (if 50 < len3 then (50 : Int) else (len3 : Int)) = (gl : Int) := by split <;> omega
  replace HG0 := hide HG0
  replace hT := hide hT
  clear H1 H2 hn hf0 H3
  replace hgl := hide hgl
  go_enter Tryd.func3, Tryd.ntmps3
  go_wp2_with fail
  refine W0.out.mono ?_
  rintro e w1 ⟨rfl, b1⟩
  replace b1 := hide b1
  clear W0
  go_wp2_with fail
  refine (R1.out w1 b1.out).mono ?_
  rintro e w2 ⟨R, aR, cR, rfl, hRl, hU, hRb, HR, b12⟩
  have b2 := hide (b1.out.trans (b12.mono b1.out.size))
  have hRv : Hid (∀ s ∈ R, s.1 ≤ 40000000 ∧ s.2 < 18446744073709551616) := fun s hs => ⟨hRb s hs, HR.vb (up s) (List.mem_map.2 ⟨s, hs, rfl⟩)⟩
  have CU := hide (cut_any w2 aR n cR R HR hU hRb (by omega) (hT.out.below b2.out))
  replace HR := hide HR
  replace hU := hide hU
  clear R1 b12 b1 hRb
  go_wp2_with fail
  refine CU.out.mono ?_
  rintro e w3 ⟨cs, aC, cC, rfl, HL, hC, b23⟩
  have b3 := hide (b2.out.trans (b23.mono b2.out.size))
  have JO := join_any w3 R hU.out hRv.out (by omega) cs hC aC cs.length cC HL (hT.out.below b3.out)
  rw [hRl] at JO
  obtain ⟨k, hk, hk1, hk2, hIs⟩ := hC
  rw [hk] at HL JO ⊢
  rw [hRl] at hk1 hk2
  have HR3 := hide (HR.out.kept b23 (Nat.le_refl _))
  replace HL := hide HL
  replace JO := hide JO
  replace hIs := hide hIs
  replace hk := hide hk
  replace hRl := hide hRl
  clear CU b23 HR b2
  go_wp2_with fail
  refine JO.out.mono ?_
  rintro e w4 ⟨aJ, cJ, rfl, HJ, b34⟩
  have b4 := hide (b3.out.trans (b34.mono b3.out.size))
  have HR4 := hide (HR3.out.kept b34 (Nat.le_refl _))
  have HL4 := hide (HL.out.kept b34 (Nat.le_refl _))
  have SA := sameS_any w4 aJ aR n n cJ cR (R.map up) (R.map up) HJ HR4.out
  rw [decide_eq_true (rfl : R.map up = R.map up)] at SA
  replace SA := hide SA
  have s1 : (n : Int) + 120 = ((n + 120 : Nat) : Int) := by omega
  obtain ⟨n1, hn1⟩ : ∃ n1, n + 120 = n1 := ⟨_, rfl⟩
  obtain ⟨n2, hn2⟩ : ∃ n2, n1 - 1 = n2 := ⟨_, rfl⟩
  rw [hn1] at s1
  have s2 : (n1 : Int) - 1 = (n2 : Int) := by omega
  have s3 : (n2 : Int).tdiv 120 = (k : Int) := by
    have : n2 / 120 = k := by omega
    rw [← this]; rfl
  have s4 : (n2 : Int) / 120 = (k : Int) := by omega
  have s5 : n2 / 120 = k := by omega
  have s6 : (n2 : Int) ≤ 1000 := by omega
  have s7 : (n1 : Int) ≤ 1000 := by omega
  have s8 : (n : Int) ≤ 1000 := by omega
  replace hn1 := hide hn1
  replace hn2 := hide hn2
  clear JO b34 HR3 HL b3 HJ
  go_wp2_with fail
  refine SA.out.mono ?_
  rintro e w5 ⟨rfl, d5, rfl⟩
  have b5 := hide (below_drewN b4.out d5)
  have HR5 := hide (HR4.out.kept (below_drewN (Below.refl _ w4) d5) (Nat.le_refl _))
  have HL5 := hide (HL4.out.kept (below_drewN (Below.refl _ w4) d5) (Nat.le_refl _))
  generalize w4.drewN d5 = w6 at *
  clear SA HR4 HL4 b4
  by_cases hk0 : k = 0
  · subst hk0
    go_wp2_with fail
    go_ret
    exact ⟨rfl, b5.out⟩
  · have hk0' : ¬ ((k : Int) = 0) := by omega
    obtain ⟨cb, co, rfl, hcb, hcs⟩ := HL5.out.cells (by omega)
    obtain ⟨a0, n0, c0, c6, HC⟩ := hcs 0 (by omega)
    rw [Nat.add_zero] at c6
    have hic := hIs.out 0 (by omega)
    have hpl : 120 * 0 + min 120 (R.length - 120 * 0) ≤ R.length ∧ 1 ≤ min 120 (R.length - 120 * 0) ∧ min 120 (R.length - 120 * 0) ≤ 120 := by have := hRl.out; omega
    have hfit : Fit (piece R (120 * 0) 120) := by
      have := fit_piece hU.out hRv.out hpl
      rwa [piece_min] at this
    generalize cs.getD 0 [] = c at *
    have hcl := isC_len hic hfit
    have hrd := rdc_of hic hfit g g
    have hgg := HG0.out.hlen
    have hn0 := HC.hlen
    rw [hgg, hn0] at hrd
    obtain ⟨m, hm⟩ : ∃ m, min n 120 = m := ⟨_, rfl⟩
    have hpc : Hid ((piece R (120 * 0) 120).map up = (R.map up).take m) := by
      show _ = _
      unfold piece
      rw [Nat.mul_zero, List.drop_zero, ← hm, ← hRl.out, ← List.map_take]
      congr 1
      rcases Nat.le_total R.length 120 with h | h
      · rw [Nat.min_eq_left h, List.take_of_length_le h, List.take_of_length_le (Nat.le_refl _)]
      · rw [Nat.min_eq_right h]
    have hpcl : (piece R (120 * 0) 120).length = m := by have h1 := congrArg List.length hpc.out; have := hRl.out; simp only [List.length_map, List.length_take] at h1; omega
    generalize piece R (120 * 0) 120 = pc at *
    have hrd' := hrd
    clear hrd'
    have m1 : (if (120 : Int) < (n : Int) then (120 : Int) else (n : Int)) = (m : Int) := by split <;> omega
    have m2 : (if 120 < n then (120 : Int) else (n : Int)) = (m : Int) := by split <;> omega
    have hcR := HR5.out.le
    have m3 : (m : Int) ≤ (cR : Int) := by omega
    have m4 : (m : Int) ≤ (n : Int) := by omega
    have HG : Hid (Has w6 a3 gl cap3 g) := HG0.out.kept b5.out (Nat.le_refl _)
    have b5' := hide b5.out
    have d6 := hide ((Below.refl w6.heap.size w6).drew)
    have BY := hide (fun w' (B : Below w6.heap.size w6 w') => bytes_any w' a3 gl cap3 g (HG.out.kept B (Nat.le_refl _)) (by omega))
    have c6' := c6
    have hkk : (0 : Int) < (k : Int) := by omega
    have hkn : 0 < k := by omega
    replace HC := hide HC
    replace hic := hide hic
    replace hm := hide hm
    replace hpcl := hide hpcl
    clear hfit hcs hpl
    go_upto_region 11 with fail
    refine wp_region_held_drew (S := (fun w' => w'.cell? ⟨cb, co, none⟩ = some (.slice a0 n0 c0))) (by kernel_rfl) c6 (fun hH0 => ?_)
    refine wpAnyH_take (i := 0) (oi := { dst := some 64, op := Op.move (Operand.tmp 3), type := 24, pos := "law.go:117", after := #[], guard := none }) (v := ?_) rfl (by kernel_rfl) (by kernel_rfl) (by kernel_rfl) (fun _ _ _ h => h) (Or.inl ⟨by rfl, ?_⟩) hH0 ?_
    rotate_left
    · intro w' hw'
      obtain c0c := hw'
      go_simp
      try with_reducible rfl
    try simp only [Act.put, List.setIfInBounds_toArray, List.set_cons_zero, List.set_cons_succ]
    refine wpAnyH_take (i := 2) (oi := { dst := some 66, op := Op.move (Operand.tmp 10), type := 28, pos := "law.go:117", after := #[], guard := none }) (v := ?_) rfl (by kernel_rfl) (by kernel_rfl) (by kernel_rfl) (fun _ _ _ h => h) (Or.inl ⟨by rfl, ?_⟩) hH0 ?_
    rotate_left
    · intro w' hw'
      obtain c0c := hw'
      go_simp
      try with_reducible rfl
    try simp only [Act.put, List.setIfInBounds_toArray, List.set_cons_zero, List.set_cons_succ]
    refine wpAnyH_take (i := 3) (oi := { dst := some 67, op := Op.indexAddr 28 (Operand.tmp 66) (Operand.const (Value.int IntKind.i64 0)), type := 0, pos := "law.go:117", after := #[{ on := 2, ground := Ground.data }], guard := none }) (v := ?_) rfl (by kernel_rfl) (by kernel_rfl) (by kernel_rfl) (fun _ _ _ h => h) (Or.inl ⟨by rfl, ?_⟩) hH0 ?_
    rotate_left
    · intro w' hw'
      obtain c0c := hw'
      go_simp
      try with_reducible rfl
    try simp only [Act.put, List.setIfInBounds_toArray, List.set_cons_zero, List.set_cons_succ]
    refine wpAnyH_take (i := 4) (oi := { dst := some 68, op := Op.load 24 (Operand.tmp 67), type := 24, pos := "law.go:117", after := #[{ on := 3, ground := Ground.data }], guard := none }) (v := ?_) rfl (by kernel_rfl) (by kernel_rfl) (by kernel_rfl) (fun _ _ _ h => h) (Or.inl ⟨by rfl, ?_⟩) hH0 ?_
    rotate_left
    · intro w' hw'
      obtain c0c := hw'
      go_simp
      try with_reducible rfl
    try simp only [Act.put, List.setIfInBounds_toArray, List.set_cons_zero, List.set_cons_succ]
    refine wpAnyH_take (i := 6) (oi := { dst := some 70, op := Op.move (Operand.tmp 3), type := 24, pos := "law.go:117", after := #[], guard := none }) (v := ?_) rfl (by kernel_rfl) (by kernel_rfl) (by kernel_rfl) (fun _ _ _ h => h) (Or.inl ⟨by rfl, ?_⟩) hH0 ?_
    rotate_left
    · intro w' hw'
      obtain c0c := hw'
      go_simp
      try with_reducible rfl
    try simp only [Act.put, List.setIfInBounds_toArray, List.set_cons_zero, List.set_cons_succ]
    refine wpAnyH_take (i := 8) (oi := { dst := some 72, op := Op.move (Operand.tmp 3), type := 24, pos := "law.go:117", after := #[], guard := none }) (v := ?_) rfl (by kernel_rfl) (by kernel_rfl) (by kernel_rfl) (fun _ _ _ h => h) (Or.inl ⟨by rfl, ?_⟩) hH0 ?_
    rotate_left
    · intro w' hw'
      obtain c0c := hw'
      go_simp
      try with_reducible rfl
    try simp only [Act.put, List.setIfInBounds_toArray, List.set_cons_zero, List.set_cons_succ]
    refine wpAnyH_take (i := 9) (oi := { dst := some 73, op := Op.call { callee := Callee.builtin Builtin.len, args := #[Operand.tmp 72], argTypes := #[24] }, type := 3, pos := "law.go:117", after := #[{ on := 8, ground := Ground.data }], guard := none }) (v := ?_) rfl (by kernel_rfl) (by kernel_rfl) (by kernel_rfl) (fun _ _ _ h => h) (Or.inl ⟨by rfl, ?_⟩) hH0 ?_
    rotate_left
    · intro w' hw'
      obtain c0c := hw'
      go_simp
      try with_reducible rfl
    try simp only [Act.put, List.setIfInBounds_toArray, List.set_cons_zero, List.set_cons_succ]
    refine wpAnyH_ready (rs := [1]) (by kernel_rfl) (by simp) ?_
    refine AllReadyH.cons (o := { dst := some 65, op := Op.call { callee := Callee.value (Operand.func 12), args := #[Operand.tmp 64], argTypes := #[24] }, type := 24, pos := "law.go:117", after := #[{ on := 0, ground := Ground.data }], guard := none }) rfl (fun K hK => ?_) AllReadyH.nil
    go_simp
    refine (BY.out _ d6.out).mono ?_
    rintro e w7 ⟨a7, n7, c7, rfl, H7, b7, O7⟩
    have hn7 : gl = n7 := by have := H7.hlen; omega
    subst hn7
    have B7 := hide (d6.out.trans (b7.mono d6.out.size))
    have cc7 := (B7.out.cell (p := ⟨cb, co, none⟩) hcb).trans c6'
    have HC7 := hide (HC.out.kept B7.out (Nat.le_refl _))
    have HG7 := hide (HG.out.kept B7.out (Nat.le_refl _))
    have hs7 := hide d6.out.size
    replace O7 := hide O7
    have hs7' := hide b7.size
    clear H7 b7
    refine hK.out _ _ cc7 (fun hH1 => ?_)
    clear hK
    try simp only [Act.put, List.setIfInBounds_toArray, List.set_cons_zero, List.set_cons_succ]
    refine wpAnyH_ready (rs := [5]) (by kernel_rfl) (by simp) ?_
    refine AllReadyH.cons (o := { dst := some 69, op := Op.call { callee := Callee.builtin Builtin.append, args := #[Operand.tmp 65, Operand.tmp 68], argTypes := #[24, 24] }, type := 24, pos := "law.go:117", after := #[{ on := 1, ground := Ground.data }, { on := 4, ground := Ground.data }, { on := 1, ground := Ground.chain }], guard := none }) rfl (fun K hK => ?_) AllReadyH.nil
    refine step_appB rfl (.tmp 65) (.tmp 68) rfl w6.heap.size _ _ _ rfl O7.out _ n0 c0 c rfl HC7.out (by omega) hs7'.out ?_
    intro v8 w8 O8 G8
    obtain ⟨a8, c8, e8⟩ := slice_ofB O8
    subst e8
    have B8 := hide (B7.out.grown G8 B7.out.size (fun q e => by have := (O7.out.lt q e).1; have := hs7.out; omega))
    have cc8 := (B8.out.cell (p := ⟨cb, co, none⟩) hcb).trans c6'
    have HG8 := hide (HG.out.kept B8.out (Nat.le_refl _))
    have hs8 := hide (Nat.le_trans hs7'.out G8.size)
    replace O8 := hide O8
    clear G8 HC7 HG7
    refine hK.out _ _ cc8 (fun hH2 => ?_)
    clear hK
    try simp only [Act.put, List.setIfInBounds_toArray, List.set_cons_zero, List.set_cons_succ]
    refine wpAnyH_ready (rs := [7]) (by kernel_rfl) (by simp) ?_
    refine AllReadyH.cons (o := { dst := some 71, op := Op.call { callee := Callee.builtin Builtin.append, args := #[Operand.tmp 69, Operand.tmp 70], argTypes := #[24, 24] }, type := 24, pos := "law.go:117", after := #[{ on := 5, ground := Ground.data }, { on := 6, ground := Ground.data }, { on := 5, ground := Ground.chain }], guard := none }) rfl (fun K hK => ?_) AllReadyH.nil
    refine step_appB rfl (.tmp 69) (.tmp 70) rfl w6.heap.size _ _ _ rfl O8.out _ gl _ g rfl HG8.out (by omega) hs8.out ?_
    intro v9 w9 O9 G9
    obtain ⟨a9, c9, e9⟩ := slice_ofB O9
    subst e9
    have B9 := hide (B8.out.grown G9 B8.out.size (fun q e => by have := (O8.out.lt q e).1; have := hs7.out; omega))
    have cc9 := (B9.out.cell (p := ⟨cb, co, none⟩) hcb).trans c6'
    obtain ⟨ax, cx, ex, HX⟩ := has_of_owns O9 (fun y hy => by rcases List.mem_append.1 hy with hy | hy; exact (by rcases List.mem_append.1 hy with hy | hy; exact HG.out.bytes y hy; exact HC.out.bytes y hy); exact HG.out.bytes y hy)
    cases ex
    have RD := cRead_ok w9 _ _ _ _ gl HX (hT.out.below (b5'.out.trans (B9.out.mono b5'.out.size))) (by omega) (by omega) hrd
    replace RD := hide RD
    clear O9 G9 HX HG8
    refine hK.out _ _ cc9 (fun hH3 => ?_)
    clear hK
    try simp only [Act.put, List.setIfInBounds_toArray, List.set_cons_zero, List.set_cons_succ]
    refine wpAnyH_ready (rs := [10]) (by kernel_rfl) (by simp) ?_
    refine AllReadyH.cons (o := { dst := some 74, op := Op.call { callee := Callee.value (Operand.func 11), args := #[Operand.tmp 71, Operand.tmp 73], argTypes := #[24, 3] }, type := 35, pos := "law.go:117", after := #[{ on := 7, ground := Ground.data }, { on := 9, ground := Ground.data }, { on := 7, ground := Ground.chain }], guard := none }) rfl (fun K hK => ?_) AllReadyH.nil
    go_simp
    refine RD.out.mono ?_
    rintro e w10 ⟨a10, c10, rfl, H10, b10⟩
    have B10 := hide (B9.out.trans (b10.mono B9.out.size))
    have cc10 := (B10.out.cell (p := ⟨cb, co, none⟩) hcb).trans c6'
    replace H10 := hide H10
    clear RD b10
    refine hK.out _ _ cc10 (fun hH4 => ?_)
    clear hK
    try simp only [Act.put, List.setIfInBounds_toArray, List.set_cons_zero, List.set_cons_succ]
    refine wpAnyH_take (i := 11) (oi := { dst := some 63, op := Op.move (Operand.tmp 74), type := 35, pos := "law.go:117", after := #[{ on := 10, ground := Ground.data }], guard := none }) (v := ?_) rfl (by kernel_rfl) (by kernel_rfl) (by kernel_rfl) (fun _ _ _ h => h) (Or.inl ⟨by rfl, ?_⟩) hH4 ?_
    rotate_left
    · intro w' hw'
      obtain c0c := hw'
      go_simp
      try with_reducible rfl
    try simp only [Act.put, List.setIfInBounds_toArray, List.set_cons_zero, List.set_cons_succ]
    refine wpAnyH_take (i := 12) (oi := { dst := some 75, op := Op.extract (Operand.tmp 63) 0, type := 26, pos := "law.go:117", after := #[{ on := 11, ground := Ground.data }], guard := none }) (v := ?_) rfl (by kernel_rfl) (by kernel_rfl) (by kernel_rfl) (fun _ _ _ h => h) (Or.inl ⟨by rfl, ?_⟩) hH4 ?_
    rotate_left
    · intro w' hw'
      obtain c0c := hw'
      go_simp
      try with_reducible rfl
    try simp only [Act.put, List.setIfInBounds_toArray, List.set_cons_zero, List.set_cons_succ]
    refine wpAnyH_take (i := 13) (oi := { dst := some 76, op := Op.extract (Operand.tmp 63) 1, type := 3, pos := "law.go:117", after := #[{ on := 11, ground := Ground.data }, { on := 15, ground := Ground.gcOnly Departure.lateStores }], guard := none }) (v := ?_) rfl (by kernel_rfl) (by kernel_rfl) (by kernel_rfl) (fun _ _ _ h => h) (Or.inl ⟨by rfl, ?_⟩) hH4 ?_
    rotate_left
    · intro w' hw'
      obtain c0c := hw'
      go_simp
      try with_reducible rfl
    try simp only [Act.put, List.setIfInBounds_toArray, List.set_cons_zero, List.set_cons_succ]
    refine wpAnyH_take (i := 14) (oi := { dst := some 77, op := Op.extract (Operand.tmp 63) 2, type := 29, pos := "law.go:117", after := #[{ on := 11, ground := Ground.data }, { on := 16, ground := Ground.gcOnly Departure.lateStores }], guard := none }) (v := ?_) rfl (by kernel_rfl) (by kernel_rfl) (by kernel_rfl) (fun _ _ _ h => h) (Or.inl ⟨by rfl, ?_⟩) hH4 ?_
    rotate_left
    · intro w' hw'
      obtain c0c := hw'
      go_simp
      try with_reducible rfl
    try simp only [Act.put, List.setIfInBounds_toArray, List.set_cons_zero, List.set_cons_succ]
    refine wpAnyH_take (i := 15) (oi := { dst := some 14, op := Op.assign (Operand.tmp 75), type := 26, pos := "law.go:117", after := #[{ on := 12, ground := Ground.data }, { on := 10, ground := Ground.chain }, { on := 0, ground := Ground.phase }, { on := 1, ground := Ground.phase }, { on := 2, ground := Ground.phase }, { on := 3, ground := Ground.phase }, { on := 4, ground := Ground.phase }, { on := 5, ground := Ground.phase }, { on := 6, ground := Ground.phase }, { on := 7, ground := Ground.phase }, { on := 8, ground := Ground.phase }, { on := 9, ground := Ground.phase }, { on := 10, ground := Ground.phase }, { on := 11, ground := Ground.phase }, { on := 12, ground := Ground.phase }, { on := 13, ground := Ground.textOnly Departure.lateStores }, { on := 14, ground := Ground.textOnly Departure.lateStores }], guard := none }) (v := ?_) rfl (by kernel_rfl) (by kernel_rfl) (by kernel_rfl) (fun _ _ _ h => h) (Or.inl ⟨by rfl, ?_⟩) hH4 ?_
    rotate_left
    · intro w' hw'
      obtain c0c := hw'
      go_simp
      try with_reducible rfl
    try simp only [Act.put, List.setIfInBounds_toArray, List.set_cons_zero, List.set_cons_succ]
    refine wpAnyH_take (i := 16) (oi := { dst := some 15, op := Op.assign (Operand.tmp 76), type := 3, pos := "law.go:117", after := #[{ on := 13, ground := Ground.data }, { on := 15, ground := Ground.chain }, { on := 0, ground := Ground.phase }, { on := 1, ground := Ground.phase }, { on := 2, ground := Ground.phase }, { on := 3, ground := Ground.phase }, { on := 4, ground := Ground.phase }, { on := 5, ground := Ground.phase }, { on := 6, ground := Ground.phase }, { on := 7, ground := Ground.phase }, { on := 8, ground := Ground.phase }, { on := 9, ground := Ground.phase }, { on := 10, ground := Ground.phase }, { on := 11, ground := Ground.phase }, { on := 12, ground := Ground.phase }, { on := 13, ground := Ground.phase }, { on := 14, ground := Ground.textOnly Departure.lateStores }, { on := 15, ground := Ground.phase }], guard := none }) (v := ?_) rfl (by kernel_rfl) (by kernel_rfl) (by kernel_rfl) (fun _ _ _ h => h) (Or.inl ⟨by rfl, ?_⟩) hH4 ?_
    rotate_left
    · intro w' hw'
      obtain c0c := hw'
      go_simp
      try with_reducible rfl
    try simp only [Act.put, List.setIfInBounds_toArray, List.set_cons_zero, List.set_cons_succ]
    refine wpAnyH_take (i := 17) (oi := { dst := some 16, op := Op.assign (Operand.tmp 77), type := 29, pos := "law.go:117", after := #[{ on := 14, ground := Ground.data }, { on := 16, ground := Ground.chain }, { on := 0, ground := Ground.phase }, { on := 1, ground := Ground.phase }, { on := 2, ground := Ground.phase }, { on := 3, ground := Ground.phase }, { on := 4, ground := Ground.phase }, { on := 5, ground := Ground.phase }, { on := 6, ground := Ground.phase }, { on := 7, ground := Ground.phase }, { on := 8, ground := Ground.phase }, { on := 9, ground := Ground.phase }, { on := 10, ground := Ground.phase }, { on := 11, ground := Ground.phase }, { on := 12, ground := Ground.phase }, { on := 13, ground := Ground.phase }, { on := 14, ground := Ground.phase }, { on := 15, ground := Ground.phase }, { on := 16, ground := Ground.phase }], guard := none }) (v := ?_) rfl (by kernel_rfl) (by kernel_rfl) (by kernel_rfl) (fun _ _ _ h => h) (Or.inl ⟨by rfl, ?_⟩) hH4 ?_
    rotate_left
    · intro w' hw'
      obtain c0c := hw'
      go_simp
      try with_reducible rfl
    try simp only [Act.put, List.setIfInBounds_toArray, List.set_cons_zero, List.set_cons_succ]
    refine wpAnyH_done (by kernel_rfl) ?_ _
    have q1 : ((gl + n0 : Nat) : Int) = (gl : Int) + (n0 : Int) := by omega
    have HR10 := hide (HR5.out.kept B10.out (Nat.le_refl _))
    rw [hpc.out] at H10
    have SB := sameS_any w10 a10 aR pc.length m c10 cR _ _ H10.out (HR10.out.front m (by have := hm.out; omega))
    rw [decide_eq_true rfl] at SB
    replace SB := hide SB
    have BF := hide (b5'.out.trans (B10.out.mono b5'.out.size))
    clear c6 c6' B7 B8 B9 cc7 cc8 cc9 O7 O8 hs7 hs7' hs8 HC BY hrd
    go_wp2_with fail
    refine SB.out.mono ?_
    rintro e w11 ⟨rfl, d11, rfl⟩
    have BF2 := hide (below_drewN BF.out d11)
    generalize w10.drewN d11 = w12 at *
    clear SB BF
    go_wp2_with fail
    go_ret
    exact ⟨rfl, BF2.out⟩
end Go.Proofs.YtmjjedbdedemcaaDoor
