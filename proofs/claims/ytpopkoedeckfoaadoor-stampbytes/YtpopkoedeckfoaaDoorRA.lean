/-
  Ints; the reference's Read.
-/
import Derived.Test.YtpopkoedeckfoaaDoorSZ
import Derived.Test.YtpopkoedeckfoaaDoorST
namespace Go.Proofs.YtpopkoedeckfoaaDoor
open Go.RowKit
set_option linter.unusedVariables false
set_option linter.unusedSimpArgs false

theorem owns_empty3 (w : World) : (w.alloc (.cells #[] 3)).ownsRow w.heap.size 3 1 (.slice (some ⟨w.heap.size, 0, none⟩) 0 0) 0 (([] : List Int).map (Value.int .i64)) := by
  simpa using World.ownsRow_made (e := 3) (size := 1) w #[] 0 (Nat.le_refl _) (Nat.zero_le _) (by simp)

set_option maxHeartbeats 1000000 in
theorem ints_any (w : World) (a : Option Addr) (len cap : Nat) (l : List Int) (h : HasI w a len cap l) (hn : a = none → cap = 0) (hb : len ≤ 1000000) :
    Calls Tryd.prog 27 #[.slice a len cap] w fun e w' => ∃ a' cap', e = .returned (.slice a' len cap') ∧ HasI w' a' len cap' l ∧ Below w.heap.size w w' := by
  have hB : Below w.heap.size w (w.alloc (.cells #[] 3)) := (Below.refl _ _).alloc (Nat.le_refl _) _
  have H := h.kept hB (Nat.le_refl _)
  have hr := hide h.range
  have hle := h.le
  have hll := h.hlen
  have O := owns_empty3 w
  obtain ⟨i0, hi, hz0, hz1, hz2⟩ := info_parts info3
  clear h
  cases a with
  | none =>
    have hc := hn rfl
    subst hc
    obtain rfl : len = 0 := by omega
    obtain rfl : l = [] := List.eq_nil_of_length_eq_zero hll
    go_enter Tryd.func27, Tryd.ntmps27
    go_wp2_with (at_builtin; refine wpList_append_own_none rfl (.tmp 3) (.tmp 4) 57 rfl w.heap.size 3 i0 1 Tryd.underlying57 hi _ 0 _ rfl O rfl ?_)
    go_ret
    obtain ⟨a', cap', e, hh⟩ := hasI_of_owns O (fun x hx => by simp at hx)
    cases e
    exact ⟨_, _, rfl, hh, hB⟩
  | some ad =>
    have hcs : ∀ j u, (l.map (Value.int .i64))[j]? = some u → (w.alloc (.cells #[] 3)).cell? (ad.add j) = some u := by
      intro j u hj
      have hjl : j < l.length := by
        rcases Nat.lt_or_ge j l.length with h | h
        · exact h
        · rw [List.getElem?_eq_none (by simpa using h)] at hj; cases hj
      obtain ⟨b, off, e1, e2, e3⟩ := H.cells (by omega)
      cases e1
      rw [List.getElem?_map, List.getElem?_eq_getElem hjl] at hj
      simp only [Option.map_some, Option.some.injEq] at hj
      subst hj
      rw [add_plain, e3 j (by omega)]
      simp [List.getD, List.getElem?_eq_getElem hjl]
    go_enter Tryd.func27, Tryd.ntmps27
    go_wp2_with (at_builtin; refine wpList_append_own _ rfl (.tmp 3) (.tmp 4) 57 rfl w.heap.size 3 i0 (.int .i64 0) 1 8 Tryd.underlying57 hi hz0 hz1 hz2 rfl (by decide) _ 0 _ rfl O ad len cap (l.map (Value.int .i64)) rfl (by simp [hll]) hcs (ints_oneCell _ _) (by unfold maxLen; omega) (by omega) hB.size ?_; intro v' w' h1 h2 h3)
    go_ret
    obtain ⟨a', cap', e, hh⟩ := hasI_of_owns (n := 0 + len) (l := l) (by simpa using h1) hr.out
    rw [Nat.zero_add] at e hh
    subst e
    exact ⟨_, _, rfl, hh, hB.grown h2 hB.size (fun k hk => (O.lt k hk).1)⟩

set_option maxRecDepth 100000 in
set_option maxHeartbeats 2000000 in
theorem rread_bad (w : World) (a : Option Addr) (len cap : Nat) (m : Int) (hm : isCnt m = false) :
    Calls Tryd.prog 31 #[.slice a len cap, .int .i64 m] w fun e w' => e = .returned (.tuple #[.slice none 0 0, .int .i64 2]) ∧ w' = w := by
  have hc : m < 0 ∨ (¬ m < 0 ∧ 4096 < m) := by simp [isCnt] at hm; omega
  clear hm
  rcases hc with h | ⟨h, h'⟩
  · go_enter Tryd.func31, Tryd.ntmps31
    go_wp2_with fail
    go_ret2
    exact ⟨rfl, rfl⟩
  · go_enter Tryd.func31, Tryd.ntmps31
    go_wp2_with fail
    go_ret2
    exact ⟨rfl, rfl⟩

/-- How things stand between rounds of the reference's Read. -/
structure RR (w0 w : World) (r : Nat) (a : Option Addr) (len cap : Nat) (lb : List Int) (P g : Nat) (x y z : Value) (v : Value) (ts : List Int) : Prop where
  rf : Ref w w0.heap.size r a len cap P
  H : Has w a len cap lb
  s : Box3 w g x y z
  own : w.ownsRow w0.heap.size 3 1 v ts.length (ts.map (Value.int .i64))
  bel : Below w0.heap.size w0 w
  hap : 0 < len → ∀ b off, a = some ⟨b, off, none⟩ → b < w0.heap.size
  rv : v.ownBlock ≠ some r
  gv : v.ownBlock ≠ some g
  rg : r ≠ g
  bg : w0.heap.size ≤ g
section
variable {w0 w w' : World} {r len cap P P2 g : Nat} {a : Option Addr} {lb : List Int} {x y z v : Value} {ts : List Int}
theorem RR.below (h : RR w0 w r a len cap lb P g x y z v ts) (hb : Below w.heap.size w w') : RR w0 w' r a len cap lb P g x y z v ts :=
  ⟨h.rf.below hb (Nat.le_refl _), h.H.kept hb (Nat.le_refl _), h.s.kept hb h.s.lt, owns_of_block h.own (fun k hk => hb.block k (h.own.lt k hk).2), h.bel.trans (hb.mono h.bel.size), h.hap, h.rv, h.gv, h.rg, h.bg⟩
theorem RR.get (h : RR w0 w r a len cap lb P g x y z v ts) (hb : But (fun k => k = r) w w') (hr : Ref w' w0.heap.size r a len cap P2) : RR w0 w' r a len cap lb P2 g x y z v ts :=
  have hB : Below w0.heap.size w w' := h.rf.bel hb
  ⟨hr, h.H.low hB h.hap, h.s.but hb (fun e => h.rg e.symm), owns_of_block h.own (fun k hk => hb.block k (h.own.lt k hk).2 (fun e => h.rv (by rw [← e]; exact hk))), h.bel.trans hB, h.hap, h.rv, h.gv, h.rg, h.bg⟩
theorem RR.set (h : RR w0 w r a len cap lb P g x y z v ts) (x' y' z' : Value) : RR w0 (((w.setCell ⟨g, 0, none⟩ x').setCell ⟨g, 1, none⟩ y').setCell ⟨g, 2, none⟩ z') r a len cap lb P g x' y' z' v ts :=
  have hb := but3 w g x' y' z'
  have hB : Below w0.heap.size w _ := hb.below h.bel.size (fun i hi => by rw [hi]; exact h.bg)
  ⟨h.rf.kept hb h.rg, h.H.low hB h.hap, h.s.set x' y' z', owns_of_block h.own (fun k hk => hb.block k (h.own.lt k hk).2 (fun e => h.gv (by rw [← e]; exact hk))), h.bel.trans hB, h.hap, h.rv, h.gv, h.rg, h.bg⟩
theorem RR.more (h : RR w0 w r a len cap lb P g x y z v ts) {g2 cap2 : Nat} {t : Int} (o2 : w'.ownsRow w0.heap.size 3 1 (.slice (some ⟨g2, 0, none⟩) (ts.length + 1) cap2) (ts.length + 1) ((ts ++ [t]).map (Value.int .i64))) (G : w.grownBy w' v.ownBlock) (hat : v.ownBlock = some g2 ∨ g2 = w.heap.size) :
    RR w0 w' r a len cap lb P g x y z (.slice (some ⟨g2, 0, none⟩) (ts.length + 1) cap2) (ts ++ [t]) := by
  have hlt := h.rf.lt
  have hgl := h.s.lt
  have hB : Below w0.heap.size w w' := (Below.refl _ w).grown G h.bel.size (fun k e => (h.own.lt k e).1)
  refine ⟨⟨(G.block r hlt (fun e => h.rv e.symm)).trans h.rf.heap, h.rf.ge⟩, h.H.low hB h.hap, h.s.same (G.block g hgl (fun e => h.gv e.symm)) G.size, by simpa using o2, h.bel.trans hB, h.hap, fun e => ?_, fun e => ?_, h.rg, h.bg⟩
  · have : g2 = r := by simpa [Value.ownBlock] using e
    rcases hat with h5 | h5
    · exact h.rv (by rw [h5, this])
    · omega
  · have : g2 = g := by simpa [Value.ownBlock] using e
    rcases hat with h5 | h5
    · exact h.gv (by rw [h5, this])
    · omega
end

theorem wpList_lies3b {w : World} {ops : Array Oper} {rest : List Oper} {o : Oper} {a : Act} {Q : Exit → Act → World → Prop} (hgd : o.guard = none) (s x : Operand)
    (ho : o.op = .call { callee := .builtin .append, args := #[s, x], argTypes := #[57, 57] }) (base : Nat) (v : Value) (k : Nat) (l : List Int) (hs : a.eval s = v) (hown : w.ownsRow base 3 1 v k (l.map (Value.int .i64)))
    (ax : Nat) (b : Int) (hx : a.eval x = .slice (some ⟨ax, 0, none⟩) 1 1) (hc : w.cell? ⟨ax, 0, none⟩ = some (.int .i64 b)) (hb : k + 1 ≤ 1000000) (hbase : base ≤ w.heap.size)
    (h : ∀ g cap w', w'.ownsRow base 3 1 (.slice (some ⟨g, 0, none⟩) (k + 1) cap) (k + 1) ((l ++ [b]).map (Value.int .i64)) → w.grownBy w' v.ownBlock → (v.ownBlock = some g ∨ g = w.heap.size) → wpList Tryd.prog ops Q rest (a.put o.dst (.slice (some ⟨g, 0, none⟩) (k + 1) cap)) w') :
    wpList Tryd.prog ops Q (o :: rest) a w := by
  obtain ⟨i0, hi, hz0, hz1, hz2⟩ := info_parts info3
  refine wpList_append_lies w hgd s x 57 ho base 3 i0 (.int .i64 0) 1 8 Tryd.underlying57 hi hz0 hz1 hz2 rfl (by decide) v k (l.map (Value.int .i64)) hs hown ⟨ax, 0, none⟩ 1 1 ([b].map (Value.int .i64)) hx
    (by simp) ?_ (ints_oneCell _ _) (by omega) (by unfold maxLen; omega) (by omega) hbase _ rfl ?_
  · intro j u hj
    have hj0 : j = 0 := by
      rcases Nat.lt_or_ge j 1 with h | h
      · omega
      · rw [List.getElem?_eq_none (by simpa using h)] at hj; cases hj
    subst hj0
    simp at hj
    subst hj
    rw [add_plain]; exact hc
  · intro g cap w' h1 h2 h3 _
    exact h g cap w' (by simpa using h1) h2 h3

set_option maxRecDepth 100000 in
set_option maxHeartbeats 4000000 in
theorem rread_any (w : World) (a : Option Addr) (len cap : Nat) (lb : List Int) (m : Nat) (hm : m ≤ 4096) (H : Has w a len cap lb) (hlen : len ≤ 300) :
    Calls Tryd.prog 31 #[.slice a len cap, .int .i64 (m : Int)] w (ReadT (num lb) lb.length m w) := by
  have hz36 := zero36
  have hz49 : (Tryd.prog.info? 49).map (·.zero) = some (some (.agg #[.slice none 0 0, .int .i64 0])) := by kernel_rfl
  have i1 : (m : Int) ≤ 4096 := by omega
  have hll := hide H.hlen
  have hap : Hid (0 < len → ∀ b off, a = some ⟨b, off, none⟩ → b < w.heap.size) := fun h0 b off e => by
    obtain ⟨b', off', e', h1, _⟩ := H.cells h0
    rw [e] at e'
    cases e'
    exact h1
  have B1 : Below w.heap.size w (w.alloc (.cells #[.slice a len cap, .int .i64 0] 49)) := (Below.refl _ w).alloc (Nat.le_refl _) _
  have B2 : Below w.heap.size w ((w.alloc (.cells #[.slice a len cap, .int .i64 0] 49)).alloc (.cells #[.int .i64 0, .int .i64 0, .int .i64 0] 36)) := B1.alloc B1.size _
  have B3 : Below w.heap.size w (((w.alloc (.cells #[.slice a len cap, .int .i64 0] 49)).alloc (.cells #[.int .i64 0, .int .i64 0, .int .i64 0] 36)).alloc (.cells #[] 3)) := B2.alloc B2.size _
  have E0 : Hid (RR w (((w.alloc (.cells #[.slice a len cap, .int .i64 0] 49)).alloc (.cells #[.int .i64 0, .int .i64 0, .int .i64 0] 36)).alloc (.cells #[] 3)) w.heap.size a len cap lb 0 (w.heap.size + 1) (.int .i64 0) (.int .i64 0) (.int .i64 0) (.slice (some ⟨w.heap.size + 1 + 1, 0, none⟩) 0 0) []) := by
    have hrf : Ref (w.alloc (.cells #[.slice a len cap, .int .i64 0] 49)) w.heap.size w.heap.size a len cap 0 := ⟨heap_alloc_new w _, Nat.le_refl _⟩
    have K1 : Below (w.heap.size + 1) (w.alloc (.cells #[.slice a len cap, .int .i64 0] 49)) ((w.alloc (.cells #[.slice a len cap, .int .i64 0] 49)).alloc (.cells #[.int .i64 0, .int .i64 0, .int .i64 0] 36)) := (Below.refl _ _).alloc (by simp) _
    have K2 : Below (w.heap.size + 1 + 1) ((w.alloc (.cells #[.slice a len cap, .int .i64 0] 49)).alloc (.cells #[.int .i64 0, .int .i64 0, .int .i64 0] 36)) (((w.alloc (.cells #[.slice a len cap, .int .i64 0] 49)).alloc (.cells #[.int .i64 0, .int .i64 0, .int .i64 0] 36)).alloc (.cells #[] 3)) := (Below.refl _ _).alloc (by simp) _
    refine ⟨(hrf.below K1 (by simp)).below K2 (by simp), H.kept B3 (Nat.le_refl _), (Box3.new_at (by simp) _ _ _ 36).kept K2 (by omega), ?_, B3, hap.out, ?_, ?_, by omega, by omega⟩
    · have := owns_empty3 ((w.alloc (.cells #[.slice a len cap, .int .i64 0] 49)).alloc (.cells #[.int .i64 0, .int .i64 0, .int .i64 0] 36))
      rw [World.size_alloc, World.size_alloc] at this
      exact owns_mono this (by omega)
    · exact fun e => absurd (Option.some.inj (show some (w.heap.size + 1 + 1) = some w.heap.size from e)) (by omega)
    · exact fun e => absurd (Option.some.inj (show some (w.heap.size + 1 + 1) = some (w.heap.size + 1) from e)) (by omega)
  clear B1 B2 B3 H
  go_enter Tryd.func31, Tryd.ntmps31
  go_wp2_with fail
  have hd1 : decide ((m : Int) < 0) = false := decide_eq_false (by omega)
  have hd2 : decide ((4096 : Int) < (m : Int)) = false := decide_eq_false (by omega)
  simp only [hd1, hd2, Bool.or_self]
  clear hd1 hd2
  go_loopw [8, 9] (fun ov iv wr => ∃ (i L D P : Nat) (ts : List Int), i ≤ m ∧ iv = .int .i64 (i : Int) ∧ Hid (rdA (num lb) lb.length i = .inl (L, D, P, ts)) ∧ Hid (RR w wr w.heap.size a len cap lb P (w.heap.size + 1) (.int .i64 (i : Int)) (.int .i64 (L : Int)) (.int .i64 (D : Int)) ov ts)) (fun _ iv _ => m - (intOf iv).toNat)
  case atStart => exact ⟨0, 0, 0, 0, [], Nat.zero_le _, rfl, rfl, E0⟩
  case round =>
    clear E0
    obtain ⟨i, L, D, P, ts, hi, rfl, hA, E⟩ := hrel
    obtain ⟨hok, hP8, hts⟩ := rdA_fine hA.out (by omega)
    by_cases hlt : i < m
    · have j1 : (i : Int) < (m : Int) := by omega
      have GE := hide (rgetS E.out.rf E.out.H hap.out hlen (by rw [hll.out] at hP8; exact hP8) hok)
      have s0 := E.out.s.c0
      have s1 := E.out.s.c1
      have s2 := E.out.s.c2
      replace hok := hide hok
      replace hP8 := hide hP8
      go_wp2_with fail
      refine GE.out.mono ?_
      rintro e w4 ⟨er, t, k, hg, her, h0, h1, b4⟩
      by_cases her0 : er = 0
      · subst her0
        obtain ⟨rfl, R4⟩ := h0 rfl
        have hA' := hide (rdA_ok hA.out (by rw [hll.out]; exact hg))
        obtain ⟨qq, hqq⟩ : ∃ qq, dl i L t = qq := ⟨_, rfl⟩
        obtain ⟨i1, hi1⟩ : ∃ i1, i + 1 = i1 := ⟨_, rfl⟩
        rw [hqq, hi1]
        rw [hqq, hi1] at hA'
        have E4 := hide ((E.out.get b4 R4).below ((Below.refl w4.heap.size w4).alloc (Nat.le_refl _) (.cells #[.int .i64 (i1 : Int), .int .i64 (t : Int), .int .i64 (qq : Int)] 36)))
        have E5 := hide (E4.out.set (.int .i64 (i1 : Int)) (.int .i64 (t : Int)) (.int .i64 (qq : Int)))
        have E6 := hide (E5.out.below ((Below.refl _ _).alloc (Nat.le_refl _) (.cells #[.int .i64 (t : Int)] 3)))
        have MO := hide (fun (w' : World) (g2 cap2 : Nat) => E6.out.more (w' := w') (g2 := g2) (cap2 := cap2) (t := (t : Int)))
        have x0 := (Box3.new w4 (.int .i64 (i1 : Int)) (.int .i64 (t : Int)) (.int .i64 (qq : Int)) 36).c0
        have x1 := (Box3.new w4 (.int .i64 (i1 : Int)) (.int .i64 (t : Int)) (.int .i64 (qq : Int)) 36).c1
        have x2 := (Box3.new w4 (.int .i64 (i1 : Int)) (.int .i64 (t : Int)) (.int .i64 (qq : Int)) 36).c2
        obtain ⟨r0, r1, r2, r3, r4, r5, r6⟩ := E4.out.s
        have r7 := E4.out.s.o1
        have r8 := E4.out.s.o2
        have hown := hide E6.out.own
        have hbs := hide E6.out.bel.size
        have hcA := hide ((Boxed.new ((((w4.alloc (.cells #[.int .i64 (i1 : Int), .int .i64 (t : Int), .int .i64 (qq : Int)] 36)).setCell ⟨w.heap.size + 1, 0, none⟩ (.int .i64 (i1 : Int))).setCell ⟨w.heap.size + 1, 1, none⟩ (.int .i64 (t : Int))).setCell ⟨w.heap.size + 1, 2, none⟩ (.int .i64 (qq : Int))) 3 (.int .i64 (t : Int))).cell)
        simp only [World.size_setCell, World.size_alloc] at hcA
        have j2 : (i : Int) + 1 = (i1 : Int) := by omega
        have j3 : i1 ≤ m := by omega
        have j5 : ts.length + 1 ≤ 1000000 := by omega
        replace hg := hide hg
        replace hqq := hide hqq
        replace hi1 := hide hi1
        replace hts := hide hts
        clear GE h0 h1 b4 R4 E s0 s1 s2 her E4 E5 E6
        go_wp2_with (refine wpList_lies3b rfl (.tmp 40) (.tmp 42) rfl w.heap.size u8 ts.length ts rfl hown.out _ (t : Int) rfl hcA.out j5 hbs.out ?_; intro g2 cap2 w2 o2 G2 hat)
        have E7 := hide (MO.out _ _ _ o2 G2 hat)
        clear MO o2 G2 hat hown hcA hbs
        go_wp2_with fail
        go_roundw
        case rel => exact ⟨i1, t, qq, P + k, ts ++ [(t : Int)], j3, by go_num, hA', E7⟩
        case measure => simp [intOf]; omega
      · obtain ⟨rfl, P3, R4⟩ := h1 her0
        have hA' := hide (rdA_stuck (rdA_err hA.out (by rw [hll.out]; exact hg) her0) (show i + 1 ≤ m by omega))
        have E4 := hide ((E.out.get b4 R4).below ((Below.refl w4.heap.size w4).alloc (Nat.le_refl _) (.cells #[.int .i64 0, .int .i64 0, .int .i64 0] 36)))
        have j3 : ((er : Int) != 0) = true := by rw [bne_iff_ne]; omega
        replace hg := hide hg
        replace hts := hide hts
        clear GE h0 h1 b4 R4 E s0 s1 s2 her
        go_wp2_with fail
        go_ret2
        exact ⟨.inr ⟨er, hA'.out, rfl⟩, E4.out.bel⟩
    · obtain rfl : i = m := by omega
      have j1 : ¬ (i : Int) < (i : Int) := by omega
      obtain ⟨a', cap', e, hh⟩ := hasI_of_owns E.out.own (fun x hx => by have := rdA_range hA.out x hx; omega)
      rw [hts] at e hh
      replace hh := hide hh
      subst e
      go_wp2_with fail
      go_ret2
      exact ⟨.inl ⟨L, D, P, ts, _, _, hA.out, rfl, hh.out⟩, E.out.bel⟩
end Go.Proofs.YtpopkoedeckfoaaDoor
