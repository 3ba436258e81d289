/-
  The reference's Read.
-/
import Derived.Test.YtmddkinecplooaaDoorYY
import Derived.Test.YtmddkinecplooaaDoorXS
import Derived.BigQuiet
import Derived.Deep.Cut
namespace Go.Proofs.YtmddkinecplooaaDoor
open Go.RowKit
set_option linter.unusedVariables false
set_option linter.unusedSimpArgs false

theorem owns_empty22 (w : World) : (w.alloc (.cells #[] 22)).ownsRow w.heap.size 22 1 (.slice (some ⟨w.heap.size, 0, none⟩) 0 0) 0 (([] : List Int).map (Value.int .u64)) := by
  simpa using World.ownsRow_made (e := 22) (size := 1) w #[] 0 (Nat.le_refl _) (Nat.zero_le _) (by simp)

set_option maxRecDepth 100000 in
set_option maxHeartbeats 2000000 in
theorem rread_bad (w : World) (a : Option Addr) (len cap : Nat) (m : Int) (hm : isCnt m = false) :
    Calls Tryd.prog 32 #[.slice a len cap, .int .i64 m] w fun e w' => e = .returned (.tuple #[.slice none 0 0, .int .i64 2]) ∧ w' = w := by
  have hc : m < 0 ∨ (¬ m < 0 ∧ 4096 < m) := by simp [isCnt] at hm; omega
  clear hm
  rcases hc with h | ⟨h, h'⟩
  · go_enter Tryd.func32, Tryd.ntmps32
    go_wp2_with fail
    go_ret2
    exact ⟨rfl, rfl⟩
  · go_enter Tryd.func32, Tryd.ntmps32
    go_wp2_with fail
    go_ret2
    exact ⟨rfl, rfl⟩

/-- How things stand between rounds of the reference's Read. -/
structure RR (w0 w : World) (r : Nat) (a : Option Addr) (len cap : Nat) (lb : List Int) (P g : Nat) (xs : Array Value) (v : Value) (ts : List Int) : Prop where
  rf : Ref w w0.heap.size r a len cap P
  H : Has w a len cap lb
  s : Bx w g 36 xs
  own : w.ownsRow w0.heap.size 22 1 v ts.length (ts.map (Value.int .u64))
  bel : Below w0.heap.size w0 w
  hap : 0 < len → ∀ b off, a = some ⟨b, off, none⟩ → b < w0.heap.size
  rv : v.ownBlock ≠ some r
  gv : v.ownBlock ≠ some g
  rg : r ≠ g
  bg : w0.heap.size ≤ g
section
variable {w0 w w' : World} {r len cap P P2 g : Nat} {a : Option Addr} {lb : List Int} {xs : Array Value} {v : Value} {ts : List Int}
theorem RR.below (h : RR w0 w r a len cap lb P g xs v ts) (hb : Below w.heap.size w w') : RR w0 w' r a len cap lb P g xs v ts :=
  ⟨h.rf.below hb (Nat.le_refl _), h.H.kept hb (Nat.le_refl _), h.s.below hb, owns_of_block h.own (fun k hk => hb.block k (h.own.lt k hk).2), h.bel.trans (hb.mono h.bel.size), h.hap, h.rv, h.gv, h.rg, h.bg⟩
theorem RR.get (h : RR w0 w r a len cap lb P g xs v ts) (hb : But (fun k => k = r) w w') (hr : Ref w' w0.heap.size r a len cap P2) : RR w0 w' r a len cap lb P2 g xs v ts :=
  have hB : Below w0.heap.size w w' := h.rf.bel hb
  ⟨hr, h.H.low hB h.hap, h.s.but hb (fun e => h.rg e.symm), owns_of_block h.own (fun k hk => hb.block k (h.own.lt k hk).2 (fun e => h.rv (by rw [← e]; exact hk))), h.bel.trans hB, h.hap, h.rv, h.gv, h.rg, h.bg⟩
theorem RR.set (h : RR w0 w r a len cap lb P g xs v ts) {ys : Array Value} (hb : But (fun i => i = g) w w') (hs : Bx w' g 36 ys) : RR w0 w' r a len cap lb P g ys v ts :=
  have hB : Below w0.heap.size w _ := hb.below h.bel.size (fun i hi => by rw [hi]; exact h.bg)
  ⟨h.rf.kept hb h.rg, h.H.low hB h.hap, hs, owns_of_block h.own (fun k hk => hb.block k (h.own.lt k hk).2 (fun e => h.gv (by rw [← e]; exact hk))), h.bel.trans hB, h.hap, h.rv, h.gv, h.rg, h.bg⟩
theorem RR.more (h : RR w0 w r a len cap lb P g xs v ts) {g2 cap2 : Nat} {t : Int} (o2 : w'.ownsRow w0.heap.size 22 1 (.slice (some ⟨g2, 0, none⟩) (ts.length + 1) cap2) (ts.length + 1) ((ts ++ [t]).map (Value.int .u64))) (G : w.grownBy w' v.ownBlock) (hat : v.ownBlock = some g2 ∨ g2 = w.heap.size) :
    RR w0 w' r a len cap lb P g xs (.slice (some ⟨g2, 0, none⟩) (ts.length + 1) cap2) (ts ++ [t]) := by
  have hlt := h.rf.lt
  have hgl := h.s.lt
  have hB : Below w0.heap.size w w' := (Below.refl _ w).grown G h.bel.size (fun k e => (h.own.lt k e).1)
  refine ⟨⟨(G.block r hlt (fun e => h.rv e.symm)).trans h.rf.heap, h.rf.ge⟩, h.H.low hB h.hap, (G.block g hgl (fun e => h.gv e.symm)).trans h.s, by simpa using o2, h.bel.trans hB, h.hap, fun e => ?_, fun e => ?_, h.rg, h.bg⟩
  · have : g2 = r := by simpa [Value.ownBlock] using e
    rcases hat with h5 | h5
    · exact h.rv (by rw [h5, this])
    · omega
  · have : g2 = g := by simpa [Value.ownBlock] using e
    rcases hat with h5 | h5
    · exact h.gv (by rw [h5, this])
    · omega
end

theorem nums_oneCell (l : List Int) : ∀ u ∈ l.map (Value.int .u64), u.oneCell' = true := by
  intro u hu
  obtain ⟨x, _, rfl⟩ := List.mem_map.1 hu
  rfl
theorem wpList_lies3b {w : World} {ops : Array Oper} {rest : List Oper} {o : Oper} {a : Act} {Q : Exit → Act → World → Prop} (hgd : o.guard = none) (s x : Operand)
    (ho : o.op = .call { callee := .builtin .append, args := #[s, x], argTypes := #[60, 60] }) (base : Nat) (v : Value) (k : Nat) (l : List Int) (hs : a.eval s = v) (hown : w.ownsRow base 22 1 v k (l.map (Value.int .u64)))
    (ax : Nat) (b : Int) (hx : a.eval x = .slice (some ⟨ax, 0, none⟩) 1 1) (hc : w.cell? ⟨ax, 0, none⟩ = some (.int .u64 b)) (hb : k + 1 ≤ 1000000) (hbase : base ≤ w.heap.size)
    (h : ∀ g cap w', w'.ownsRow base 22 1 (.slice (some ⟨g, 0, none⟩) (k + 1) cap) (k + 1) ((l ++ [b]).map (Value.int .u64)) → w.grownBy w' v.ownBlock → (v.ownBlock = some g ∨ g = w.heap.size) → wpList Tryd.prog ops Q rest (a.put o.dst (.slice (some ⟨g, 0, none⟩) (k + 1) cap)) w') :
    wpList Tryd.prog ops Q (o :: rest) a w := by
  obtain ⟨i0, hi, hz0, hz1, hz2⟩ := info_parts info22
  refine wpList_append_lies w hgd s x 60 ho base 22 i0 (.int .u64 0) 1 8 Tryd.underlying60 hi hz0 hz1 hz2 rfl (by decide) v k (l.map (Value.int .u64)) hs hown ⟨ax, 0, none⟩ 1 1 ([b].map (Value.int .u64)) hx
    (by simp) ?_ (nums_oneCell _) (by omega) (by unfold maxLen; omega) (by omega) hbase _ rfl ?_
  · intro j u hj
    have hj0 : j = 0 := by
      rcases Nat.lt_or_ge j 1 with h | h
      · omega
      · rw [List.getElem?_eq_none (by simpa using h)] at hj; cases hj
    subst hj0
    simp at hj
    subst hj
    rw [add_plain]; exact hc
  · intro g cap w' h1 h2 h3 _
    exact h g cap w' (by simpa using h1) h2 h3

set_option maxRecDepth 100000 in
set_option maxHeartbeats 4000000 in
theorem rread_any (w : World) (a : Option Addr) (len cap : Nat) (lb : List Int) (m : Nat) (hm : m ≤ 4096) (H : Has w a len cap lb) (hlen : len ≤ 300) :
    Calls Tryd.prog 32 #[.slice a len cap, .int .i64 (m : Int)] w (ReadT (num lb) lb.length m w) := by
  have hz36 := zero36
  have hz52 : (Tryd.prog.info? 52).map (·.zero) = some (some (.agg #[.slice none 0 0, .int .i64 0])) := by kernel_rfl
  have i1 : (m : Int) ≤ 4096 := by omega
  have hll := hide H.hlen
  have hap : Hid (0 < len → ∀ b off, a = some ⟨b, off, none⟩ → b < w.heap.size) := fun h0 b off e => by
    obtain ⟨b', off', e', h1, _⟩ := H.cells h0
    rw [e] at e'
    cases e'
    exact h1
  have B1 : Below w.heap.size w (w.alloc (.cells #[.slice a len cap, .int .i64 0] 52)) := (Below.refl _ w).alloc (Nat.le_refl _) _
  replace H := hide H
  replace B1 := hide B1
  have hd1 : decide ((m : Int) < 0) = false := decide_eq_false (by omega)
  have hd2 : decide ((4096 : Int) < (m : Int)) = false := decide_eq_false (by omega)
  go_enter Tryd.func32, Tryd.ntmps32
  go_wp2_with fail
  try simp only [hd1, hd2, Bool.or_self]
  try go_wp2_with fail
  clear hd1 hd2
  refine (rbegin_any _).mono ?_
  rintro e wb ⟨rfl, bb⟩
  have B2 : Below w.heap.size w wb := B1.out.trans (bb.mono B1.out.size)
  have hrf : Ref (w.alloc (.cells #[.slice a len cap, .int .i64 0] 52)) w.heap.size w.heap.size a len cap 0 := ⟨heap_alloc_new w _, Nat.le_refl _⟩
  have hrb := hide (hrf.below bb (Nat.le_refl _))
  have hsb : w.heap.size < wb.heap.size := hrb.out.lt
  obtain ⟨g, hg⟩ : ∃ g, wb.heap.size = g := ⟨_, rfl⟩
  have E0 : Hid (RR w ((wb.alloc (.cells #[.int .i64 0, .int .u64 0, .int .i64 64, .int .i64 0] 36)).alloc (.cells #[] 22)) w.heap.size a len cap lb 0 g #[.int .i64 0, .int .u64 0, .int .i64 64, .int .i64 0] (.slice (some ⟨g + 1, 0, none⟩) 0 0) []) := by
    have K1 : Below wb.heap.size wb ((wb.alloc (.cells #[.int .i64 0, .int .u64 0, .int .i64 64, .int .i64 0] 36)).alloc (.cells #[] 22)) := ((Below.refl _ _).alloc (Nat.le_refl _) _).alloc (by simp) _
    have B3 := B2.trans (K1.mono B2.size)
    refine ⟨hrb.out.below K1 (Nat.le_refl _), H.out.kept B3 (Nat.le_refl _), (Bx.new_at hg.symm 36 _).alloc _, ?_, B3, hap.out, ?_, ?_, by omega, by omega⟩
    · have := owns_empty22 (wb.alloc (.cells #[.int .i64 0, .int .u64 0, .int .i64 64, .int .i64 0] 36))
      rw [World.size_alloc, hg] at this
      exact owns_mono this (by omega)
    · exact fun e => absurd (Option.some.inj (show some (g + 1) = some w.heap.size from e)) (by omega)
    · exact fun e => absurd (Option.some.inj (show some (g + 1) = some g from e)) (by omega)
  clear B1 B2 H hrf hrb bb
  go_wp2_with fail
  try simp only [World.size_alloc, hg]
  go_loopw [8, 9] (fun ov iv wr => ∃ (i L A B P : Nat) (ts : List Int), i ≤ m ∧ iv = .int .i64 (i : Int) ∧ Hid (rdA (num lb) lb.length i = some (L, A, B, P, ts)) ∧ Hid (RR w wr w.heap.size a len cap lb P g #[.int .i64 (i : Int), .int .u64 (L : Int), .int .i64 (A : Int), .int .i64 (B : Int)] ov ts)) (fun _ iv _ => m - (intOf iv).toNat)
  case atStart => exact ⟨0, 0, 64, 0, 0, [], Nat.zero_le _, rfl, rfl, E0⟩
  case round =>
    clear E0
    obtain ⟨i, L, A, B, P, ts, hi, rfl, hA, E⟩ := hrel
    obtain ⟨hok, hL, hP8, hts, -⟩ := rdA_fine hA.out (by omega)
    by_cases hlt : i < m
    · have j1 : (i : Int) < (m : Int) := by omega
      have s0 := E.out.s.st4.c0
      have s1 := E.out.s.st4.c1
      have s2 := E.out.s.st4.c2
      have s3 := E.out.s.st4.c3
      cases hgx : gX i L A B (num lb) lb.length P with
      | some qq =>
        obtain ⟨t, k, A1, B1⟩ := qq
        have hA' := hide (rdA_ok hA.out hgx)
        have GE := hide (rgX_ok E.out.rf E.out.H hap.out hlen (by rw [hll.out] at hP8; exact hP8) hok hL (by rw [← hll.out]; exact hgx))
        obtain ⟨i1, hi1⟩ : ∃ i1, i + 1 = i1 := ⟨_, rfl⟩
        rw [hi1] at hA' GE
        replace hok := hide hok
        replace hP8 := hide hP8
        replace hL := hide hL
        replace hgx := hide hgx
        go_wp2_with fail
        refine GE.out.mono ?_
        rintro e w4 ⟨rfl, R4, b4⟩
        have E4 := hide ((E.out.get b4 R4).below ((Below.refl w4.heap.size w4).alloc (Nat.le_refl _) (.cells #[.int .i64 (i1 : Int), .int .u64 (t : Int), .int .i64 (A1 : Int), .int .i64 (B1 : Int)] 36)))
        have E5 := hide (E4.out.set (but_set4 _ g (.int .i64 (i1 : Int)) (.int .u64 (t : Int)) (.int .i64 (A1 : Int)) (.int .i64 (B1 : Int))) (E4.out.s.set4 (.int .i64 (i1 : Int)) (.int .u64 (t : Int)) (.int .i64 (A1 : Int)) (.int .i64 (B1 : Int))))
        obtain ⟨x0, x1, x2, x3, -, -, -, -, -, -, -⟩ := (Bx.new w4 36 #[.int .i64 (i1 : Int), .int .u64 (t : Int), .int .i64 (A1 : Int), .int .i64 (B1 : Int)]).st4
        obtain ⟨r0, r1, r2, r3, r4, r5, r6, r7, r8, r9, r10⟩ := E4.out.s.st4
        have j2 : (i : Int) + 1 = (i1 : Int) := by omega
        have j3 : i1 ≤ m := by omega
        have j5 : ts.length + 1 ≤ 1000000 := by omega
        replace hi1 := hide hi1
        replace hts := hide hts
        clear GE b4 R4 E s0 s1 s2 s3 E4
        go_upto_region 13 with fail
        clear x0 x1 x2 x3 r0 r1 r2 r3 r4 r5 r6 r7 r8 r9 r10
        generalize (((((w4.alloc (.cells #[.int .i64 (i1 : Int), .int .u64 (t : Int), .int .i64 (A1 : Int), .int .i64 (B1 : Int)] 36)).setCell ⟨g, 0, none⟩ (.int .i64 (i1 : Int))).setCell ⟨g, 1, none⟩ (.int .u64 (t : Int))).setCell ⟨g, 2, none⟩ (.int .i64 (A1 : Int))).setCell ⟨g, 3, none⟩ (.int .i64 (B1 : Int))) = w5 at *
        have E6 := hide (E5.out.below ((Below.refl _ _).alloc (Nat.le_refl _) (.cells #[.int .u64 (t : Int)] 22)))
        have MO := hide (fun (w' : World) (g2 cap2 : Nat) => E6.out.more (w' := w') (g2 := g2) (cap2 := cap2) (t := (t : Int)))
        have hown := hide E6.out.own
        have hbs := hide E6.out.bel.size
        have hcA := hide ((Boxed.new w5 22 (.int .u64 (t : Int))).cell)
        clear E5 E6
        go_wp2_with (refine wpList_lies3b rfl (.tmp 40) (.tmp 42) rfl w.heap.size u8 ts.length ts rfl hown.out _ (t : Int) rfl hcA.out j5 hbs.out ?_; intro g2 cap2 w2 o2 G2 hat)
        have E7 := hide (MO.out _ _ _ o2 G2 hat)
        clear MO o2 G2 hat hown hcA hbs
        go_wp2_with fail
        go_roundw
        case rel => exact ⟨i1, t, A1, B1, P + k, ts ++ [(t : Int)], j3, by go_num, hA', E7⟩
        case measure => simp [intOf]; omega
      | none =>
        have hA' := hide (rdA_stuck (rdA_err hA.out hgx) (show i + 1 ≤ m by omega))
        have GE := hide (rgX_no E.out.rf E.out.H hap.out hlen (by rw [hll.out] at hP8; exact hP8) hok (L := L) (by rw [← hll.out]; exact hgx))
        have FB := hide (fun (w' : World) => E.out.rf.bel (w' := w'))
        have EB := hide E.out.bel
        replace hok := hide hok
        replace hP8 := hide hP8
        replace hL := hide hL
        replace hgx := hide hgx
        replace hts := hide hts
        go_wp2_with fail
        refine GE.out.mono ?_
        rintro e w4 ⟨rfl, b4⟩
        have E4 := EB.out.trans (FB.out _ b4)
        have E5 := hide (E4.alloc E4.size (.cells #[.int .i64 0, .int .u64 0, .int .i64 0, .int .i64 0] 36))
        clear GE b4 E s0 s1 s2 s3 E4 EB FB
        go_wp2_with fail
        go_ret2
        exact ⟨.inr ⟨hA'.out, rfl⟩, E5.out⟩
    · obtain rfl : i = m := by omega
      have j1 : ¬ (i : Int) < (i : Int) := by omega
      obtain ⟨-, -, -, -, hrng⟩ := rdA_fine hA.out (by omega)
      obtain ⟨a', cap', e, hh⟩ := hasU_of_owns E.out.own hrng
      rw [hts] at e hh
      replace hh := hide hh
      subst e
      clear hrng
      go_wp2_with fail
      go_ret2
      exact ⟨.inl ⟨L, A, B, P, ts, _, _, hA.out, rfl, hh.out⟩, E.out.bel⟩
end Go.Proofs.YtmddkinecplooaaDoor
