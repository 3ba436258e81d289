/-
  The walk of XorGets.
-/
import Derived.Test.YtmddkinecplooaaDoorXS
import Derived.Test.YtmddkinecplooaaDoorXJ
import Derived.Deep.Cut
namespace Go.Proofs.YtmddkinecplooaaDoor
open Go.RowKit
set_option linter.unusedVariables false
set_option linter.unusedSimpArgs false

/-- The reference's reader alone; where its place is not known any more: no reader at all. -/
structure QN (w0 w : World) (base r : Nat) (ad : Option Addr) (len cap : Nat) (l : List Int) (m : Nat) : Prop where
  rf : Ref w base r ad len cap m
  H : Has w ad len cap l
  t : Tab w
  bel : Below base w0 w
  b0 : 0 < base
  bs : base ≤ w.heap.size
  hap : 0 < len → ∀ b off, ad = some ⟨b, off, none⟩ → b < base
structure QO (w0 w : World) (base : Nat) : Prop where
  t : Tab w
  bel : Below base w0 w
  bs : base ≤ w.heap.size
section
variable {w0 w w' : World} {base q n r len cap m : Nat} {v : Value} {ad : Option Addr} {l : List Int}
theorem QB.no (h : QB w0 w base q v n r ad len cap l m) (d : Did w w' base q nul nul) : QN w0 w' base r ad len cap l m :=
  ⟨h.rf.kept d.but (nf_nul h.nf), h.H.low d.bel h.hap, h.t.did d h.b0, h.bel.trans d.bel, h.b0, by have := h.rd.lt; have := d.bel.size; omega, h.hap⟩
theorem QN.below (h : QN w0 w base r ad len cap l m) (hb : Below w.heap.size w w') : QN w0 w' base r ad len cap l m :=
  ⟨h.rf.below hb (Nat.le_refl _), h.H.kept hb (Nat.le_refl _), h.t.below hb, h.bel.trans (hb.mono h.bs), h.b0, Nat.le_trans h.bs hb.size, h.hap⟩
theorem QN.alloc (h : QN w0 w base r ad len cap l m) (o : Obj) : QN w0 (w.alloc o) base r ad len cap l m := h.below ((Below.refl _ _).alloc (Nat.le_refl _) _)
theorem QN.getn (h : QN w0 w base r ad len cap l m) (hb : But (fun k => k = r) w w') : QO w0 w' base :=
  ⟨h.t.kept (h.rf.bel hb) h.b0, h.bel.trans (h.rf.bel hb), by have := h.bs; have := hb.size; omega⟩
theorem QO.below (h : QO w0 w base) (hb : Below w.heap.size w w') : QO w0 w' base := ⟨h.t.below hb, h.bel.trans (hb.mono h.bs), Nat.le_trans h.bs hb.size⟩
theorem QO.alloc (h : QO w0 w base) (o : Obj) : QO w0 (w.alloc o) base := h.below ((Below.refl _ _).alloc (Nat.le_refl _) _)
theorem QO.drew (h : QO w0 w base) : QO w0 w.drew base := ⟨h.t, below_drew h.bel, h.bs⟩
end

set_option maxRecDepth 100000 in
set_option maxHeartbeats 4000000 in
theorem gets_walk0 (a0 : Option Addr) (len0 cap0 nb : Nat) (lb : List Int) (n l a b k0 : Int) (w : World) (ht : Tab w) (HB : Has w a0 nb cap0 lb) (hnb : nb ≤ 100) (hle0 : len0 ≤ cap0) (hcb0 : cap0 ≤ maxLen) (ek : (if (100 : Int) < (len0 : Int) then 100 else (len0 : Int)) = (nb : Int)) (wl : (Lit.int .u64 l).wf = true) (wa : (Lit.int .i64 a).wf = true) (wb : (Lit.int .i64 b).wf = true) (wk : (Lit.int .i64 k0).wf = true) :
    Calls Tryd.prog 4 #[.slice a0 len0 cap0, .agg #[.int .i64 n, .int .u64 l, .int .i64 a, .int .i64 b], .int .i64 k0] w fun e w' => e = .returned (.bool true) ∧ Below w.heap.size w w' := by
  have hle1 : (nb : Int) ≤ (cap0 : Int) := by have := HB.le; omega
  have hnb2 : (nb : Int) ≤ 100 := by omega
  unfold maxLen at hcb0
  obtain ⟨k, gk, G⟩ := among_ex k0 20 20 (by omega) wk (by omega) (by omega)
  replace G := hide G
  have hpos := hide ht.pos
  obtain ⟨L, hLe⟩ : ∃ L : Nat, l = (L : Int) := ⟨l.toNat, by have := wf_u64 wl; omega⟩
  have hL := hide (show L < 18446744073709551616 by have := wf_u64 wl; omega)
  have ha9 := hide (wf_i64 wa).2
  have hb9 := hide (wf_i64 wb).2
  subst hLe
  have hlb : Hid (lb.length = nb) := HB.hlen
  have hap : Hid (0 < nb → ∀ b off, a0 = some ⟨b, off, none⟩ → b < w.heap.size) := fun h0 b off e => by
    obtain ⟨b', off', e', h1, _⟩ := HB.cells h0
    rw [e] at e'
    cases e'
    exact h1
  have B0 : Hid (Below w.heap.size w (w.alloc (.cells #[.int .i64 n, .int .u64 (L : Int), .int .i64 a, .int .i64 b] 24))) := (Below.refl _ w).alloc (Nat.le_refl _) _
  have S0 := hide (Bx.new w 24 #[.int .i64 n, .int .u64 (L : Int), .int .i64 a, .int .i64 b])
  have HB0 := hide (HB.kept B0.out (Nat.le_refl _))
  have N := hide (newRd _ w.heap.size B0.out.size a0 nb cap0 lb HB0.out (by omega))
  replace ht := hide ht
  have hz52 : (Tryd.prog.info? 52).map (·.zero) = some (some (.agg #[.slice none 0 0, .int .i64 0])) := by kernel_rfl
  clear HB wk wl wa wb
  go_enter Tryd.func4, Tryd.ntmps4
  go_wp2_with fail
  refine N.out.mono ?_
  rintro e w1 ⟨q, v, rfl, b1, R1, hn1⟩
  have b1' := hide (B0.out.trans (b1.mono B0.out.size))
  have S1 := hide ((S0.out.below b1).alloc (.cells #[.slice a0 nb cap0, .int .i64 0] 52))
  have E1 := hide (QB.start R1 (HB0.out.kept b1 (Nat.le_refl _)) (ht.out.kept b1'.out hpos.out) b1'.out hpos.out hap.out)
  have f1 : Hid (¬ fp q v w.heap.size) := fun h => by have := hn1 _ h; have := S0.out.lt; omega
  have f2 : Hid (w.heap.size ≠ w1.heap.size) := by have := S0.out.lt; have := b1.size; show _ ≠ _; omega
  clear N R1 hn1 b1 S0 B0 HB0 b1'
  have P1 := hide (getR_any E1.out.rd k (by omega))
  rw [hlb.out] at P1
  have P2 := hide (fun (wx : World) (h : Ref wx w.heap.size w1.heap.size a0 nb cap0 0) (H : Has wx a0 nb cap0 lb) => getRf_any h H hap.out (by omega) k (by omega))
  obtain ⟨P, hP⟩ : ∃ P, (if k ≤ 8 * nb then k else 0) = P := ⟨_, rfl⟩
  rw [hP] at P1
  simp only [hP] at P2
  have hP8 : P ≤ 8 * nb := by rw [← hP]; split <;> omega
  replace hP := hide hP
  replace P2 := hide P2
  go_wp2_with fail
  refine (G.out _).mono ?_
  rintro e wq ⟨rfl, rfl⟩
  go_wp2_with fail
  refine P1.out.mono ?_
  rintro e w2 ⟨x1, y1, rfl, R2, b2⟩
  have E2 := hide (E1.out.getq b2 R2)
  have S2 := hide (S1.out.did b2 (nf_nul f1.out))
  clear P1 R2 b2 S1 E1 G
  go_wp2_with fail
  refine (P2.out _ E2.out.rf E2.out.H).mono ?_
  rintro e w3 ⟨x2, y2, rfl, R3, b3⟩
  have E3 := hide (E2.out.getr b3 R3)
  have S3 := hide (S2.out.but b3 f2.out)
  clear P2 R3 b3 S2 E2
  generalize w1.heap.size = r at *
  replace hP8 := hide hP8
  cases hok : okSI n a b
  · have P4 := hide (getX_bad (L := (L : Int)) E3.out.rd E3.out.t hpos.out hok ha9.out hb9.out)
    have RP := hide (fun wx (h : Ref wx w.heap.size r a0 nb cap0 P) (H : Has wx a0 nb cap0 lb) => rg_bad (L := (L : Int)) h H hap.out (by omega) hP8.out hok)
    have heqA : ∀ w, (binOp .eql 36 (.agg #[.int .i64 0, .int .u64 0, .int .i64 0, .int .i64 0]) (.agg #[.int .i64 0, .int .u64 0, .int .i64 0, .int .i64 0])).run Tryd.prog w = .ok (.bool true) w := fun w => by rw [run_eql36]; simp
    have s0 := S3.out.st4.c0
    have s1 := S3.out.st4.c1
    have s2 := S3.out.st4.c2
    have s3 := S3.out.st4.c3
    go_wp2_with fail
    refine P4.out.mono ?_
    rintro e w4 ⟨rfl, D4⟩
    have E4' := E3.out.no D4
    have S4' := S3.out.did D4 (nf_nul f1.out)
    have X4 := hide (Bx.new w4 24 #[.int .i64 0, .int .u64 0, .int .i64 0, .int .i64 0])
    have nX : Hid (w4.heap.size ≠ r) := by have := E4'.rf.lt; show _ ≠ _; omega
    have E4 := hide (E4'.alloc (.cells #[.int .i64 0, .int .u64 0, .int .i64 0, .int .i64 0] 24))
    have S4 := hide (S4'.alloc (.cells #[.int .i64 0, .int .u64 0, .int .i64 0, .int .i64 0] 24))
    clear P4 E3 S3 f1 D4 E4' S4' s0 s1 s2 s3
    have s0 := S4.out.st4.c0
    have s1 := S4.out.st4.c1
    have s2 := S4.out.st4.c2
    have s3 := S4.out.st4.c3
    go_wp2_with fail
    refine (plain_any _ _ _ _ _).mono ?_
    rintro e w5 ⟨rfl, b5⟩
    have E5 := hide (E4.out.below b5)
    have X5 := hide (X4.out.below b5)
    clear E4 X4 S4 b5 s0 s1 s2 s3
    go_wp2_with fail
    refine (RP.out _ E5.out.rf E5.out.H).mono ?_
    rintro e w6 ⟨rfl, D6⟩
    have E6' := E5.out.getn D6
    have X6' := X5.out.but D6 nX.out
    have Y6 := hide (Bx.new w6 36 #[.int .i64 0, .int .u64 0, .int .i64 0, .int .i64 0])
    have E6 := hide (E6'.alloc (.cells #[.int .i64 0, .int .u64 0, .int .i64 0, .int .i64 0] 36))
    have X6 := hide (X6'.alloc (.cells #[.int .i64 0, .int .u64 0, .int .i64 0, .int .i64 0] 36))
    clear E5 X5 nX E6' X6' D6 RP
    go_upto_region 8 with fail
    obtain ⟨gX, hgX⟩ : ∃ g, g = w4.heap.size := ⟨_, rfl⟩
    obtain ⟨gY, hgY⟩ : ∃ g, g = w6.heap.size := ⟨_, rfl⟩
    obtain ⟨w7, hw7⟩ : ∃ w7, w7 = w6.alloc (.cells #[.int .i64 0, .int .u64 0, .int .i64 0, .int .i64 0] 36) := ⟨_, rfl⟩
    simp only [← hgX, ← hgY, ← hw7] at E6 X6 Y6 ⊢
    clear hgX hgY hw7
    refine wp_region_noPanic ?_
    refine wp_region_held_drew (S := (fun w' => St4 w' gX (.int .i64 0) (.int .u64 0) (.int .i64 0) (.int .i64 0) ∧ St4 w' gY (.int .i64 0) (.int .u64 0) (.int .i64 0) (.int .i64 0))) (by kernel_rfl) ⟨X6.out.drew.st4, Y6.out.drew.st4⟩ (fun hH0 => ?_)
    have E7 := hide E6.out.drew
    have X7 := hide X6.out.drew
    have Y7 := hide Y6.out.drew
    clear E6 X6 Y6
    refine wpAnyH_take (i := 0) (oi := { dst := some 48, op := Op.load 24 (Operand.tmp 9), type := 24, pos := "law.go:61", after := #[], guard := none }) (v := ?_) rfl (by kernel_rfl) (by kernel_rfl) (by kernel_rfl) (fun _ _ _ h => h) (Or.inl ⟨by rfl, ?_⟩) hH0 ?_
    rotate_left
    · intro w' hw'
      obtain ⟨⟨x0, x1, x2, x3, -, -, -, -, -, -, -⟩, ⟨y0, y1, y2, y3, -, -, -, -, -, -, -⟩⟩ := hw'
      go_simp
      try with_reducible rfl
    try simp only [Act.put, List.setIfInBounds_toArray, List.set_cons_zero, List.set_cons_succ]
    refine wpAnyH_take (i := 2) (oi := { dst := some 50, op := Op.load 36 (Operand.tmp 12), type := 36, pos := "law.go:61", after := #[], guard := none }) (v := ?_) rfl (by kernel_rfl) (by kernel_rfl) (by kernel_rfl) (fun _ _ _ h => h) (Or.inl ⟨by rfl, ?_⟩) hH0 ?_
    rotate_left
    · intro w' hw'
      obtain ⟨⟨x0, x1, x2, x3, -, -, -, -, -, -, -⟩, ⟨y0, y1, y2, y3, -, -, -, -, -, -, -⟩⟩ := hw'
      go_simp
      try with_reducible rfl
    try simp only [Act.put, List.setIfInBounds_toArray, List.set_cons_zero, List.set_cons_succ]
    refine wpAnyH_ready (rs := [1]) (by kernel_rfl) (by simp) ?_
    refine AllReadyH.cons (o := { dst := some 49, op := Op.call { callee := Callee.value (Operand.func 14), args := #[Operand.tmp 48], argTypes := #[24] }, type := 36, pos := "law.go:61", after := #[{ on := 0, ground := Ground.data }], guard := none }) rfl (fun K hK => ?_) AllReadyH.nil
    go_simp
    refine (plain_any _ _ _ _ _).mono ?_
    rintro e w8 ⟨rfl, b8⟩
    have E8 := hide (E7.out.below b8)
    have X8 := hide (X7.out.below b8)
    have Y8 := hide (Y7.out.below b8)
    clear E7 X7 Y7
    refine hK.out _ _ ⟨X8.out.st4, Y8.out.st4⟩ (fun hH1 => ?_)
    clear hK
    try simp only [Act.put, List.setIfInBounds_toArray, List.set_cons_zero, List.set_cons_succ]
    refine wpAnyH_take (i := 3) (oi := { dst := some 51, op := Op.binOp BinOp.eql 36 (Operand.tmp 49) (Operand.tmp 50) 36, type := 4, pos := "law.go:61", after := #[{ on := 1, ground := Ground.data }, { on := 2, ground := Ground.data }], guard := none }) (v := ?_) rfl (by kernel_rfl) (by kernel_rfl) (by kernel_rfl) (fun _ _ _ h => h) (Or.inl ⟨by rfl, ?_⟩) hH1 ?_
    rotate_left
    · intro w' hw'
      obtain ⟨⟨x0, x1, x2, x3, -, -, -, -, -, -, -⟩, ⟨y0, y1, y2, y3, -, -, -, -, -, -, -⟩⟩ := hw'
      go_simp
      try with_reducible rfl
    try simp only [Act.put, List.setIfInBounds_toArray, List.set_cons_zero, List.set_cons_succ]
    refine wpAnyH_take (i := 4) (oi := { dst := some 52, op := Op.move (Operand.tmp 51), type := 4, pos := "law.go:61", after := #[{ on := 3, ground := Ground.data }, { on := 1, ground := Ground.chain }], guard := none }) (v := ?_) rfl (by kernel_rfl) (by kernel_rfl) (by kernel_rfl) (fun _ _ _ h => h) (Or.inl ⟨by rfl, ?_⟩) hH1 ?_
    rotate_left
    · intro w' hw'
      obtain ⟨⟨x0, x1, x2, x3, -, -, -, -, -, -, -⟩, ⟨y0, y1, y2, y3, -, -, -, -, -, -, -⟩⟩ := hw'
      go_simp
      try with_reducible rfl
    try simp only [Act.put, List.setIfInBounds_toArray, List.set_cons_zero, List.set_cons_succ]
    refine wpAnyH_take (i := 5) (oi := { dst := some 53, op := Op.move (Operand.tmp 10), type := 22, pos := "law.go:61", after := #[{ on := 4, ground := Ground.guard }], guard := some (4, true) }) (v := ?_) rfl (by kernel_rfl) (by kernel_rfl) (by kernel_rfl) (fun _ _ _ h => h) (Or.inl ⟨by rfl, ?_⟩) hH1 ?_
    rotate_left
    · intro w' hw'
      obtain ⟨⟨x0, x1, x2, x3, -, -, -, -, -, -, -⟩, ⟨y0, y1, y2, y3, -, -, -, -, -, -, -⟩⟩ := hw'
      go_simp
      try with_reducible rfl
    try simp only [Act.put, List.setIfInBounds_toArray, List.set_cons_zero, List.set_cons_succ]
    refine wpAnyH_take (i := 6) (oi := { dst := some 54, op := Op.move (Operand.tmp 13), type := 22, pos := "law.go:61", after := #[{ on := 4, ground := Ground.guard }], guard := some (4, true) }) (v := ?_) rfl (by kernel_rfl) (by kernel_rfl) (by kernel_rfl) (fun _ _ _ h => h) (Or.inl ⟨by rfl, ?_⟩) hH1 ?_
    rotate_left
    · intro w' hw'
      obtain ⟨⟨x0, x1, x2, x3, -, -, -, -, -, -, -⟩, ⟨y0, y1, y2, y3, -, -, -, -, -, -, -⟩⟩ := hw'
      go_simp
      try with_reducible rfl
    try simp only [Act.put, List.setIfInBounds_toArray, List.set_cons_zero, List.set_cons_succ]
    refine wpAnyH_take (i := 7) (oi := { dst := some 55, op := Op.binOp BinOp.eql 22 (Operand.tmp 53) (Operand.tmp 54) 22, type := 4, pos := "law.go:61", after := #[{ on := 5, ground := Ground.data }, { on := 6, ground := Ground.data }, { on := 4, ground := Ground.guard }], guard := some (4, true) }) (v := ?_) rfl (by kernel_rfl) (by kernel_rfl) (by kernel_rfl) (fun _ _ _ h => h) (Or.inl ⟨by rfl, ?_⟩) hH1 ?_
    rotate_left
    · intro w' hw'
      obtain ⟨⟨x0, x1, x2, x3, -, -, -, -, -, -, -⟩, ⟨y0, y1, y2, y3, -, -, -, -, -, -, -⟩⟩ := hw'
      go_simp
      try with_reducible rfl
    try simp only [Act.put, List.setIfInBounds_toArray, List.set_cons_zero, List.set_cons_succ]
    refine wpAnyH_take (i := 8) (oi := { dst := some 56, op := Op.pick (Operand.tmp 52) (Operand.tmp 55) (Operand.const (Value.bool false)), type := 4, pos := "law.go:61", after := #[{ on := 4, ground := Ground.data }, { on := 7, ground := Ground.data }], guard := none }) (v := ?_) rfl (by kernel_rfl) (by kernel_rfl) (by kernel_rfl) (fun _ _ _ h => h) (Or.inl ⟨by rfl, ?_⟩) hH1 ?_
    rotate_left
    · intro w' hw'
      obtain ⟨⟨x0, x1, x2, x3, -, -, -, -, -, -, -⟩, ⟨y0, y1, y2, y3, -, -, -, -, -, -, -⟩⟩ := hw'
      go_simp
      try with_reducible rfl
    try simp only [Act.put, List.setIfInBounds_toArray, List.set_cons_zero, List.set_cons_succ]
    refine wpAnyH_take (i := 9) (oi := { dst := some 57, op := Op.move (Operand.tmp 56), type := 4, pos := "law.go:61", after := #[{ on := 8, ground := Ground.data }, { on := 4, ground := Ground.chain }], guard := none }) (v := ?_) rfl (by kernel_rfl) (by kernel_rfl) (by kernel_rfl) (fun _ _ _ h => h) (Or.inl ⟨by rfl, ?_⟩) hH1 ?_
    rotate_left
    · intro w' hw'
      obtain ⟨⟨x0, x1, x2, x3, -, -, -, -, -, -, -⟩, ⟨y0, y1, y2, y3, -, -, -, -, -, -, -⟩⟩ := hw'
      go_simp
      try with_reducible rfl
    try simp only [Act.put, List.setIfInBounds_toArray, List.set_cons_zero, List.set_cons_succ]
    refine wpAnyH_take (i := 10) (oi := { dst := some 58, op := Op.move (Operand.tmp 11), type := 32, pos := "law.go:61", after := #[{ on := 9, ground := Ground.guard }], guard := some (9, true) }) (v := ?_) rfl (by kernel_rfl) (by kernel_rfl) (by kernel_rfl) (fun _ _ _ h => h) (Or.inl ⟨by rfl, ?_⟩) hH1 ?_
    rotate_left
    · intro w' hw'
      obtain ⟨⟨x0, x1, x2, x3, -, -, -, -, -, -, -⟩, ⟨y0, y1, y2, y3, -, -, -, -, -, -, -⟩⟩ := hw'
      go_simp
      try with_reducible rfl
    try simp only [Act.put, List.setIfInBounds_toArray, List.set_cons_zero, List.set_cons_succ]
    refine wpAnyH_take (i := 11) (oi := { dst := some 59, op := Op.move (Operand.tmp 14), type := 32, pos := "law.go:61", after := #[{ on := 9, ground := Ground.guard }], guard := some (9, true) }) (v := ?_) rfl (by kernel_rfl) (by kernel_rfl) (by kernel_rfl) (fun _ _ _ h => h) (Or.inl ⟨by rfl, ?_⟩) hH1 ?_
    rotate_left
    · intro w' hw'
      obtain ⟨⟨x0, x1, x2, x3, -, -, -, -, -, -, -⟩, ⟨y0, y1, y2, y3, -, -, -, -, -, -, -⟩⟩ := hw'
      go_simp
      try with_reducible rfl
    try simp only [Act.put, List.setIfInBounds_toArray, List.set_cons_zero, List.set_cons_succ]
    refine wpAnyH_take (i := 12) (oi := { dst := some 60, op := Op.binOp BinOp.eql 32 (Operand.tmp 58) (Operand.tmp 59) 32, type := 4, pos := "law.go:61", after := #[{ on := 10, ground := Ground.data }, { on := 11, ground := Ground.data }, { on := 9, ground := Ground.guard }], guard := some (9, true) }) (v := ?_) rfl (by kernel_rfl) (by kernel_rfl) (by kernel_rfl) (fun _ _ _ h => h) (Or.inl ⟨by rfl, ?_⟩) hH1 ?_
    rotate_left
    · intro w' hw'
      obtain ⟨⟨x0, x1, x2, x3, -, -, -, -, -, -, -⟩, ⟨y0, y1, y2, y3, -, -, -, -, -, -, -⟩⟩ := hw'
      go_simp
      try with_reducible rfl
    try simp only [Act.put, List.setIfInBounds_toArray, List.set_cons_zero, List.set_cons_succ]
    refine wpAnyH_take (i := 13) (oi := { dst := some 61, op := Op.pick (Operand.tmp 57) (Operand.tmp 60) (Operand.const (Value.bool false)), type := 4, pos := "law.go:61", after := #[{ on := 9, ground := Ground.data }, { on := 12, ground := Ground.data }], guard := none }) (v := ?_) rfl (by kernel_rfl) (by kernel_rfl) (by kernel_rfl) (fun _ _ _ h => h) (Or.inl ⟨by rfl, ?_⟩) hH1 ?_
    rotate_left
    · intro w' hw'
      obtain ⟨⟨x0, x1, x2, x3, -, -, -, -, -, -, -⟩, ⟨y0, y1, y2, y3, -, -, -, -, -, -, -⟩⟩ := hw'
      go_simp
      try with_reducible rfl
    try simp only [Act.put, List.setIfInBounds_toArray, List.set_cons_zero, List.set_cons_succ]
    refine wpAnyH_take (i := 14) (oi := { dst := some 62, op := Op.move (Operand.tmp 61), type := 4, pos := "law.go:61", after := #[{ on := 13, ground := Ground.data }, { on := 9, ground := Ground.chain }], guard := none }) (v := ?_) rfl (by kernel_rfl) (by kernel_rfl) (by kernel_rfl) (fun _ _ _ h => h) (Or.inl ⟨by rfl, ?_⟩) hH1 ?_
    rotate_left
    · intro w' hw'
      obtain ⟨⟨x0, x1, x2, x3, -, -, -, -, -, -, -⟩, ⟨y0, y1, y2, y3, -, -, -, -, -, -, -⟩⟩ := hw'
      go_simp
      try with_reducible rfl
    try simp only [Act.put, List.setIfInBounds_toArray, List.set_cons_zero, List.set_cons_succ]
    refine wpAnyH_take (i := 15) (oi := { dst := some 63, op := Op.move (Operand.tmp 11), type := 32, pos := "law.go:61", after := #[{ on := 14, ground := Ground.guard }], guard := some (14, true) }) (v := ?_) rfl (by kernel_rfl) (by kernel_rfl) (by kernel_rfl) (fun _ _ _ h => h) (Or.inl ⟨by rfl, ?_⟩) hH1 ?_
    rotate_left
    · intro w' hw'
      obtain ⟨⟨x0, x1, x2, x3, -, -, -, -, -, -, -⟩, ⟨y0, y1, y2, y3, -, -, -, -, -, -, -⟩⟩ := hw'
      go_simp
      try with_reducible rfl
    try simp only [Act.put, List.setIfInBounds_toArray, List.set_cons_zero, List.set_cons_succ]
    refine wpAnyH_take (i := 16) (oi := { dst := some 64, op := Op.binOp BinOp.neq 32 (Operand.tmp 63) (Operand.const (Value.int IntKind.i64 0)) 32, type := 4, pos := "law.go:61", after := #[{ on := 15, ground := Ground.data }, { on := 14, ground := Ground.guard }], guard := some (14, true) }) (v := ?_) rfl (by kernel_rfl) (by kernel_rfl) (by kernel_rfl) (fun _ _ _ h => h) (Or.inl ⟨by rfl, ?_⟩) hH1 ?_
    rotate_left
    · intro w' hw'
      obtain ⟨⟨x0, x1, x2, x3, -, -, -, -, -, -, -⟩, ⟨y0, y1, y2, y3, -, -, -, -, -, -, -⟩⟩ := hw'
      go_simp
      try with_reducible rfl
    try simp only [Act.put, List.setIfInBounds_toArray, List.set_cons_zero, List.set_cons_succ]
    refine wpAnyH_take (i := 17) (oi := { dst := some 65, op := Op.move (Operand.tmp 64), type := 4, pos := "law.go:61", after := #[{ on := 16, ground := Ground.data }, { on := 14, ground := Ground.chain }, { on := 14, ground := Ground.guard }], guard := some (14, true) }) (v := ?_) rfl (by kernel_rfl) (by kernel_rfl) (by kernel_rfl) (fun _ _ _ h => h) (Or.inl ⟨by rfl, ?_⟩) hH1 ?_
    rotate_left
    · intro w' hw'
      obtain ⟨⟨x0, x1, x2, x3, -, -, -, -, -, -, -⟩, ⟨y0, y1, y2, y3, -, -, -, -, -, -, -⟩⟩ := hw'
      go_simp
      try with_reducible rfl
    try simp only [Act.put, List.setIfInBounds_toArray, List.set_cons_zero, List.set_cons_succ]
    refine wpAnyH_take (i := 18) (oi := { dst := some 66, op := Op.move (Operand.tmp 7), type := 48, pos := "law.go:61", after := #[{ on := 17, ground := Ground.guard }], guard := some (17, false) }) (v := undef) rfl (by kernel_rfl) (by kernel_rfl) (by kernel_rfl) (fun _ _ _ h => h) (Or.inr ⟨by rfl, rfl⟩) hH1 ?_
    try simp only [Act.put, List.setIfInBounds_toArray, List.set_cons_zero, List.set_cons_succ]
    refine wpAnyH_take (i := 19) (oi := { dst := some 67, op := Op.call { callee := Callee.value (Operand.func 27), args := #[Operand.tmp 66], argTypes := #[48] }, type := 3, pos := "law.go:61", after := #[{ on := 18, ground := Ground.data }, { on := 17, ground := Ground.chain }, { on := 17, ground := Ground.guard }], guard := some (17, false) }) (v := undef) rfl (by kernel_rfl) (by kernel_rfl) (by kernel_rfl) (fun _ _ _ h => h) (Or.inr ⟨by rfl, rfl⟩) hH1 ?_
    try simp only [Act.put, List.setIfInBounds_toArray, List.set_cons_zero, List.set_cons_succ]
    refine wpAnyH_take (i := 20) (oi := { dst := some 68, op := Op.move (Operand.tmp 8), type := 50, pos := "law.go:61", after := #[{ on := 17, ground := Ground.guard }], guard := some (17, false) }) (v := undef) rfl (by kernel_rfl) (by kernel_rfl) (by kernel_rfl) (fun _ _ _ h => h) (Or.inr ⟨by rfl, rfl⟩) hH1 ?_
    try simp only [Act.put, List.setIfInBounds_toArray, List.set_cons_zero, List.set_cons_succ]
    refine wpAnyH_take (i := 21) (oi := { dst := some 69, op := Op.nilCheck (Operand.tmp 68), type := 0, pos := "law.go:61", after := #[{ on := 20, ground := Ground.data }, { on := 17, ground := Ground.guard }], guard := some (17, false) }) (v := undef) rfl (by kernel_rfl) (by kernel_rfl) (by kernel_rfl) (fun _ _ _ h => h) (Or.inr ⟨by rfl, rfl⟩) hH1 ?_
    try simp only [Act.put, List.setIfInBounds_toArray, List.set_cons_zero, List.set_cons_succ]
    refine wpAnyH_take (i := 22) (oi := { dst := some 70, op := Op.fieldAddr 52 (Operand.tmp 69) 1, type := 0, pos := "law.go:61", after := #[{ on := 21, ground := Ground.data }, { on := 17, ground := Ground.guard }], guard := some (17, false) }) (v := undef) rfl (by kernel_rfl) (by kernel_rfl) (by kernel_rfl) (fun _ _ _ h => h) (Or.inr ⟨by rfl, rfl⟩) hH1 ?_
    try simp only [Act.put, List.setIfInBounds_toArray, List.set_cons_zero, List.set_cons_succ]
    refine wpAnyH_take (i := 23) (oi := { dst := some 71, op := Op.load 3 (Operand.tmp 70), type := 3, pos := "law.go:61", after := #[{ on := 22, ground := Ground.data }, { on := 17, ground := Ground.guard }], guard := some (17, false) }) (v := undef) rfl (by kernel_rfl) (by kernel_rfl) (by kernel_rfl) (fun _ _ _ h => h) (Or.inr ⟨by rfl, rfl⟩) hH1 ?_
    try simp only [Act.put, List.setIfInBounds_toArray, List.set_cons_zero, List.set_cons_succ]
    refine wpAnyH_take (i := 24) (oi := { dst := some 72, op := Op.binOp BinOp.eql 3 (Operand.tmp 67) (Operand.tmp 71) 3, type := 4, pos := "law.go:61", after := #[{ on := 19, ground := Ground.data }, { on := 23, ground := Ground.data }, { on := 17, ground := Ground.guard }], guard := some (17, false) }) (v := undef) rfl (by kernel_rfl) (by kernel_rfl) (by kernel_rfl) (fun _ _ _ h => h) (Or.inr ⟨by rfl, rfl⟩) hH1 ?_
    try simp only [Act.put, List.setIfInBounds_toArray, List.set_cons_zero, List.set_cons_succ]
    refine wpAnyH_take (i := 25) (oi := { dst := some 73, op := Op.pick (Operand.tmp 65) (Operand.const (Value.bool true)) (Operand.tmp 72), type := 4, pos := "law.go:61", after := #[{ on := 17, ground := Ground.data }, { on := 24, ground := Ground.data }, { on := 14, ground := Ground.guard }], guard := some (14, true) }) (v := ?_) rfl (by kernel_rfl) (by kernel_rfl) (by kernel_rfl) (fun _ _ _ h => h) (Or.inl ⟨by rfl, ?_⟩) hH1 ?_
    rotate_left
    · intro w' hw'
      obtain ⟨⟨x0, x1, x2, x3, -, -, -, -, -, -, -⟩, ⟨y0, y1, y2, y3, -, -, -, -, -, -, -⟩⟩ := hw'
      go_simp
      try with_reducible rfl
    try simp only [Act.put, List.setIfInBounds_toArray, List.set_cons_zero, List.set_cons_succ]
    refine wpAnyH_take (i := 26) (oi := { dst := some 74, op := Op.pick (Operand.tmp 62) (Operand.tmp 73) (Operand.const (Value.bool false)), type := 4, pos := "law.go:61", after := #[{ on := 14, ground := Ground.data }, { on := 25, ground := Ground.data }], guard := none }) (v := ?_) rfl (by kernel_rfl) (by kernel_rfl) (by kernel_rfl) (fun _ _ _ h => h) (Or.inl ⟨by rfl, ?_⟩) hH1 ?_
    rotate_left
    · intro w' hw'
      obtain ⟨⟨x0, x1, x2, x3, -, -, -, -, -, -, -⟩, ⟨y0, y1, y2, y3, -, -, -, -, -, -, -⟩⟩ := hw'
      go_simp
      try with_reducible rfl
    try simp only [Act.put, List.setIfInBounds_toArray, List.set_cons_zero, List.set_cons_succ]
    refine wpAnyH_take (i := 27) (oi := { dst := some 75, op := Op.move (Operand.tmp 74), type := 4, pos := "law.go:61", after := #[{ on := 26, ground := Ground.data }, { on := 19, ground := Ground.chain }], guard := none }) (v := ?_) rfl (by kernel_rfl) (by kernel_rfl) (by kernel_rfl) (fun _ _ _ h => h) (Or.inl ⟨by rfl, ?_⟩) hH1 ?_
    rotate_left
    · intro w' hw'
      obtain ⟨⟨x0, x1, x2, x3, -, -, -, -, -, -, -⟩, ⟨y0, y1, y2, y3, -, -, -, -, -, -, -⟩⟩ := hw'
      go_simp
      try with_reducible rfl
    try simp only [Act.put, List.setIfInBounds_toArray, List.set_cons_zero, List.set_cons_succ]
    refine wpAnyH_ready (rs := [28]) (by kernel_rfl) (by simp) ?_
    refine AllReadyH.cons (o := { dst := some 76, op := Op.call { callee := Callee.value (Operand.func 21), args := #[], argTypes := #[] }, type := 4, pos := "law.go:61", after := #[{ on := 27, ground := Ground.chain }, { on := 27, ground := Ground.guard }], guard := some (27, true) }) rfl (fun K hK => ?_) AllReadyH.nil
    go_simp
    refine (works_any _ E8.out.t).mono ?_
    rintro e w9 ⟨rfl, b9⟩
    have E9 := hide (E8.out.below b9)
    have X9 := hide (X8.out.below b9)
    have Y9 := hide (Y8.out.below b9)
    clear E8 X8 Y8
    refine hK.out _ _ ⟨X9.out.st4, Y9.out.st4⟩ (fun hH2 => ?_)
    clear hK
    try simp only [Act.put, List.setIfInBounds_toArray, List.set_cons_zero, List.set_cons_succ]
    refine wpAnyH_take (i := 29) (oi := { dst := some 77, op := Op.pick (Operand.tmp 75) (Operand.tmp 76) (Operand.const (Value.bool false)), type := 4, pos := "law.go:61", after := #[{ on := 27, ground := Ground.data }, { on := 28, ground := Ground.data }], guard := none }) (v := ?_) rfl (by kernel_rfl) (by kernel_rfl) (by kernel_rfl) (fun _ _ _ h => h) (Or.inl ⟨by rfl, ?_⟩) hH2 ?_
    rotate_left
    · intro w' hw'
      obtain ⟨⟨x0, x1, x2, x3, -, -, -, -, -, -, -⟩, ⟨y0, y1, y2, y3, -, -, -, -, -, -, -⟩⟩ := hw'
      go_simp
      try with_reducible rfl
    try simp only [Act.put, List.setIfInBounds_toArray, List.set_cons_zero, List.set_cons_succ]
    refine wpAnyH_take (i := 30) (oi := { dst := some 6, op := Op.assign (Operand.tmp 77), type := 4, pos := "law.go:61", after := #[{ on := 29, ground := Ground.data }, { on := 28, ground := Ground.chain }, { on := 0, ground := Ground.phase }, { on := 1, ground := Ground.phase }, { on := 2, ground := Ground.phase }, { on := 3, ground := Ground.phase }, { on := 4, ground := Ground.phase }, { on := 5, ground := Ground.phase }, { on := 6, ground := Ground.phase }, { on := 7, ground := Ground.phase }, { on := 8, ground := Ground.phase }, { on := 9, ground := Ground.phase }, { on := 10, ground := Ground.phase }, { on := 11, ground := Ground.phase }, { on := 12, ground := Ground.phase }, { on := 13, ground := Ground.phase }, { on := 14, ground := Ground.phase }, { on := 15, ground := Ground.phase }, { on := 16, ground := Ground.phase }, { on := 17, ground := Ground.phase }, { on := 18, ground := Ground.phase }, { on := 19, ground := Ground.phase }, { on := 20, ground := Ground.phase }, { on := 21, ground := Ground.phase }, { on := 22, ground := Ground.phase }, { on := 23, ground := Ground.phase }, { on := 24, ground := Ground.phase }, { on := 25, ground := Ground.phase }, { on := 26, ground := Ground.phase }, { on := 27, ground := Ground.phase }, { on := 28, ground := Ground.phase }, { on := 29, ground := Ground.phase }], guard := none }) (v := ?_) rfl (by kernel_rfl) (by kernel_rfl) (by kernel_rfl) (fun _ _ _ h => h) (Or.inl ⟨by rfl, ?_⟩) hH2 ?_
    rotate_left
    · intro w' hw'
      obtain ⟨⟨x0, x1, x2, x3, -, -, -, -, -, -, -⟩, ⟨y0, y1, y2, y3, -, -, -, -, -, -, -⟩⟩ := hw'
      go_simp
      try with_reducible rfl
    try simp only [Act.put, List.setIfInBounds_toArray, List.set_cons_zero, List.set_cons_succ]
    refine wpAnyH_done (by kernel_rfl) ?_ _
    refine NoPanic.normal ?_
    go_wp2_with fail
    go_ret
    exact ⟨rfl, E9.out.bel⟩
  · obtain ⟨n0, a', b', rfl, rfl, rfl, hs⟩ := okS_of hok
    cases hg : gX n0 L a' b' (num lb) nb P with
    | none =>
      have P4 := hide (getX_no E3.out.rd E3.out.t hpos.out hs (by rw [hlb.out]; exact hg))
      have RP := hide (fun wx (h : Ref wx w.heap.size r a0 nb cap0 P) (H : Has wx a0 nb cap0 lb) => rgX_no h H hap.out (by omega) hP8.out hs hg)
      clear hok hs hg
      have heqA : ∀ w, (binOp .eql 36 (.agg #[.int .i64 0, .int .u64 0, .int .i64 0, .int .i64 0]) (.agg #[.int .i64 0, .int .u64 0, .int .i64 0, .int .i64 0])).run Tryd.prog w = .ok (.bool true) w := fun w => by rw [run_eql36]; simp
      have s0 := S3.out.st4.c0
      have s1 := S3.out.st4.c1
      have s2 := S3.out.st4.c2
      have s3 := S3.out.st4.c3
      go_wp2_with fail
      refine P4.out.mono ?_
      rintro e w4 ⟨rfl, D4⟩
      have E4' := E3.out.no D4
      have S4' := S3.out.did D4 (nf_nul f1.out)
      have X4 := hide (Bx.new w4 24 #[.int .i64 0, .int .u64 0, .int .i64 0, .int .i64 0])
      have nX : Hid (w4.heap.size ≠ r) := by have := E4'.rf.lt; show _ ≠ _; omega
      have E4 := hide (E4'.alloc (.cells #[.int .i64 0, .int .u64 0, .int .i64 0, .int .i64 0] 24))
      have S4 := hide (S4'.alloc (.cells #[.int .i64 0, .int .u64 0, .int .i64 0, .int .i64 0] 24))
      clear P4 E3 S3 f1 D4 E4' S4' s0 s1 s2 s3
      have s0 := S4.out.st4.c0
      have s1 := S4.out.st4.c1
      have s2 := S4.out.st4.c2
      have s3 := S4.out.st4.c3
      go_wp2_with fail
      refine (plain_any _ _ _ _ _).mono ?_
      rintro e w5 ⟨rfl, b5⟩
      have E5 := hide (E4.out.below b5)
      have X5 := hide (X4.out.below b5)
      clear E4 X4 S4 b5 s0 s1 s2 s3
      go_wp2_with fail
      refine (RP.out _ E5.out.rf E5.out.H).mono ?_
      rintro e w6 ⟨rfl, D6⟩
      have E6' := E5.out.getn D6
      have X6' := X5.out.but D6 nX.out
      have Y6 := hide (Bx.new w6 36 #[.int .i64 0, .int .u64 0, .int .i64 0, .int .i64 0])
      have E6 := hide (E6'.alloc (.cells #[.int .i64 0, .int .u64 0, .int .i64 0, .int .i64 0] 36))
      have X6 := hide (X6'.alloc (.cells #[.int .i64 0, .int .u64 0, .int .i64 0, .int .i64 0] 36))
      clear E5 X5 nX E6' X6' D6 RP
      go_upto_region 8 with fail
      obtain ⟨gX, hgX⟩ : ∃ g, g = w4.heap.size := ⟨_, rfl⟩
      obtain ⟨gY, hgY⟩ : ∃ g, g = w6.heap.size := ⟨_, rfl⟩
      obtain ⟨w7, hw7⟩ : ∃ w7, w7 = w6.alloc (.cells #[.int .i64 0, .int .u64 0, .int .i64 0, .int .i64 0] 36) := ⟨_, rfl⟩
      simp only [← hgX, ← hgY, ← hw7] at E6 X6 Y6 ⊢
      clear hgX hgY hw7
      refine wp_region_noPanic ?_
      refine wp_region_held_drew (S := (fun w' => St4 w' gX (.int .i64 0) (.int .u64 0) (.int .i64 0) (.int .i64 0) ∧ St4 w' gY (.int .i64 0) (.int .u64 0) (.int .i64 0) (.int .i64 0))) (by kernel_rfl) ⟨X6.out.drew.st4, Y6.out.drew.st4⟩ (fun hH0 => ?_)
      have E7 := hide E6.out.drew
      have X7 := hide X6.out.drew
      have Y7 := hide Y6.out.drew
      clear E6 X6 Y6
      refine wpAnyH_take (i := 0) (oi := { dst := some 48, op := Op.load 24 (Operand.tmp 9), type := 24, pos := "law.go:61", after := #[], guard := none }) (v := ?_) rfl (by kernel_rfl) (by kernel_rfl) (by kernel_rfl) (fun _ _ _ h => h) (Or.inl ⟨by rfl, ?_⟩) hH0 ?_
      rotate_left
      · intro w' hw'
        obtain ⟨⟨x0, x1, x2, x3, -, -, -, -, -, -, -⟩, ⟨y0, y1, y2, y3, -, -, -, -, -, -, -⟩⟩ := hw'
        go_simp
        try with_reducible rfl
      try simp only [Act.put, List.setIfInBounds_toArray, List.set_cons_zero, List.set_cons_succ]
      refine wpAnyH_take (i := 2) (oi := { dst := some 50, op := Op.load 36 (Operand.tmp 12), type := 36, pos := "law.go:61", after := #[], guard := none }) (v := ?_) rfl (by kernel_rfl) (by kernel_rfl) (by kernel_rfl) (fun _ _ _ h => h) (Or.inl ⟨by rfl, ?_⟩) hH0 ?_
      rotate_left
      · intro w' hw'
        obtain ⟨⟨x0, x1, x2, x3, -, -, -, -, -, -, -⟩, ⟨y0, y1, y2, y3, -, -, -, -, -, -, -⟩⟩ := hw'
        go_simp
        try with_reducible rfl
      try simp only [Act.put, List.setIfInBounds_toArray, List.set_cons_zero, List.set_cons_succ]
      refine wpAnyH_ready (rs := [1]) (by kernel_rfl) (by simp) ?_
      refine AllReadyH.cons (o := { dst := some 49, op := Op.call { callee := Callee.value (Operand.func 14), args := #[Operand.tmp 48], argTypes := #[24] }, type := 36, pos := "law.go:61", after := #[{ on := 0, ground := Ground.data }], guard := none }) rfl (fun K hK => ?_) AllReadyH.nil
      go_simp
      refine (plain_any _ _ _ _ _).mono ?_
      rintro e w8 ⟨rfl, b8⟩
      have E8 := hide (E7.out.below b8)
      have X8 := hide (X7.out.below b8)
      have Y8 := hide (Y7.out.below b8)
      clear E7 X7 Y7
      refine hK.out _ _ ⟨X8.out.st4, Y8.out.st4⟩ (fun hH1 => ?_)
      clear hK
      try simp only [Act.put, List.setIfInBounds_toArray, List.set_cons_zero, List.set_cons_succ]
      refine wpAnyH_take (i := 3) (oi := { dst := some 51, op := Op.binOp BinOp.eql 36 (Operand.tmp 49) (Operand.tmp 50) 36, type := 4, pos := "law.go:61", after := #[{ on := 1, ground := Ground.data }, { on := 2, ground := Ground.data }], guard := none }) (v := ?_) rfl (by kernel_rfl) (by kernel_rfl) (by kernel_rfl) (fun _ _ _ h => h) (Or.inl ⟨by rfl, ?_⟩) hH1 ?_
      rotate_left
      · intro w' hw'
        obtain ⟨⟨x0, x1, x2, x3, -, -, -, -, -, -, -⟩, ⟨y0, y1, y2, y3, -, -, -, -, -, -, -⟩⟩ := hw'
        go_simp
        try with_reducible rfl
      try simp only [Act.put, List.setIfInBounds_toArray, List.set_cons_zero, List.set_cons_succ]
      refine wpAnyH_take (i := 4) (oi := { dst := some 52, op := Op.move (Operand.tmp 51), type := 4, pos := "law.go:61", after := #[{ on := 3, ground := Ground.data }, { on := 1, ground := Ground.chain }], guard := none }) (v := ?_) rfl (by kernel_rfl) (by kernel_rfl) (by kernel_rfl) (fun _ _ _ h => h) (Or.inl ⟨by rfl, ?_⟩) hH1 ?_
      rotate_left
      · intro w' hw'
        obtain ⟨⟨x0, x1, x2, x3, -, -, -, -, -, -, -⟩, ⟨y0, y1, y2, y3, -, -, -, -, -, -, -⟩⟩ := hw'
        go_simp
        try with_reducible rfl
      try simp only [Act.put, List.setIfInBounds_toArray, List.set_cons_zero, List.set_cons_succ]
      refine wpAnyH_take (i := 5) (oi := { dst := some 53, op := Op.move (Operand.tmp 10), type := 22, pos := "law.go:61", after := #[{ on := 4, ground := Ground.guard }], guard := some (4, true) }) (v := ?_) rfl (by kernel_rfl) (by kernel_rfl) (by kernel_rfl) (fun _ _ _ h => h) (Or.inl ⟨by rfl, ?_⟩) hH1 ?_
      rotate_left
      · intro w' hw'
        obtain ⟨⟨x0, x1, x2, x3, -, -, -, -, -, -, -⟩, ⟨y0, y1, y2, y3, -, -, -, -, -, -, -⟩⟩ := hw'
        go_simp
        try with_reducible rfl
      try simp only [Act.put, List.setIfInBounds_toArray, List.set_cons_zero, List.set_cons_succ]
      refine wpAnyH_take (i := 6) (oi := { dst := some 54, op := Op.move (Operand.tmp 13), type := 22, pos := "law.go:61", after := #[{ on := 4, ground := Ground.guard }], guard := some (4, true) }) (v := ?_) rfl (by kernel_rfl) (by kernel_rfl) (by kernel_rfl) (fun _ _ _ h => h) (Or.inl ⟨by rfl, ?_⟩) hH1 ?_
      rotate_left
      · intro w' hw'
        obtain ⟨⟨x0, x1, x2, x3, -, -, -, -, -, -, -⟩, ⟨y0, y1, y2, y3, -, -, -, -, -, -, -⟩⟩ := hw'
        go_simp
        try with_reducible rfl
      try simp only [Act.put, List.setIfInBounds_toArray, List.set_cons_zero, List.set_cons_succ]
      refine wpAnyH_take (i := 7) (oi := { dst := some 55, op := Op.binOp BinOp.eql 22 (Operand.tmp 53) (Operand.tmp 54) 22, type := 4, pos := "law.go:61", after := #[{ on := 5, ground := Ground.data }, { on := 6, ground := Ground.data }, { on := 4, ground := Ground.guard }], guard := some (4, true) }) (v := ?_) rfl (by kernel_rfl) (by kernel_rfl) (by kernel_rfl) (fun _ _ _ h => h) (Or.inl ⟨by rfl, ?_⟩) hH1 ?_
      rotate_left
      · intro w' hw'
        obtain ⟨⟨x0, x1, x2, x3, -, -, -, -, -, -, -⟩, ⟨y0, y1, y2, y3, -, -, -, -, -, -, -⟩⟩ := hw'
        go_simp
        try with_reducible rfl
      try simp only [Act.put, List.setIfInBounds_toArray, List.set_cons_zero, List.set_cons_succ]
      refine wpAnyH_take (i := 8) (oi := { dst := some 56, op := Op.pick (Operand.tmp 52) (Operand.tmp 55) (Operand.const (Value.bool false)), type := 4, pos := "law.go:61", after := #[{ on := 4, ground := Ground.data }, { on := 7, ground := Ground.data }], guard := none }) (v := ?_) rfl (by kernel_rfl) (by kernel_rfl) (by kernel_rfl) (fun _ _ _ h => h) (Or.inl ⟨by rfl, ?_⟩) hH1 ?_
      rotate_left
      · intro w' hw'
        obtain ⟨⟨x0, x1, x2, x3, -, -, -, -, -, -, -⟩, ⟨y0, y1, y2, y3, -, -, -, -, -, -, -⟩⟩ := hw'
        go_simp
        try with_reducible rfl
      try simp only [Act.put, List.setIfInBounds_toArray, List.set_cons_zero, List.set_cons_succ]
      refine wpAnyH_take (i := 9) (oi := { dst := some 57, op := Op.move (Operand.tmp 56), type := 4, pos := "law.go:61", after := #[{ on := 8, ground := Ground.data }, { on := 4, ground := Ground.chain }], guard := none }) (v := ?_) rfl (by kernel_rfl) (by kernel_rfl) (by kernel_rfl) (fun _ _ _ h => h) (Or.inl ⟨by rfl, ?_⟩) hH1 ?_
      rotate_left
      · intro w' hw'
        obtain ⟨⟨x0, x1, x2, x3, -, -, -, -, -, -, -⟩, ⟨y0, y1, y2, y3, -, -, -, -, -, -, -⟩⟩ := hw'
        go_simp
        try with_reducible rfl
      try simp only [Act.put, List.setIfInBounds_toArray, List.set_cons_zero, List.set_cons_succ]
      refine wpAnyH_take (i := 10) (oi := { dst := some 58, op := Op.move (Operand.tmp 11), type := 32, pos := "law.go:61", after := #[{ on := 9, ground := Ground.guard }], guard := some (9, true) }) (v := ?_) rfl (by kernel_rfl) (by kernel_rfl) (by kernel_rfl) (fun _ _ _ h => h) (Or.inl ⟨by rfl, ?_⟩) hH1 ?_
      rotate_left
      · intro w' hw'
        obtain ⟨⟨x0, x1, x2, x3, -, -, -, -, -, -, -⟩, ⟨y0, y1, y2, y3, -, -, -, -, -, -, -⟩⟩ := hw'
        go_simp
        try with_reducible rfl
      try simp only [Act.put, List.setIfInBounds_toArray, List.set_cons_zero, List.set_cons_succ]
      refine wpAnyH_take (i := 11) (oi := { dst := some 59, op := Op.move (Operand.tmp 14), type := 32, pos := "law.go:61", after := #[{ on := 9, ground := Ground.guard }], guard := some (9, true) }) (v := ?_) rfl (by kernel_rfl) (by kernel_rfl) (by kernel_rfl) (fun _ _ _ h => h) (Or.inl ⟨by rfl, ?_⟩) hH1 ?_
      rotate_left
      · intro w' hw'
        obtain ⟨⟨x0, x1, x2, x3, -, -, -, -, -, -, -⟩, ⟨y0, y1, y2, y3, -, -, -, -, -, -, -⟩⟩ := hw'
        go_simp
        try with_reducible rfl
      try simp only [Act.put, List.setIfInBounds_toArray, List.set_cons_zero, List.set_cons_succ]
      refine wpAnyH_take (i := 12) (oi := { dst := some 60, op := Op.binOp BinOp.eql 32 (Operand.tmp 58) (Operand.tmp 59) 32, type := 4, pos := "law.go:61", after := #[{ on := 10, ground := Ground.data }, { on := 11, ground := Ground.data }, { on := 9, ground := Ground.guard }], guard := some (9, true) }) (v := ?_) rfl (by kernel_rfl) (by kernel_rfl) (by kernel_rfl) (fun _ _ _ h => h) (Or.inl ⟨by rfl, ?_⟩) hH1 ?_
      rotate_left
      · intro w' hw'
        obtain ⟨⟨x0, x1, x2, x3, -, -, -, -, -, -, -⟩, ⟨y0, y1, y2, y3, -, -, -, -, -, -, -⟩⟩ := hw'
        go_simp
        try with_reducible rfl
      try simp only [Act.put, List.setIfInBounds_toArray, List.set_cons_zero, List.set_cons_succ]
      refine wpAnyH_take (i := 13) (oi := { dst := some 61, op := Op.pick (Operand.tmp 57) (Operand.tmp 60) (Operand.const (Value.bool false)), type := 4, pos := "law.go:61", after := #[{ on := 9, ground := Ground.data }, { on := 12, ground := Ground.data }], guard := none }) (v := ?_) rfl (by kernel_rfl) (by kernel_rfl) (by kernel_rfl) (fun _ _ _ h => h) (Or.inl ⟨by rfl, ?_⟩) hH1 ?_
      rotate_left
      · intro w' hw'
        obtain ⟨⟨x0, x1, x2, x3, -, -, -, -, -, -, -⟩, ⟨y0, y1, y2, y3, -, -, -, -, -, -, -⟩⟩ := hw'
        go_simp
        try with_reducible rfl
      try simp only [Act.put, List.setIfInBounds_toArray, List.set_cons_zero, List.set_cons_succ]
      refine wpAnyH_take (i := 14) (oi := { dst := some 62, op := Op.move (Operand.tmp 61), type := 4, pos := "law.go:61", after := #[{ on := 13, ground := Ground.data }, { on := 9, ground := Ground.chain }], guard := none }) (v := ?_) rfl (by kernel_rfl) (by kernel_rfl) (by kernel_rfl) (fun _ _ _ h => h) (Or.inl ⟨by rfl, ?_⟩) hH1 ?_
      rotate_left
      · intro w' hw'
        obtain ⟨⟨x0, x1, x2, x3, -, -, -, -, -, -, -⟩, ⟨y0, y1, y2, y3, -, -, -, -, -, -, -⟩⟩ := hw'
        go_simp
        try with_reducible rfl
      try simp only [Act.put, List.setIfInBounds_toArray, List.set_cons_zero, List.set_cons_succ]
      refine wpAnyH_take (i := 15) (oi := { dst := some 63, op := Op.move (Operand.tmp 11), type := 32, pos := "law.go:61", after := #[{ on := 14, ground := Ground.guard }], guard := some (14, true) }) (v := ?_) rfl (by kernel_rfl) (by kernel_rfl) (by kernel_rfl) (fun _ _ _ h => h) (Or.inl ⟨by rfl, ?_⟩) hH1 ?_
      rotate_left
      · intro w' hw'
        obtain ⟨⟨x0, x1, x2, x3, -, -, -, -, -, -, -⟩, ⟨y0, y1, y2, y3, -, -, -, -, -, -, -⟩⟩ := hw'
        go_simp
        try with_reducible rfl
      try simp only [Act.put, List.setIfInBounds_toArray, List.set_cons_zero, List.set_cons_succ]
      refine wpAnyH_take (i := 16) (oi := { dst := some 64, op := Op.binOp BinOp.neq 32 (Operand.tmp 63) (Operand.const (Value.int IntKind.i64 0)) 32, type := 4, pos := "law.go:61", after := #[{ on := 15, ground := Ground.data }, { on := 14, ground := Ground.guard }], guard := some (14, true) }) (v := ?_) rfl (by kernel_rfl) (by kernel_rfl) (by kernel_rfl) (fun _ _ _ h => h) (Or.inl ⟨by rfl, ?_⟩) hH1 ?_
      rotate_left
      · intro w' hw'
        obtain ⟨⟨x0, x1, x2, x3, -, -, -, -, -, -, -⟩, ⟨y0, y1, y2, y3, -, -, -, -, -, -, -⟩⟩ := hw'
        go_simp
        try with_reducible rfl
      try simp only [Act.put, List.setIfInBounds_toArray, List.set_cons_zero, List.set_cons_succ]
      refine wpAnyH_take (i := 17) (oi := { dst := some 65, op := Op.move (Operand.tmp 64), type := 4, pos := "law.go:61", after := #[{ on := 16, ground := Ground.data }, { on := 14, ground := Ground.chain }, { on := 14, ground := Ground.guard }], guard := some (14, true) }) (v := ?_) rfl (by kernel_rfl) (by kernel_rfl) (by kernel_rfl) (fun _ _ _ h => h) (Or.inl ⟨by rfl, ?_⟩) hH1 ?_
      rotate_left
      · intro w' hw'
        obtain ⟨⟨x0, x1, x2, x3, -, -, -, -, -, -, -⟩, ⟨y0, y1, y2, y3, -, -, -, -, -, -, -⟩⟩ := hw'
        go_simp
        try with_reducible rfl
      try simp only [Act.put, List.setIfInBounds_toArray, List.set_cons_zero, List.set_cons_succ]
      refine wpAnyH_take (i := 18) (oi := { dst := some 66, op := Op.move (Operand.tmp 7), type := 48, pos := "law.go:61", after := #[{ on := 17, ground := Ground.guard }], guard := some (17, false) }) (v := undef) rfl (by kernel_rfl) (by kernel_rfl) (by kernel_rfl) (fun _ _ _ h => h) (Or.inr ⟨by rfl, rfl⟩) hH1 ?_
      try simp only [Act.put, List.setIfInBounds_toArray, List.set_cons_zero, List.set_cons_succ]
      refine wpAnyH_take (i := 19) (oi := { dst := some 67, op := Op.call { callee := Callee.value (Operand.func 27), args := #[Operand.tmp 66], argTypes := #[48] }, type := 3, pos := "law.go:61", after := #[{ on := 18, ground := Ground.data }, { on := 17, ground := Ground.chain }, { on := 17, ground := Ground.guard }], guard := some (17, false) }) (v := undef) rfl (by kernel_rfl) (by kernel_rfl) (by kernel_rfl) (fun _ _ _ h => h) (Or.inr ⟨by rfl, rfl⟩) hH1 ?_
      try simp only [Act.put, List.setIfInBounds_toArray, List.set_cons_zero, List.set_cons_succ]
      refine wpAnyH_take (i := 20) (oi := { dst := some 68, op := Op.move (Operand.tmp 8), type := 50, pos := "law.go:61", after := #[{ on := 17, ground := Ground.guard }], guard := some (17, false) }) (v := undef) rfl (by kernel_rfl) (by kernel_rfl) (by kernel_rfl) (fun _ _ _ h => h) (Or.inr ⟨by rfl, rfl⟩) hH1 ?_
      try simp only [Act.put, List.setIfInBounds_toArray, List.set_cons_zero, List.set_cons_succ]
      refine wpAnyH_take (i := 21) (oi := { dst := some 69, op := Op.nilCheck (Operand.tmp 68), type := 0, pos := "law.go:61", after := #[{ on := 20, ground := Ground.data }, { on := 17, ground := Ground.guard }], guard := some (17, false) }) (v := undef) rfl (by kernel_rfl) (by kernel_rfl) (by kernel_rfl) (fun _ _ _ h => h) (Or.inr ⟨by rfl, rfl⟩) hH1 ?_
      try simp only [Act.put, List.setIfInBounds_toArray, List.set_cons_zero, List.set_cons_succ]
      refine wpAnyH_take (i := 22) (oi := { dst := some 70, op := Op.fieldAddr 52 (Operand.tmp 69) 1, type := 0, pos := "law.go:61", after := #[{ on := 21, ground := Ground.data }, { on := 17, ground := Ground.guard }], guard := some (17, false) }) (v := undef) rfl (by kernel_rfl) (by kernel_rfl) (by kernel_rfl) (fun _ _ _ h => h) (Or.inr ⟨by rfl, rfl⟩) hH1 ?_
      try simp only [Act.put, List.setIfInBounds_toArray, List.set_cons_zero, List.set_cons_succ]
      refine wpAnyH_take (i := 23) (oi := { dst := some 71, op := Op.load 3 (Operand.tmp 70), type := 3, pos := "law.go:61", after := #[{ on := 22, ground := Ground.data }, { on := 17, ground := Ground.guard }], guard := some (17, false) }) (v := undef) rfl (by kernel_rfl) (by kernel_rfl) (by kernel_rfl) (fun _ _ _ h => h) (Or.inr ⟨by rfl, rfl⟩) hH1 ?_
      try simp only [Act.put, List.setIfInBounds_toArray, List.set_cons_zero, List.set_cons_succ]
      refine wpAnyH_take (i := 24) (oi := { dst := some 72, op := Op.binOp BinOp.eql 3 (Operand.tmp 67) (Operand.tmp 71) 3, type := 4, pos := "law.go:61", after := #[{ on := 19, ground := Ground.data }, { on := 23, ground := Ground.data }, { on := 17, ground := Ground.guard }], guard := some (17, false) }) (v := undef) rfl (by kernel_rfl) (by kernel_rfl) (by kernel_rfl) (fun _ _ _ h => h) (Or.inr ⟨by rfl, rfl⟩) hH1 ?_
      try simp only [Act.put, List.setIfInBounds_toArray, List.set_cons_zero, List.set_cons_succ]
      refine wpAnyH_take (i := 25) (oi := { dst := some 73, op := Op.pick (Operand.tmp 65) (Operand.const (Value.bool true)) (Operand.tmp 72), type := 4, pos := "law.go:61", after := #[{ on := 17, ground := Ground.data }, { on := 24, ground := Ground.data }, { on := 14, ground := Ground.guard }], guard := some (14, true) }) (v := ?_) rfl (by kernel_rfl) (by kernel_rfl) (by kernel_rfl) (fun _ _ _ h => h) (Or.inl ⟨by rfl, ?_⟩) hH1 ?_
      rotate_left
      · intro w' hw'
        obtain ⟨⟨x0, x1, x2, x3, -, -, -, -, -, -, -⟩, ⟨y0, y1, y2, y3, -, -, -, -, -, -, -⟩⟩ := hw'
        go_simp
        try with_reducible rfl
      try simp only [Act.put, List.setIfInBounds_toArray, List.set_cons_zero, List.set_cons_succ]
      refine wpAnyH_take (i := 26) (oi := { dst := some 74, op := Op.pick (Operand.tmp 62) (Operand.tmp 73) (Operand.const (Value.bool false)), type := 4, pos := "law.go:61", after := #[{ on := 14, ground := Ground.data }, { on := 25, ground := Ground.data }], guard := none }) (v := ?_) rfl (by kernel_rfl) (by kernel_rfl) (by kernel_rfl) (fun _ _ _ h => h) (Or.inl ⟨by rfl, ?_⟩) hH1 ?_
      rotate_left
      · intro w' hw'
        obtain ⟨⟨x0, x1, x2, x3, -, -, -, -, -, -, -⟩, ⟨y0, y1, y2, y3, -, -, -, -, -, -, -⟩⟩ := hw'
        go_simp
        try with_reducible rfl
      try simp only [Act.put, List.setIfInBounds_toArray, List.set_cons_zero, List.set_cons_succ]
      refine wpAnyH_take (i := 27) (oi := { dst := some 75, op := Op.move (Operand.tmp 74), type := 4, pos := "law.go:61", after := #[{ on := 26, ground := Ground.data }, { on := 19, ground := Ground.chain }], guard := none }) (v := ?_) rfl (by kernel_rfl) (by kernel_rfl) (by kernel_rfl) (fun _ _ _ h => h) (Or.inl ⟨by rfl, ?_⟩) hH1 ?_
      rotate_left
      · intro w' hw'
        obtain ⟨⟨x0, x1, x2, x3, -, -, -, -, -, -, -⟩, ⟨y0, y1, y2, y3, -, -, -, -, -, -, -⟩⟩ := hw'
        go_simp
        try with_reducible rfl
      try simp only [Act.put, List.setIfInBounds_toArray, List.set_cons_zero, List.set_cons_succ]
      refine wpAnyH_ready (rs := [28]) (by kernel_rfl) (by simp) ?_
      refine AllReadyH.cons (o := { dst := some 76, op := Op.call { callee := Callee.value (Operand.func 21), args := #[], argTypes := #[] }, type := 4, pos := "law.go:61", after := #[{ on := 27, ground := Ground.chain }, { on := 27, ground := Ground.guard }], guard := some (27, true) }) rfl (fun K hK => ?_) AllReadyH.nil
      go_simp
      refine (works_any _ E8.out.t).mono ?_
      rintro e w9 ⟨rfl, b9⟩
      have E9 := hide (E8.out.below b9)
      have X9 := hide (X8.out.below b9)
      have Y9 := hide (Y8.out.below b9)
      clear E8 X8 Y8
      refine hK.out _ _ ⟨X9.out.st4, Y9.out.st4⟩ (fun hH2 => ?_)
      clear hK
      try simp only [Act.put, List.setIfInBounds_toArray, List.set_cons_zero, List.set_cons_succ]
      refine wpAnyH_take (i := 29) (oi := { dst := some 77, op := Op.pick (Operand.tmp 75) (Operand.tmp 76) (Operand.const (Value.bool false)), type := 4, pos := "law.go:61", after := #[{ on := 27, ground := Ground.data }, { on := 28, ground := Ground.data }], guard := none }) (v := ?_) rfl (by kernel_rfl) (by kernel_rfl) (by kernel_rfl) (fun _ _ _ h => h) (Or.inl ⟨by rfl, ?_⟩) hH2 ?_
      rotate_left
      · intro w' hw'
        obtain ⟨⟨x0, x1, x2, x3, -, -, -, -, -, -, -⟩, ⟨y0, y1, y2, y3, -, -, -, -, -, -, -⟩⟩ := hw'
        go_simp
        try with_reducible rfl
      try simp only [Act.put, List.setIfInBounds_toArray, List.set_cons_zero, List.set_cons_succ]
      refine wpAnyH_take (i := 30) (oi := { dst := some 6, op := Op.assign (Operand.tmp 77), type := 4, pos := "law.go:61", after := #[{ on := 29, ground := Ground.data }, { on := 28, ground := Ground.chain }, { on := 0, ground := Ground.phase }, { on := 1, ground := Ground.phase }, { on := 2, ground := Ground.phase }, { on := 3, ground := Ground.phase }, { on := 4, ground := Ground.phase }, { on := 5, ground := Ground.phase }, { on := 6, ground := Ground.phase }, { on := 7, ground := Ground.phase }, { on := 8, ground := Ground.phase }, { on := 9, ground := Ground.phase }, { on := 10, ground := Ground.phase }, { on := 11, ground := Ground.phase }, { on := 12, ground := Ground.phase }, { on := 13, ground := Ground.phase }, { on := 14, ground := Ground.phase }, { on := 15, ground := Ground.phase }, { on := 16, ground := Ground.phase }, { on := 17, ground := Ground.phase }, { on := 18, ground := Ground.phase }, { on := 19, ground := Ground.phase }, { on := 20, ground := Ground.phase }, { on := 21, ground := Ground.phase }, { on := 22, ground := Ground.phase }, { on := 23, ground := Ground.phase }, { on := 24, ground := Ground.phase }, { on := 25, ground := Ground.phase }, { on := 26, ground := Ground.phase }, { on := 27, ground := Ground.phase }, { on := 28, ground := Ground.phase }, { on := 29, ground := Ground.phase }], guard := none }) (v := ?_) rfl (by kernel_rfl) (by kernel_rfl) (by kernel_rfl) (fun _ _ _ h => h) (Or.inl ⟨by rfl, ?_⟩) hH2 ?_
      rotate_left
      · intro w' hw'
        obtain ⟨⟨x0, x1, x2, x3, -, -, -, -, -, -, -⟩, ⟨y0, y1, y2, y3, -, -, -, -, -, -, -⟩⟩ := hw'
        go_simp
        try with_reducible rfl
      try simp only [Act.put, List.setIfInBounds_toArray, List.set_cons_zero, List.set_cons_succ]
      refine wpAnyH_done (by kernel_rfl) ?_ _
      refine NoPanic.normal ?_
      go_wp2_with fail
      go_ret
      exact ⟨rfl, E9.out.bel⟩
    | some qq =>
      obtain ⟨V, kk, a1, b1⟩ := qq
      have P4 := hide (getX_ok E3.out.rd E3.out.t hpos.out hs hL.out (by rw [hlb.out]; exact hg))
      have RP := hide (fun wx (h : Ref wx w.heap.size r a0 nb cap0 P) (H : Has wx a0 nb cap0 lb) => rgX_ok h H hap.out (by omega) hP8.out hs hL.out hg)
      clear hok hs hg
      generalize n0 + 1 = n1 at *
      have heqA : ∀ w, (binOp .eql 36 (.agg #[.int .i64 (n1 : Int), .int .u64 (V : Int), .int .i64 (a1 : Int), .int .i64 (b1 : Int)]) (.agg #[.int .i64 (n1 : Int), .int .u64 (V : Int), .int .i64 (a1 : Int), .int .i64 (b1 : Int)])).run Tryd.prog w = .ok (.bool true) w := fun w => by rw [run_eql36]; simp
      have s0 := S3.out.st4.c0
      have s1 := S3.out.st4.c1
      have s2 := S3.out.st4.c2
      have s3 := S3.out.st4.c3
      go_wp2_with fail
      refine P4.out.mono ?_
      rintro e w4 ⟨rfl, W4, D4⟩
      have E4' := E3.out.getq D4 W4
      have S4' := S3.out.did D4 (nf_nul f1.out)
      have X4 := hide (Bx.new w4 24 #[.int .i64 (n1 : Int), .int .u64 (V : Int), .int .i64 (a1 : Int), .int .i64 (b1 : Int)])
      have nX : Hid (w4.heap.size ≠ r) := by have := E4'.rf.lt; show _ ≠ _; omega
      have E4 := hide (E4'.alloc (.cells #[.int .i64 (n1 : Int), .int .u64 (V : Int), .int .i64 (a1 : Int), .int .i64 (b1 : Int)] 24))
      have S4 := hide (S4'.alloc (.cells #[.int .i64 (n1 : Int), .int .u64 (V : Int), .int .i64 (a1 : Int), .int .i64 (b1 : Int)] 24))
      clear P4 E3 S3 f1 D4 E4' S4' s0 s1 s2 s3
      have s0 := S4.out.st4.c0
      have s1 := S4.out.st4.c1
      have s2 := S4.out.st4.c2
      have s3 := S4.out.st4.c3
      go_wp2_with fail
      refine (plain_any _ _ _ _ _).mono ?_
      rintro e w5 ⟨rfl, b5⟩
      have E5 := hide (E4.out.below b5)
      have X5 := hide (X4.out.below b5)
      clear E4 X4 S4 b5 s0 s1 s2 s3
      go_wp2_with fail
      refine (RP.out _ E5.out.rf E5.out.H).mono ?_
      rintro e w6 ⟨rfl, W6, D6⟩
      have E6' := E5.out.getr D6 W6
      have X6' := X5.out.but D6 nX.out
      have Y6 := hide (Bx.new w6 36 #[.int .i64 (n1 : Int), .int .u64 (V : Int), .int .i64 (a1 : Int), .int .i64 (b1 : Int)])
      have E6 := hide (E6'.alloc (.cells #[.int .i64 (n1 : Int), .int .u64 (V : Int), .int .i64 (a1 : Int), .int .i64 (b1 : Int)] 36))
      have X6 := hide (X6'.alloc (.cells #[.int .i64 (n1 : Int), .int .u64 (V : Int), .int .i64 (a1 : Int), .int .i64 (b1 : Int)] 36))
      clear E5 X5 nX E6' X6' D6 RP
      go_upto_region 8 with fail
      obtain ⟨gX, hgX⟩ : ∃ g, g = w4.heap.size := ⟨_, rfl⟩
      obtain ⟨gY, hgY⟩ : ∃ g, g = w6.heap.size := ⟨_, rfl⟩
      obtain ⟨w7, hw7⟩ : ∃ w7, w7 = w6.alloc (.cells #[.int .i64 (n1 : Int), .int .u64 (V : Int), .int .i64 (a1 : Int), .int .i64 (b1 : Int)] 36) := ⟨_, rfl⟩
      simp only [← hgX, ← hgY, ← hw7] at E6 X6 Y6 ⊢
      clear hgX hgY hw7
      refine wp_region_noPanic ?_
      refine wp_region_held_drew (S := (fun w' => St4 w' gX (.int .i64 (n1 : Int)) (.int .u64 (V : Int)) (.int .i64 (a1 : Int)) (.int .i64 (b1 : Int)) ∧ St4 w' gY (.int .i64 (n1 : Int)) (.int .u64 (V : Int)) (.int .i64 (a1 : Int)) (.int .i64 (b1 : Int)) ∧ w'.cell? ⟨r, 1, none⟩ = some (.int .i64 ((P + kk : Nat) : Int)))) (by kernel_rfl) ⟨X6.out.drew.st4, Y6.out.drew.st4, E6.out.drew.rf.c1⟩ (fun hH0 => ?_)
      have E7 := hide E6.out.drew
      have X7 := hide X6.out.drew
      have Y7 := hide Y6.out.drew
      clear E6 X6 Y6
      refine wpAnyH_take (i := 0) (oi := { dst := some 48, op := Op.load 24 (Operand.tmp 9), type := 24, pos := "law.go:61", after := #[], guard := none }) (v := ?_) rfl (by kernel_rfl) (by kernel_rfl) (by kernel_rfl) (fun _ _ _ h => h) (Or.inl ⟨by rfl, ?_⟩) hH0 ?_
      rotate_left
      · intro w' hw'
        obtain ⟨⟨x0, x1, x2, x3, -, -, -, -, -, -, -⟩, ⟨y0, y1, y2, y3, -, -, -, -, -, -, -⟩, r1⟩ := hw'
        go_simp
        try with_reducible rfl
      try simp only [Act.put, List.setIfInBounds_toArray, List.set_cons_zero, List.set_cons_succ]
      refine wpAnyH_take (i := 2) (oi := { dst := some 50, op := Op.load 36 (Operand.tmp 12), type := 36, pos := "law.go:61", after := #[], guard := none }) (v := ?_) rfl (by kernel_rfl) (by kernel_rfl) (by kernel_rfl) (fun _ _ _ h => h) (Or.inl ⟨by rfl, ?_⟩) hH0 ?_
      rotate_left
      · intro w' hw'
        obtain ⟨⟨x0, x1, x2, x3, -, -, -, -, -, -, -⟩, ⟨y0, y1, y2, y3, -, -, -, -, -, -, -⟩, r1⟩ := hw'
        go_simp
        try with_reducible rfl
      try simp only [Act.put, List.setIfInBounds_toArray, List.set_cons_zero, List.set_cons_succ]
      refine wpAnyH_ready (rs := [1]) (by kernel_rfl) (by simp) ?_
      refine AllReadyH.cons (o := { dst := some 49, op := Op.call { callee := Callee.value (Operand.func 14), args := #[Operand.tmp 48], argTypes := #[24] }, type := 36, pos := "law.go:61", after := #[{ on := 0, ground := Ground.data }], guard := none }) rfl (fun K hK => ?_) AllReadyH.nil
      go_simp
      refine (plain_any _ _ _ _ _).mono ?_
      rintro e w8 ⟨rfl, b8⟩
      have E8 := hide (E7.out.below b8)
      have X8 := hide (X7.out.below b8)
      have Y8 := hide (Y7.out.below b8)
      clear E7 X7 Y7
      refine hK.out _ _ ⟨X8.out.st4, Y8.out.st4, E8.out.rf.c1⟩ (fun hH1 => ?_)
      clear hK
      try simp only [Act.put, List.setIfInBounds_toArray, List.set_cons_zero, List.set_cons_succ]
      refine wpAnyH_take (i := 3) (oi := { dst := some 51, op := Op.binOp BinOp.eql 36 (Operand.tmp 49) (Operand.tmp 50) 36, type := 4, pos := "law.go:61", after := #[{ on := 1, ground := Ground.data }, { on := 2, ground := Ground.data }], guard := none }) (v := ?_) rfl (by kernel_rfl) (by kernel_rfl) (by kernel_rfl) (fun _ _ _ h => h) (Or.inl ⟨by rfl, ?_⟩) hH1 ?_
      rotate_left
      · intro w' hw'
        obtain ⟨⟨x0, x1, x2, x3, -, -, -, -, -, -, -⟩, ⟨y0, y1, y2, y3, -, -, -, -, -, -, -⟩, r1⟩ := hw'
        go_simp
        try with_reducible rfl
      try simp only [Act.put, List.setIfInBounds_toArray, List.set_cons_zero, List.set_cons_succ]
      refine wpAnyH_take (i := 4) (oi := { dst := some 52, op := Op.move (Operand.tmp 51), type := 4, pos := "law.go:61", after := #[{ on := 3, ground := Ground.data }, { on := 1, ground := Ground.chain }], guard := none }) (v := ?_) rfl (by kernel_rfl) (by kernel_rfl) (by kernel_rfl) (fun _ _ _ h => h) (Or.inl ⟨by rfl, ?_⟩) hH1 ?_
      rotate_left
      · intro w' hw'
        obtain ⟨⟨x0, x1, x2, x3, -, -, -, -, -, -, -⟩, ⟨y0, y1, y2, y3, -, -, -, -, -, -, -⟩, r1⟩ := hw'
        go_simp
        try with_reducible rfl
      try simp only [Act.put, List.setIfInBounds_toArray, List.set_cons_zero, List.set_cons_succ]
      refine wpAnyH_take (i := 5) (oi := { dst := some 53, op := Op.move (Operand.tmp 10), type := 22, pos := "law.go:61", after := #[{ on := 4, ground := Ground.guard }], guard := some (4, true) }) (v := ?_) rfl (by kernel_rfl) (by kernel_rfl) (by kernel_rfl) (fun _ _ _ h => h) (Or.inl ⟨by rfl, ?_⟩) hH1 ?_
      rotate_left
      · intro w' hw'
        obtain ⟨⟨x0, x1, x2, x3, -, -, -, -, -, -, -⟩, ⟨y0, y1, y2, y3, -, -, -, -, -, -, -⟩, r1⟩ := hw'
        go_simp
        try with_reducible rfl
      try simp only [Act.put, List.setIfInBounds_toArray, List.set_cons_zero, List.set_cons_succ]
      refine wpAnyH_take (i := 6) (oi := { dst := some 54, op := Op.move (Operand.tmp 13), type := 22, pos := "law.go:61", after := #[{ on := 4, ground := Ground.guard }], guard := some (4, true) }) (v := ?_) rfl (by kernel_rfl) (by kernel_rfl) (by kernel_rfl) (fun _ _ _ h => h) (Or.inl ⟨by rfl, ?_⟩) hH1 ?_
      rotate_left
      · intro w' hw'
        obtain ⟨⟨x0, x1, x2, x3, -, -, -, -, -, -, -⟩, ⟨y0, y1, y2, y3, -, -, -, -, -, -, -⟩, r1⟩ := hw'
        go_simp
        try with_reducible rfl
      try simp only [Act.put, List.setIfInBounds_toArray, List.set_cons_zero, List.set_cons_succ]
      refine wpAnyH_take (i := 7) (oi := { dst := some 55, op := Op.binOp BinOp.eql 22 (Operand.tmp 53) (Operand.tmp 54) 22, type := 4, pos := "law.go:61", after := #[{ on := 5, ground := Ground.data }, { on := 6, ground := Ground.data }, { on := 4, ground := Ground.guard }], guard := some (4, true) }) (v := ?_) rfl (by kernel_rfl) (by kernel_rfl) (by kernel_rfl) (fun _ _ _ h => h) (Or.inl ⟨by rfl, ?_⟩) hH1 ?_
      rotate_left
      · intro w' hw'
        obtain ⟨⟨x0, x1, x2, x3, -, -, -, -, -, -, -⟩, ⟨y0, y1, y2, y3, -, -, -, -, -, -, -⟩, r1⟩ := hw'
        go_simp
        try with_reducible rfl
      try simp only [Act.put, List.setIfInBounds_toArray, List.set_cons_zero, List.set_cons_succ]
      refine wpAnyH_take (i := 8) (oi := { dst := some 56, op := Op.pick (Operand.tmp 52) (Operand.tmp 55) (Operand.const (Value.bool false)), type := 4, pos := "law.go:61", after := #[{ on := 4, ground := Ground.data }, { on := 7, ground := Ground.data }], guard := none }) (v := ?_) rfl (by kernel_rfl) (by kernel_rfl) (by kernel_rfl) (fun _ _ _ h => h) (Or.inl ⟨by rfl, ?_⟩) hH1 ?_
      rotate_left
      · intro w' hw'
        obtain ⟨⟨x0, x1, x2, x3, -, -, -, -, -, -, -⟩, ⟨y0, y1, y2, y3, -, -, -, -, -, -, -⟩, r1⟩ := hw'
        go_simp
        try with_reducible rfl
      try simp only [Act.put, List.setIfInBounds_toArray, List.set_cons_zero, List.set_cons_succ]
      refine wpAnyH_take (i := 9) (oi := { dst := some 57, op := Op.move (Operand.tmp 56), type := 4, pos := "law.go:61", after := #[{ on := 8, ground := Ground.data }, { on := 4, ground := Ground.chain }], guard := none }) (v := ?_) rfl (by kernel_rfl) (by kernel_rfl) (by kernel_rfl) (fun _ _ _ h => h) (Or.inl ⟨by rfl, ?_⟩) hH1 ?_
      rotate_left
      · intro w' hw'
        obtain ⟨⟨x0, x1, x2, x3, -, -, -, -, -, -, -⟩, ⟨y0, y1, y2, y3, -, -, -, -, -, -, -⟩, r1⟩ := hw'
        go_simp
        try with_reducible rfl
      try simp only [Act.put, List.setIfInBounds_toArray, List.set_cons_zero, List.set_cons_succ]
      refine wpAnyH_take (i := 10) (oi := { dst := some 58, op := Op.move (Operand.tmp 11), type := 32, pos := "law.go:61", after := #[{ on := 9, ground := Ground.guard }], guard := some (9, true) }) (v := ?_) rfl (by kernel_rfl) (by kernel_rfl) (by kernel_rfl) (fun _ _ _ h => h) (Or.inl ⟨by rfl, ?_⟩) hH1 ?_
      rotate_left
      · intro w' hw'
        obtain ⟨⟨x0, x1, x2, x3, -, -, -, -, -, -, -⟩, ⟨y0, y1, y2, y3, -, -, -, -, -, -, -⟩, r1⟩ := hw'
        go_simp
        try with_reducible rfl
      try simp only [Act.put, List.setIfInBounds_toArray, List.set_cons_zero, List.set_cons_succ]
      refine wpAnyH_take (i := 11) (oi := { dst := some 59, op := Op.move (Operand.tmp 14), type := 32, pos := "law.go:61", after := #[{ on := 9, ground := Ground.guard }], guard := some (9, true) }) (v := ?_) rfl (by kernel_rfl) (by kernel_rfl) (by kernel_rfl) (fun _ _ _ h => h) (Or.inl ⟨by rfl, ?_⟩) hH1 ?_
      rotate_left
      · intro w' hw'
        obtain ⟨⟨x0, x1, x2, x3, -, -, -, -, -, -, -⟩, ⟨y0, y1, y2, y3, -, -, -, -, -, -, -⟩, r1⟩ := hw'
        go_simp
        try with_reducible rfl
      try simp only [Act.put, List.setIfInBounds_toArray, List.set_cons_zero, List.set_cons_succ]
      refine wpAnyH_take (i := 12) (oi := { dst := some 60, op := Op.binOp BinOp.eql 32 (Operand.tmp 58) (Operand.tmp 59) 32, type := 4, pos := "law.go:61", after := #[{ on := 10, ground := Ground.data }, { on := 11, ground := Ground.data }, { on := 9, ground := Ground.guard }], guard := some (9, true) }) (v := ?_) rfl (by kernel_rfl) (by kernel_rfl) (by kernel_rfl) (fun _ _ _ h => h) (Or.inl ⟨by rfl, ?_⟩) hH1 ?_
      rotate_left
      · intro w' hw'
        obtain ⟨⟨x0, x1, x2, x3, -, -, -, -, -, -, -⟩, ⟨y0, y1, y2, y3, -, -, -, -, -, -, -⟩, r1⟩ := hw'
        go_simp
        try with_reducible rfl
      try simp only [Act.put, List.setIfInBounds_toArray, List.set_cons_zero, List.set_cons_succ]
      refine wpAnyH_take (i := 13) (oi := { dst := some 61, op := Op.pick (Operand.tmp 57) (Operand.tmp 60) (Operand.const (Value.bool false)), type := 4, pos := "law.go:61", after := #[{ on := 9, ground := Ground.data }, { on := 12, ground := Ground.data }], guard := none }) (v := ?_) rfl (by kernel_rfl) (by kernel_rfl) (by kernel_rfl) (fun _ _ _ h => h) (Or.inl ⟨by rfl, ?_⟩) hH1 ?_
      rotate_left
      · intro w' hw'
        obtain ⟨⟨x0, x1, x2, x3, -, -, -, -, -, -, -⟩, ⟨y0, y1, y2, y3, -, -, -, -, -, -, -⟩, r1⟩ := hw'
        go_simp
        try with_reducible rfl
      try simp only [Act.put, List.setIfInBounds_toArray, List.set_cons_zero, List.set_cons_succ]
      refine wpAnyH_take (i := 14) (oi := { dst := some 62, op := Op.move (Operand.tmp 61), type := 4, pos := "law.go:61", after := #[{ on := 13, ground := Ground.data }, { on := 9, ground := Ground.chain }], guard := none }) (v := ?_) rfl (by kernel_rfl) (by kernel_rfl) (by kernel_rfl) (fun _ _ _ h => h) (Or.inl ⟨by rfl, ?_⟩) hH1 ?_
      rotate_left
      · intro w' hw'
        obtain ⟨⟨x0, x1, x2, x3, -, -, -, -, -, -, -⟩, ⟨y0, y1, y2, y3, -, -, -, -, -, -, -⟩, r1⟩ := hw'
        go_simp
        try with_reducible rfl
      try simp only [Act.put, List.setIfInBounds_toArray, List.set_cons_zero, List.set_cons_succ]
      refine wpAnyH_take (i := 15) (oi := { dst := some 63, op := Op.move (Operand.tmp 11), type := 32, pos := "law.go:61", after := #[{ on := 14, ground := Ground.guard }], guard := some (14, true) }) (v := ?_) rfl (by kernel_rfl) (by kernel_rfl) (by kernel_rfl) (fun _ _ _ h => h) (Or.inl ⟨by rfl, ?_⟩) hH1 ?_
      rotate_left
      · intro w' hw'
        obtain ⟨⟨x0, x1, x2, x3, -, -, -, -, -, -, -⟩, ⟨y0, y1, y2, y3, -, -, -, -, -, -, -⟩, r1⟩ := hw'
        go_simp
        try with_reducible rfl
      try simp only [Act.put, List.setIfInBounds_toArray, List.set_cons_zero, List.set_cons_succ]
      refine wpAnyH_take (i := 16) (oi := { dst := some 64, op := Op.binOp BinOp.neq 32 (Operand.tmp 63) (Operand.const (Value.int IntKind.i64 0)) 32, type := 4, pos := "law.go:61", after := #[{ on := 15, ground := Ground.data }, { on := 14, ground := Ground.guard }], guard := some (14, true) }) (v := ?_) rfl (by kernel_rfl) (by kernel_rfl) (by kernel_rfl) (fun _ _ _ h => h) (Or.inl ⟨by rfl, ?_⟩) hH1 ?_
      rotate_left
      · intro w' hw'
        obtain ⟨⟨x0, x1, x2, x3, -, -, -, -, -, -, -⟩, ⟨y0, y1, y2, y3, -, -, -, -, -, -, -⟩, r1⟩ := hw'
        go_simp
        try with_reducible rfl
      try simp only [Act.put, List.setIfInBounds_toArray, List.set_cons_zero, List.set_cons_succ]
      refine wpAnyH_take (i := 17) (oi := { dst := some 65, op := Op.move (Operand.tmp 64), type := 4, pos := "law.go:61", after := #[{ on := 16, ground := Ground.data }, { on := 14, ground := Ground.chain }, { on := 14, ground := Ground.guard }], guard := some (14, true) }) (v := ?_) rfl (by kernel_rfl) (by kernel_rfl) (by kernel_rfl) (fun _ _ _ h => h) (Or.inl ⟨by rfl, ?_⟩) hH1 ?_
      rotate_left
      · intro w' hw'
        obtain ⟨⟨x0, x1, x2, x3, -, -, -, -, -, -, -⟩, ⟨y0, y1, y2, y3, -, -, -, -, -, -, -⟩, r1⟩ := hw'
        go_simp
        try with_reducible rfl
      try simp only [Act.put, List.setIfInBounds_toArray, List.set_cons_zero, List.set_cons_succ]
      refine wpAnyH_take (i := 18) (oi := { dst := some 66, op := Op.move (Operand.tmp 7), type := 48, pos := "law.go:61", after := #[{ on := 17, ground := Ground.guard }], guard := some (17, false) }) (v := ?_) rfl (by kernel_rfl) (by kernel_rfl) (by kernel_rfl) (fun _ _ _ h => h) (Or.inl ⟨by rfl, ?_⟩) hH1 ?_
      rotate_left
      · intro w' hw'
        obtain ⟨⟨x0, x1, x2, x3, -, -, -, -, -, -, -⟩, ⟨y0, y1, y2, y3, -, -, -, -, -, -, -⟩, r1⟩ := hw'
        go_simp
        try with_reducible rfl
      try simp only [Act.put, List.setIfInBounds_toArray, List.set_cons_zero, List.set_cons_succ]
      refine wpAnyH_take (i := 20) (oi := { dst := some 68, op := Op.move (Operand.tmp 8), type := 50, pos := "law.go:61", after := #[{ on := 17, ground := Ground.guard }], guard := some (17, false) }) (v := ?_) rfl (by kernel_rfl) (by kernel_rfl) (by kernel_rfl) (fun _ _ _ h => h) (Or.inl ⟨by rfl, ?_⟩) hH1 ?_
      rotate_left
      · intro w' hw'
        obtain ⟨⟨x0, x1, x2, x3, -, -, -, -, -, -, -⟩, ⟨y0, y1, y2, y3, -, -, -, -, -, -, -⟩, r1⟩ := hw'
        go_simp
        try with_reducible rfl
      try simp only [Act.put, List.setIfInBounds_toArray, List.set_cons_zero, List.set_cons_succ]
      refine wpAnyH_take (i := 21) (oi := { dst := some 69, op := Op.nilCheck (Operand.tmp 68), type := 0, pos := "law.go:61", after := #[{ on := 20, ground := Ground.data }, { on := 17, ground := Ground.guard }], guard := some (17, false) }) (v := ?_) rfl (by kernel_rfl) (by kernel_rfl) (by kernel_rfl) (fun _ _ _ h => h) (Or.inl ⟨by rfl, ?_⟩) hH1 ?_
      rotate_left
      · intro w' hw'
        obtain ⟨⟨x0, x1, x2, x3, -, -, -, -, -, -, -⟩, ⟨y0, y1, y2, y3, -, -, -, -, -, -, -⟩, r1⟩ := hw'
        go_simp
        try with_reducible rfl
      try simp only [Act.put, List.setIfInBounds_toArray, List.set_cons_zero, List.set_cons_succ]
      refine wpAnyH_take (i := 22) (oi := { dst := some 70, op := Op.fieldAddr 52 (Operand.tmp 69) 1, type := 0, pos := "law.go:61", after := #[{ on := 21, ground := Ground.data }, { on := 17, ground := Ground.guard }], guard := some (17, false) }) (v := ?_) rfl (by kernel_rfl) (by kernel_rfl) (by kernel_rfl) (fun _ _ _ h => h) (Or.inl ⟨by rfl, ?_⟩) hH1 ?_
      rotate_left
      · intro w' hw'
        obtain ⟨⟨x0, x1, x2, x3, -, -, -, -, -, -, -⟩, ⟨y0, y1, y2, y3, -, -, -, -, -, -, -⟩, r1⟩ := hw'
        go_simp
        try with_reducible rfl
      try simp only [Act.put, List.setIfInBounds_toArray, List.set_cons_zero, List.set_cons_succ]
      refine wpAnyH_take (i := 23) (oi := { dst := some 71, op := Op.load 3 (Operand.tmp 70), type := 3, pos := "law.go:61", after := #[{ on := 22, ground := Ground.data }, { on := 17, ground := Ground.guard }], guard := some (17, false) }) (v := ?_) rfl (by kernel_rfl) (by kernel_rfl) (by kernel_rfl) (fun _ _ _ h => h) (Or.inl ⟨by rfl, ?_⟩) hH1 ?_
      rotate_left
      · intro w' hw'
        obtain ⟨⟨x0, x1, x2, x3, -, -, -, -, -, -, -⟩, ⟨y0, y1, y2, y3, -, -, -, -, -, -, -⟩, r1⟩ := hw'
        go_simp
        try with_reducible rfl
      try simp only [Act.put, List.setIfInBounds_toArray, List.set_cons_zero, List.set_cons_succ]
      refine wpAnyH_ready (rs := [19]) (by kernel_rfl) (by simp) ?_
      refine AllReadyH.cons (o := { dst := some 67, op := Op.call { callee := Callee.value (Operand.func 27), args := #[Operand.tmp 66], argTypes := #[48] }, type := 3, pos := "law.go:61", after := #[{ on := 18, ground := Ground.data }, { on := 17, ground := Ground.chain }, { on := 17, ground := Ground.guard }], guard := some (17, false) }) rfl (fun K hK => ?_) AllReadyH.nil
      go_simp
      refine (atRd E8.out.rd).mono ?_
      rintro e wq ⟨rfl, hwq⟩
      rw [hwq]
      refine hK.out _ _ ⟨X8.out.st4, Y8.out.st4, E8.out.rf.c1⟩ (fun hH2 => ?_)
      clear hK
      try simp only [Act.put, List.setIfInBounds_toArray, List.set_cons_zero, List.set_cons_succ]
      refine wpAnyH_take (i := 24) (oi := { dst := some 72, op := Op.binOp BinOp.eql 3 (Operand.tmp 67) (Operand.tmp 71) 3, type := 4, pos := "law.go:61", after := #[{ on := 19, ground := Ground.data }, { on := 23, ground := Ground.data }, { on := 17, ground := Ground.guard }], guard := some (17, false) }) (v := ?_) rfl (by kernel_rfl) (by kernel_rfl) (by kernel_rfl) (fun _ _ _ h => h) (Or.inl ⟨by rfl, ?_⟩) hH2 ?_
      rotate_left
      · intro w' hw'
        obtain ⟨⟨x0, x1, x2, x3, -, -, -, -, -, -, -⟩, ⟨y0, y1, y2, y3, -, -, -, -, -, -, -⟩, r1⟩ := hw'
        go_simp
        try with_reducible rfl
      try simp only [Act.put, List.setIfInBounds_toArray, List.set_cons_zero, List.set_cons_succ]
      refine wpAnyH_take (i := 25) (oi := { dst := some 73, op := Op.pick (Operand.tmp 65) (Operand.const (Value.bool true)) (Operand.tmp 72), type := 4, pos := "law.go:61", after := #[{ on := 17, ground := Ground.data }, { on := 24, ground := Ground.data }, { on := 14, ground := Ground.guard }], guard := some (14, true) }) (v := ?_) rfl (by kernel_rfl) (by kernel_rfl) (by kernel_rfl) (fun _ _ _ h => h) (Or.inl ⟨by rfl, ?_⟩) hH2 ?_
      rotate_left
      · intro w' hw'
        obtain ⟨⟨x0, x1, x2, x3, -, -, -, -, -, -, -⟩, ⟨y0, y1, y2, y3, -, -, -, -, -, -, -⟩, r1⟩ := hw'
        go_simp
        try with_reducible rfl
      try simp only [Act.put, List.setIfInBounds_toArray, List.set_cons_zero, List.set_cons_succ]
      refine wpAnyH_take (i := 26) (oi := { dst := some 74, op := Op.pick (Operand.tmp 62) (Operand.tmp 73) (Operand.const (Value.bool false)), type := 4, pos := "law.go:61", after := #[{ on := 14, ground := Ground.data }, { on := 25, ground := Ground.data }], guard := none }) (v := ?_) rfl (by kernel_rfl) (by kernel_rfl) (by kernel_rfl) (fun _ _ _ h => h) (Or.inl ⟨by rfl, ?_⟩) hH2 ?_
      rotate_left
      · intro w' hw'
        obtain ⟨⟨x0, x1, x2, x3, -, -, -, -, -, -, -⟩, ⟨y0, y1, y2, y3, -, -, -, -, -, -, -⟩, r1⟩ := hw'
        go_simp
        try with_reducible rfl
      try simp only [Act.put, List.setIfInBounds_toArray, List.set_cons_zero, List.set_cons_succ]
      refine wpAnyH_take (i := 27) (oi := { dst := some 75, op := Op.move (Operand.tmp 74), type := 4, pos := "law.go:61", after := #[{ on := 26, ground := Ground.data }, { on := 19, ground := Ground.chain }], guard := none }) (v := ?_) rfl (by kernel_rfl) (by kernel_rfl) (by kernel_rfl) (fun _ _ _ h => h) (Or.inl ⟨by rfl, ?_⟩) hH2 ?_
      rotate_left
      · intro w' hw'
        obtain ⟨⟨x0, x1, x2, x3, -, -, -, -, -, -, -⟩, ⟨y0, y1, y2, y3, -, -, -, -, -, -, -⟩, r1⟩ := hw'
        go_simp
        try with_reducible rfl
      try simp only [Act.put, List.setIfInBounds_toArray, List.set_cons_zero, List.set_cons_succ]
      refine wpAnyH_ready (rs := [28]) (by kernel_rfl) (by simp) ?_
      refine AllReadyH.cons (o := { dst := some 76, op := Op.call { callee := Callee.value (Operand.func 21), args := #[], argTypes := #[] }, type := 4, pos := "law.go:61", after := #[{ on := 27, ground := Ground.chain }, { on := 27, ground := Ground.guard }], guard := some (27, true) }) rfl (fun K hK => ?_) AllReadyH.nil
      go_simp
      refine (works_any _ E8.out.t).mono ?_
      rintro e w9 ⟨rfl, b9⟩
      have E9 := hide (E8.out.below b9)
      have X9 := hide (X8.out.below b9)
      have Y9 := hide (Y8.out.below b9)
      clear E8 X8 Y8
      refine hK.out _ _ ⟨X9.out.st4, Y9.out.st4, E9.out.rf.c1⟩ (fun hH3 => ?_)
      clear hK
      try simp only [Act.put, List.setIfInBounds_toArray, List.set_cons_zero, List.set_cons_succ]
      refine wpAnyH_take (i := 29) (oi := { dst := some 77, op := Op.pick (Operand.tmp 75) (Operand.tmp 76) (Operand.const (Value.bool false)), type := 4, pos := "law.go:61", after := #[{ on := 27, ground := Ground.data }, { on := 28, ground := Ground.data }], guard := none }) (v := ?_) rfl (by kernel_rfl) (by kernel_rfl) (by kernel_rfl) (fun _ _ _ h => h) (Or.inl ⟨by rfl, ?_⟩) hH3 ?_
      rotate_left
      · intro w' hw'
        obtain ⟨⟨x0, x1, x2, x3, -, -, -, -, -, -, -⟩, ⟨y0, y1, y2, y3, -, -, -, -, -, -, -⟩, r1⟩ := hw'
        go_simp
        try with_reducible rfl
      try simp only [Act.put, List.setIfInBounds_toArray, List.set_cons_zero, List.set_cons_succ]
      refine wpAnyH_take (i := 30) (oi := { dst := some 6, op := Op.assign (Operand.tmp 77), type := 4, pos := "law.go:61", after := #[{ on := 29, ground := Ground.data }, { on := 28, ground := Ground.chain }, { on := 0, ground := Ground.phase }, { on := 1, ground := Ground.phase }, { on := 2, ground := Ground.phase }, { on := 3, ground := Ground.phase }, { on := 4, ground := Ground.phase }, { on := 5, ground := Ground.phase }, { on := 6, ground := Ground.phase }, { on := 7, ground := Ground.phase }, { on := 8, ground := Ground.phase }, { on := 9, ground := Ground.phase }, { on := 10, ground := Ground.phase }, { on := 11, ground := Ground.phase }, { on := 12, ground := Ground.phase }, { on := 13, ground := Ground.phase }, { on := 14, ground := Ground.phase }, { on := 15, ground := Ground.phase }, { on := 16, ground := Ground.phase }, { on := 17, ground := Ground.phase }, { on := 18, ground := Ground.phase }, { on := 19, ground := Ground.phase }, { on := 20, ground := Ground.phase }, { on := 21, ground := Ground.phase }, { on := 22, ground := Ground.phase }, { on := 23, ground := Ground.phase }, { on := 24, ground := Ground.phase }, { on := 25, ground := Ground.phase }, { on := 26, ground := Ground.phase }, { on := 27, ground := Ground.phase }, { on := 28, ground := Ground.phase }, { on := 29, ground := Ground.phase }], guard := none }) (v := ?_) rfl (by kernel_rfl) (by kernel_rfl) (by kernel_rfl) (fun _ _ _ h => h) (Or.inl ⟨by rfl, ?_⟩) hH3 ?_
      rotate_left
      · intro w' hw'
        obtain ⟨⟨x0, x1, x2, x3, -, -, -, -, -, -, -⟩, ⟨y0, y1, y2, y3, -, -, -, -, -, -, -⟩, r1⟩ := hw'
        go_simp
        try with_reducible rfl
      try simp only [Act.put, List.setIfInBounds_toArray, List.set_cons_zero, List.set_cons_succ]
      refine wpAnyH_done (by kernel_rfl) ?_ _
      refine NoPanic.normal ?_
      go_wp2_with fail
      go_ret
      exact ⟨rfl, E9.out.bel⟩

theorem gets_walk (a0 : Option Addr) (len0 cap0 : Nat) (l0 : List Int) (n l a b k0 : Int) (w : World) (ht : Tab w) (H : Has w a0 len0 cap0 l0) (wn : (Lit.int .i64 n).wf = true) (wl : (Lit.int .u64 l).wf = true) (wa : (Lit.int .i64 a).wf = true) (wb : (Lit.int .i64 b).wf = true) (wk : (Lit.int .i64 k0).wf = true) :
    Calls Tryd.prog 4 #[.slice a0 len0 cap0, .agg #[.int .i64 n, .int .u64 l, .int .i64 a, .int .i64 b], .int .i64 k0] w fun e w' => e = .returned (.bool true) ∧ Below w.heap.size w w' :=
  gets_walk0 a0 len0 cap0 (min len0 100) (l0.take (min len0 100)) n l a b k0 w ht (H.front _ (by omega)) (by omega) H.le H.capb (by split <;> omega) wl wa wb wk
end Go.Proofs.YtmddkinecplooaaDoor
