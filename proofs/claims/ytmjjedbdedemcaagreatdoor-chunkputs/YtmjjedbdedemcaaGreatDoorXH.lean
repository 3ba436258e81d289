/-
  xor.Put.
-/
import Derived.Test.YtmjjedbdedemcaaGreatDoorXG
namespace Go.Proofs.YtmjjedbdedemcaaGreatDoor
open Go.RowKit
set_option linter.unusedVariables false

set_option linter.unusedSimpArgs false

/-- A box beside an object. -/
structure Kx (w : World) (p : Nat) (v : Value) (g : Nat) (t : TypeId) (xs : Array Value) : Prop where
  bx : Bx w g t xs
  nf : ¬ fp p v g
section
variable {w w' : World} {p g base : Nat} {v v' : Value} {t : TypeId} {xs : Array Value}
theorem Kx.below (h : Kx w p v g t xs) (hb : Below w.heap.size w w') : Kx w' p v g t xs := ⟨h.bx.below hb, h.nf⟩
theorem Kx.alloc (h : Kx w p v g t xs) (o : Obj) : Kx (w.alloc o) p v g t xs := ⟨h.bx.alloc o, h.nf⟩
theorem Kx.did (h : Kx w p v g t xs) (d : Did w w' base p v v') : Kx w' p v' g t xs := ⟨h.bx.did d h.nf, d.not h.bx.lt h.nf⟩
theorem Kx.drew (h : Kx w p v g t xs) : Kx w.drew p v g t xs := ⟨h.bx, h.nf⟩
theorem Kx.drewN (h : Kx w p v g t xs) (k : Nat) : Kx (w.drewN k) p v g t xs := ⟨h.bx, h.nf⟩
theorem Kx.but (h : Kx w p v g t xs) {k : Nat} (hb : But (fun i => i = k) w w') (hk : g ≠ k) : Kx w' p v g t xs := ⟨h.bx.but hb hk, h.nf⟩
theorem Kx.new {A n : Nat} (h : Wr w base p v A n) (t : TypeId) (xs : Array Value) : Kx (w.alloc (.cells xs t)) p v w.heap.size t xs := ⟨Bx.new w t xs, h.not (Nat.le_refl _)⟩
theorem Kx.new_at {A n : Nat} (h : Wr w base p v A n) {g : Nat} (hg : g = w.heap.size) (t : TypeId) (xs : Array Value) : Kx (w.alloc (.cells xs t)) p v g t xs := by subst hg; exact Kx.new h t xs
end
/-- A writer on its way from w0 to w. -/
structure WS (w0 w : World) (base p : Nat) (v0 v : Value) (A k : Nat) : Prop where
  wr : Wr w base p v A k
  d : Did w0 w base p v0 v
  t : TabX w
  b0 : 2 < base
  bw : base ≤ w0.heap.size
section
variable {w0 w w' : World} {base p A k A' k' : Nat} {v0 v v' : Value}
theorem WS.start (h : Wr w base p v A k) (ht : TabX w) (hb : 2 < base) : WS w w base p v v A k := ⟨h, Did.refl _ _ _ _, ht, hb, by have := h.lt; omega⟩
theorem WS.below (h : WS w0 w base p v0 v A k) (hb : Below w.heap.size w w') : WS w0 w' base p v0 v A k :=
  ⟨h.wr.below hb (Nat.le_refl _), h.d.post hb (by have := h.wr.lt; omega), h.t.below hb, h.b0, h.bw⟩
theorem WS.alloc (h : WS w0 w base p v0 v A k) (o : Obj) : WS w0 (w.alloc o) base p v0 v A k := h.below ((Below.refl _ _).alloc (Nat.le_refl _) _)
theorem WS.put (h : WS w0 w base p v0 v A k) (d : Did w w' base p v v') (hw : Wr w' base p v' A' k') : WS w0 w' base p v0 v' A' k' := ⟨hw, h.d.trans d, h.t.did d h.b0, h.b0, h.bw⟩
theorem WS.drew (h : WS w0 w base p v0 v A k) : WS w0 w.drew base p v0 v A k := ⟨h.wr.drew, h.d.drew, h.t, h.b0, h.bw⟩
theorem WS.drewN (h : WS w0 w base p v0 v A k) (j : Nat) : WS w0 (w.drewN j) base p v0 v A k := ⟨h.wr.drewN j, h.d.drewN j, h.t, h.b0, h.bw⟩
/-- A box that is new is written. -/
theorem WS.but (h : WS w0 w base p v0 v A k) {g : Nat} (hb : But (fun i => i = g) w w') (hg : w0.heap.size ≤ g) (hn : ¬ fp p v g) : WS w0 w' base p v0 v A k := by
  have hbw := h.bw
  have hlt := h.wr.lt
  have hbel : Below base w w' := hb.below (by omega) (fun i hi => by omega)
  refine ⟨?_, ⟨h.d.bel.trans hbel, h.d.but.trans hb (fun i hi e => by omega), h.d.own⟩, h.t.kept hbel h.b0, h.b0, h.bw⟩
  obtain ⟨m, O, H⟩ := h.wr
  exact ⟨m, O.kept hb (fun i hi => by rw [hi]; exact hn), H⟩
end

/-- A difference in its form. -/
theorem wdX {w : World} {base p A n0 : Nat} {v : Value} (h : Wr w base p v A n0) {a b x : Nat} (hw : OkW a b) (hx : x < 18446744073709551616) (hroom : n0 + 78 ≤ 524288) :
    Calls Tryz.prog 95 #[.pointer (some ⟨p, 0, none⟩), .agg #[.int .i64 ((dM a b x : Nat) : Int), .int .i64 ((dA a b x : Nat) : Int), .int .i64 ((dB a b x : Nat) : Int)], .int .u64 (x : Int)] w fun e w' => e = .returned (.int .i64 0) ∧ ∃ v', Wr w' base p v' (A * 2 ^ dN a b x + dX a b x) (n0 + dN a b x) ∧ Did w w' base p v v' := by
  by_cases h0 : x = 0
  · subst h0
    have e1 : dM a b 0 = 0 := by simp [dM]
    have e2 : dN a b 0 = 1 := by simp [dN]
    have e3 : dX a b 0 = 0 := by simp [dX]
    have e4 : dA a b 0 = a := by simp [dA]
    have e5 : dB a b 0 = b := by simp [dB]
    rw [e1, e2, e3, e4, e5]
    exact wd0 h (a := a) (b := b) (by rcases hw with h | h <;> omega) rfl (by decide) rfl (by omega)
  · obtain ⟨f1, f2, f3, f4⟩ := dS_facts hw h0 hx
    obtain ⟨g1, g2, g3⟩ := d_le hw h0 hx
    by_cases hin : inW a b x
    · have e1 : dM a b x = 2 := by simp [dM, h0, hin]
      have e2 : dN a b x = 2 + dS a b x := by simp [dN, h0, hin]
      have e3 : dX a b x = 2 * 2 ^ dS a b x + x / 2 ^ dB a b x := by simp [dX, h0, hin]
      have := wd2 h (a := dA a b x) (b := dB a b x) (s := dS a b x) (x := x) (by omega) f1 hx rfl (by omega)
      rw [Nat.mod_eq_of_lt f4] at this
      rw [e1, e2, e3]
      exact this
    · have e1 : dM a b x = 3 := by simp [dM, h0, hin]
      have e2 : dN a b x = 14 + dS a b x := by simp [dN, h0, hin]
      have e3 : dX a b x = (12288 + 64 * lz x + (dS a b x - 1)) * 2 ^ dS a b x + x / 2 ^ dB a b x := by simp [dX, h0, hin]
      have e4 : dA a b x = lz x := by simp [dA, h0, hin]
      have hl := lz_le x
      have := wd3 h (a := dA a b x) (b := dB a b x) (s := dS a b x) (s1 := dS a b x - 1) (x := x) (by omega) f1 (by omega) hx rfl (by omega)
      rw [Nat.mod_eq_of_lt f4] at this
      rw [e1, e2, e3]
      have e6 : ((3 % 2 ^ 2) * 2 ^ 6 + dA a b x % 2 ^ 6) * 2 ^ 6 + (dS a b x - 1) % 2 ^ 6 = 12288 + 64 * lz x + (dS a b x - 1) := by
        rw [e4]
        have h1 : lz x % 2 ^ 6 = lz x := Nat.mod_eq_of_lt (by omega)
        have h2 : (dS a b x - 1) % 2 ^ 6 = dS a b x - 1 := Nat.mod_eq_of_lt (by omega)
        rw [h1, h2]
        omega
      rw [e6] at this
      exact this

set_option maxRecDepth 100000 in
set_option maxHeartbeats 4000000 in
theorem write0 {w : World} {base p A n0 : Nat} {v : Value} (h : Wr w base p v A n0) (ht : TabX w) (hb0 : 2 < base) {L a b V : Nat} (hV : V < 18446744073709551616) (hroom : n0 + 78 ≤ 524288) :
    Calls Tryz.prog 69 #[.pointer (some ⟨p, 0, none⟩), .agg #[.int .i64 0, .int .u64 (L : Int), .int .i64 (a : Int), .int .i64 (b : Int)], .int .u64 (V : Int)] w fun e w' => e = .returned (.tuple #[.agg #[.int .i64 (a : Int), .int .i64 (b : Int)], .int .i64 0]) ∧ ∃ v', Wr w' base p v' (A * 2 ^ 64 + V) (n0 + 64) ∧ Did w w' base p v v' := by
  have E0 := WS.start h ht hb0
  have S1 := (Kx.new h 61 #[.int .i64 0, .int .u64 (L : Int), .int .i64 (a : Int), .int .i64 (b : Int)]).alloc (.cells #[.int .i64 0, .int .i64 0] 116)
  have E1 := E0.alloc (.cells #[.int .i64 0, .int .u64 (L : Int), .int .i64 (a : Int), .int .i64 (b : Int)] 61)
  have R1 := hide (Kx.new_at E1.wr (g := w.heap.size + 1) (by simp) 116 #[.int .i64 0, .int .i64 0])
  have E2 := hide (E1.alloc (.cells #[.int .i64 0, .int .i64 0] 116))
  replace S1 := hide S1
  have WO := hide (windowOf_any 0 (L : Int) (a : Int) (b : Int))
  have hmod := hide (Nat.mod_eq_of_lt (show V < 2 ^ 64 from hV))
  replace hV := hide hV
  replace hroom := hide hroom
  replace hb0 := hide hb0
  clear E0 E1 h ht
  go_enter Tryz.func69, Tryz.ntmps69
  go_wp2_with fail
  refine (WO.out _).mono ?_
  rintro e w3 ⟨rfl, b3⟩
  have E3 := hide ((E2.out.below b3).alloc (.cells #[.int .u64 (V : Int), .int .i64 64] 151))
  have R3 := hide ((R1.out.below b3).alloc (.cells #[.int .u64 (V : Int), .int .i64 64] 151))
  have N3 := hide (Kx.new (E2.out.below b3).wr 151 #[.int .u64 (V : Int), .int .i64 64])
  have P := hide (put1 (x0 := V) (s0 := 64) E3.out.wr N3.out.bx N3.out.nf rfl rfl (by decide) hV.out (by have := hroom.out; omega))
  rw [hmod.out] at P
  clear E2 S1 R1 WO N3 b3
  go_wp2_with fail
  refine P.out.mono ?_
  rintro e w4 ⟨rfl, v4, W4, D4⟩
  have E4 := hide (E3.out.put D4 W4)
  have R4 := hide (R3.out.did D4)
  clear P E3 R3 W4 D4
  have X2 := (R4.out.bx.set2 (.int .i64 (a : Int)) (.int .i64 (b : Int))).st2
  have FIN := hide (E4.out.but (but_set2 w4 (w.heap.size + 1) (.int .i64 (a : Int)) (.int .i64 (b : Int))) (by omega) R4.out.nf)
  obtain ⟨p0, p1, p2, p3, p4⟩ := R4.out.bx.st2
  have o0 := X2.c0
  have o1 := X2.c1
  clear X2
  go_wp2_with fail
  refine bodyPost_ret (v := .tuple #[.agg #[.int .i64 (a : Int), .int .i64 (b : Int)], .int .i64 0]) (by simp [results, Tryz.f69, go_sem, o0, o1]) rfl ?_
  exact ⟨rfl, v4, FIN.out.wr, FIN.out.d⟩

set_option maxRecDepth 100000 in
set_option maxHeartbeats 4000000 in
theorem write1 {w : World} {base p A n0 : Nat} {v : Value} (h : Wr w base p v A n0) (ht : TabX w) (hb0 : 2 < base) {n L a b V : Nat} (hn : n ≠ 0) (hs : OkSX n a b) (hL : L < 18446744073709551616) (hV : V < 18446744073709551616) (hroom : n0 + 78 ≤ 524288) :
    Calls Tryz.prog 69 #[.pointer (some ⟨p, 0, none⟩), .agg #[.int .i64 (n : Int), .int .u64 (L : Int), .int .i64 (a : Int), .int .i64 (b : Int)], .int .u64 (V : Int)] w fun e w' => e = .returned (.tuple #[.agg #[.int .i64 ((dA a b (V ^^^ L) : Nat) : Int), .int .i64 ((dB a b (V ^^^ L) : Nat) : Int)], .int .i64 0]) ∧ ∃ v', Wr w' base p v' (A * 2 ^ dN a b (V ^^^ L) + dX a b (V ^^^ L)) (n0 + dN a b (V ^^^ L)) ∧ Did w w' base p v v' := by
  have E0 := WS.start h ht hb0
  have S1 := (Kx.new h 61 #[.int .i64 (n : Int), .int .u64 (L : Int), .int .i64 (a : Int), .int .i64 (b : Int)]).alloc (.cells #[.int .i64 0, .int .i64 0] 116)
  have E1 := E0.alloc (.cells #[.int .i64 (n : Int), .int .u64 (L : Int), .int .i64 (a : Int), .int .i64 (b : Int)] 61)
  have R1 := hide (Kx.new_at E1.wr (g := w.heap.size + 1) (by simp) 116 #[.int .i64 0, .int .i64 0])
  have E2 := hide (E1.alloc (.cells #[.int .i64 0, .int .i64 0] 116))
  replace S1 := hide S1
  have WO := hide (windowOf_any (n : Int) (L : Int) (a : Int) (b : Int))
  have hxor := u64_xor_nat V L hV hL
  have hx := xor64 hV hL
  have FO := hide (fun w => formOf_any (V ^^^ L) a b w hx (by rcases hs.w with h | h <;> omega) (by rcases hs.w with h | h <;> omega))
  have WD := hide (fun w A v h => wdX (w := w) (base := base) (p := p) (A := A) (n0 := n0) (v := v) h hs.w hx hroom)
  have i0 : ¬ (n : Int) = 0 := by omega
  clear E0 E1 h ht hs hL hV
  generalize V ^^^ L = x at *
  generalize dM a b x = m' at *
  generalize dA a b x = a' at *
  generalize dB a b x = b' at *
  generalize dN a b x = N' at *
  generalize dX a b x = X' at *
  replace hroom := hide hroom
  replace hb0 := hide hb0
  replace hx := hide hx
  go_enter Tryz.func69, Tryz.ntmps69
  go_wp2_with fail
  refine (WO.out _).mono ?_
  rintro e w3 ⟨rfl, b3⟩
  have E3 := hide (E2.out.below b3)
  have R3 := hide (R1.out.below b3)
  clear E2 S1 R1 WO b3
  go_wp2_with fail
  refine (FO.out _ E3.out.t).mono ?_
  rintro e w4 ⟨rfl, b4⟩
  have E4 := hide ((E3.out.below b4).alloc (.cells #[.int .i64 (m' : Int), .int .i64 (a' : Int), .int .i64 (b' : Int)] 153))
  have R4 := hide ((R3.out.below b4).alloc (.cells #[.int .i64 (m' : Int), .int .i64 (a' : Int), .int .i64 (b' : Int)] 153))
  have F4 := hide (Kx.new (E3.out.below b4).wr 153 #[.int .i64 (m' : Int), .int .i64 (a' : Int), .int .i64 (b' : Int)])
  have hne : Hid (w4.heap.size ≠ w.heap.size + 1) := by have := R3.out.bx.lt; have := b4.size; show _ ≠ _; omega
  clear E3 R3 FO b4
  go_wp2_with fail
  have hw5 : ∃ w5, w5 = w4.alloc (.cells #[.int .i64 (m' : Int), .int .i64 (a' : Int), .int .i64 (b' : Int)] 153) := ⟨_, rfl⟩
  obtain ⟨w5, hw5⟩ := hw5
  obtain ⟨g5, hg5⟩ : ∃ g5, g5 = w4.heap.size := ⟨_, rfl⟩
  simp only [← hw5, ← hg5] at E4 R4 F4 hne ⊢
  clear hw5 hg5
  refine wp_region_noPanic ?_
  refine wp_region_held_drew (S := (fun w' => w'.cell? ⟨g5, 0, none⟩ = some (.int .i64 (m' : Int)) ∧ w'.cell? ⟨g5, 1, none⟩ = some (.int .i64 (a' : Int)) ∧ w'.cell? ⟨g5, 2, none⟩ = some (.int .i64 (b' : Int)))) (by kernel_rfl) ⟨F4.out.bx.st3.c0, F4.out.bx.st3.c1, F4.out.bx.st3.c2⟩ (fun hH0 => ?_)
  refine wpAnyH_take (i := 0) (oi := { dst := some 28, op := Op.fieldAddr 153 (Operand.tmp 9) 1, type := 0, pos := "xor.go:134", after := #[], guard := none }) (v := ?_) rfl (by kernel_rfl) (by kernel_rfl) (by kernel_rfl) (fun _ _ _ h => h) (Or.inl ⟨by rfl, ?_⟩) hH0 ?_
  rotate_left
  · intro w' hw'
    obtain ⟨c0, c1, c2⟩ := hw'
    go_simp
    try with_reducible rfl
  try simp only [Act.put, List.setIfInBounds_toArray, List.set_cons_zero, List.set_cons_succ]
  refine wpAnyH_take (i := 1) (oi := { dst := some 29, op := Op.load 116 (Operand.tmp 28), type := 116, pos := "xor.go:134", after := #[{ on := 0, ground := Ground.data }], guard := none }) (v := ?_) rfl (by kernel_rfl) (by kernel_rfl) (by kernel_rfl) (fun _ _ _ h => h) (Or.inl ⟨by rfl, ?_⟩) hH0 ?_
  rotate_left
  · intro w' hw'
    obtain ⟨c0, c1, c2⟩ := hw'
    go_simp
    try with_reducible rfl
  try simp only [Act.put, List.setIfInBounds_toArray, List.set_cons_zero, List.set_cons_succ]
  refine wpAnyH_take (i := 2) (oi := { dst := some 30, op := Op.move (Operand.tmp 0), type := 65, pos := "xor.go:134", after := #[], guard := none }) (v := ?_) rfl (by kernel_rfl) (by kernel_rfl) (by kernel_rfl) (fun _ _ _ h => h) (Or.inl ⟨by rfl, ?_⟩) hH0 ?_
  rotate_left
  · intro w' hw'
    obtain ⟨c0, c1, c2⟩ := hw'
    go_simp
    try with_reducible rfl
  try simp only [Act.put, List.setIfInBounds_toArray, List.set_cons_zero, List.set_cons_succ]
  refine wpAnyH_take (i := 3) (oi := { dst := some 31, op := Op.load 153 (Operand.tmp 9), type := 153, pos := "xor.go:134", after := #[], guard := none }) (v := ?_) rfl (by kernel_rfl) (by kernel_rfl) (by kernel_rfl) (fun _ _ _ h => h) (Or.inl ⟨by rfl, ?_⟩) hH0 ?_
  rotate_left
  · intro w' hw'
    obtain ⟨c0, c1, c2⟩ := hw'
    go_simp
    try with_reducible rfl
  try simp only [Act.put, List.setIfInBounds_toArray, List.set_cons_zero, List.set_cons_succ]
  refine wpAnyH_take (i := 4) (oi := { dst := some 32, op := Op.move (Operand.tmp 8), type := 31, pos := "xor.go:134", after := #[], guard := none }) (v := ?_) rfl (by kernel_rfl) (by kernel_rfl) (by kernel_rfl) (fun _ _ _ h => h) (Or.inl ⟨by rfl, ?_⟩) hH0 ?_
  rotate_left
  · intro w' hw'
    obtain ⟨c0, c1, c2⟩ := hw'
    go_simp
    try with_reducible rfl
  try simp only [Act.put, List.setIfInBounds_toArray, List.set_cons_zero, List.set_cons_succ]
  refine wpAnyH_ready (rs := [5]) (by kernel_rfl) (by simp) ?_
  refine AllReadyH.cons (o := { dst := some 33, op := Op.call { callee := Callee.value (Operand.func 95), args := #[Operand.tmp 30, Operand.tmp 31, Operand.tmp 32], argTypes := #[65, 153, 31] }, type := 25, pos := "xor.go:134", after := #[{ on := 2, ground := Ground.data }, { on := 3, ground := Ground.data }, { on := 4, ground := Ground.data }], guard := none }) rfl (fun K hK => ?_) AllReadyH.nil
  go_simp
  refine (WD.out _ _ _ E4.out.drew.wr).mono ?_
  rintro e w6 ⟨rfl, v6, W6, D6⟩
  have E6 := hide (E4.out.drew.put D6 W6)
  have R6 := hide (R4.out.drew.did D6)
  have F6 := hide (F4.out.drew.did D6)
  clear W6 D6 E4 R4 F4 WD
  refine hK.out _ _ ⟨F6.out.bx.st3.c0, F6.out.bx.st3.c1, F6.out.bx.st3.c2⟩ (fun hH1 => ?_)
  clear hK
  try simp only [Act.put, List.setIfInBounds_toArray, List.set_cons_zero, List.set_cons_succ]
  have X2 := (R6.out.bx.set2 (.int .i64 (a' : Int)) (.int .i64 (b' : Int))).st2
  have FIN := hide (E6.out.but (but_set2 w6 (w.heap.size + 1) (.int .i64 (a' : Int)) (.int .i64 (b' : Int))) (by omega) R6.out.nf)
  have F7 := hide (F6.out.but (but_set2 w6 (w.heap.size + 1) (.int .i64 (a' : Int)) (.int .i64 (b' : Int))) hne.out)
  obtain ⟨p0, p1, p2, p3, p4⟩ := R6.out.bx.st2
  have o0 := X2.c0
  have o1 := X2.c1
  clear X2
  refine wpAnyH_ready (rs := [6]) (by kernel_rfl) (by simp) ?_
  refine AllReadyH.cons (o := { dst := none, op := Op.store 116 (Operand.tmp 6) (Operand.tmp 29), type := 0, pos := "xor.go:134", after := #[{ on := 1, ground := Ground.data }, { on := 5, ground := Ground.chain }, { on := 0, ground := Ground.phase }, { on := 1, ground := Ground.phase }, { on := 2, ground := Ground.textOnly Departure.lateStores }, { on := 3, ground := Ground.textOnly Departure.lateStores }, { on := 4, ground := Ground.textOnly Departure.lateStores }, { on := 5, ground := Ground.textOnly Departure.lateStoresUnsure }], guard := none }) rfl (fun K hK => ?_) AllReadyH.nil
  go_simp
  refine hK.out _ _ ⟨F7.out.bx.st3.c0, F7.out.bx.st3.c1, F7.out.bx.st3.c2⟩ (fun hH2 => ?_)
  clear hK
  try simp only [Act.put, List.setIfInBounds_toArray, List.set_cons_zero, List.set_cons_succ]
  refine wpAnyH_take (i := 7) (oi := { dst := some 7, op := Op.assign (Operand.tmp 33), type := 25, pos := "xor.go:134", after := #[{ on := 5, ground := Ground.data }, { on := 6, ground := Ground.chain }, { on := 0, ground := Ground.phase }, { on := 1, ground := Ground.phase }, { on := 2, ground := Ground.phase }, { on := 3, ground := Ground.phase }, { on := 4, ground := Ground.phase }, { on := 5, ground := Ground.phase }, { on := 6, ground := Ground.phase }], guard := none }) (v := ?_) rfl (by kernel_rfl) (by kernel_rfl) (by kernel_rfl) (fun _ _ _ h => h) (Or.inl ⟨by rfl, ?_⟩) hH2 ?_
  rotate_left
  · intro w' hw'
    obtain ⟨c0, c1, c2⟩ := hw'
    go_simp
    try with_reducible rfl
  try simp only [Act.put, List.setIfInBounds_toArray, List.set_cons_zero, List.set_cons_succ]
  refine wpAnyH_done (by kernel_rfl) ?_ _
  refine NoPanic.normal ?_
  go_wp2_with fail
  refine bodyPost_ret (v := .tuple #[.agg #[.int .i64 (a' : Int), .int .i64 (b' : Int)], .int .i64 0]) (by simp [results, Tryz.f69, go_sem, o0, o1]) rfl ?_
  exact ⟨rfl, v6, FIN.out.wr, FIN.out.d⟩

theorem writeX {w : World} {base p A n0 : Nat} {v : Value} (h : Wr w base p v A n0) (ht : TabX w) (hb0 : 2 < base) {n L a b V : Nat} (hs : OkSX n a b) (hL : L < 18446744073709551616) (hV : V < 18446744073709551616) (hroom : n0 + 78 ≤ 524288) :
    Calls Tryz.prog 69 #[.pointer (some ⟨p, 0, none⟩), .agg #[.int .i64 (n : Int), .int .u64 (L : Int), .int .i64 (a : Int), .int .i64 (b : Int)], .int .u64 (V : Int)] w fun e w' => e = .returned (.tuple #[.agg #[.int .i64 ((cA n L a b V : Nat) : Int), .int .i64 ((cB n L a b V : Nat) : Int)], .int .i64 0]) ∧ ∃ v', Wr w' base p v' (A * 2 ^ cN n L a b V + cX n L a b V) (n0 + cN n L a b V) ∧ Did w w' base p v v' := by
  by_cases hn : n = 0
  · subst hn
    exact write0 h ht hb0 hV hroom
  · have := write1 h ht hb0 hn hs hL hV hroom
    unfold cA cB cN cX
    simp only [if_neg hn]
    exact this
set_option linter.unusedSimpArgs false

theorem okSI_ofX {n a b : Nat} (h : OkSX n a b) : okSIX (n : Int) (a : Int) (b : Int) = true := by
  have := h.n
  rcases h.w with h | h <;> simp [okSIX, isCnt, isWin] <;> omega
theorem okS_ofX {n a b : Int} (h : okSIX n a b = true) : ∃ n' a' b' : Nat, n = (n' : Int) ∧ a = (a' : Int) ∧ b = (b' : Int) ∧ OkSX n' a' b' := by
  simp [okSIX, isCnt, isWin] at h
  refine ⟨n.toNat, a.toNat, b.toNat, by omega, by omega, by omega, by omega, ?_⟩
  unfold OkW
  omega

set_option maxRecDepth 100000 in
set_option maxHeartbeats 4000000 in
theorem putX {w : World} {base p A n0 : Nat} {v : Value} (h : Wr w base p v A n0) (ht : TabX w) (hb0 : 2 < base) {n L a b V : Nat} (hs : OkSX n a b) (hL : L < 18446744073709551616) (hV : V < 18446744073709551616) (hroom : n0 + 78 ≤ 524288) :
    Calls Tryz.prog 50 #[.pointer (some ⟨p, 0, none⟩), .agg #[.int .i64 (n : Int), .int .u64 (L : Int), .int .i64 (a : Int), .int .i64 (b : Int)], .int .u64 (V : Int)] w fun e w' =>
      e = .returned (.tuple #[.agg #[.int .i64 ((n + 1 : Nat) : Int), .int .u64 (V : Int), .int .i64 ((cA n L a b V : Nat) : Int), .int .i64 ((cB n L a b V : Nat) : Int)], .int .i64 0]) ∧ ∃ v', Wr w' base p v' (A * 2 ^ cN n L a b V + cX n L a b V) (n0 + cN n L a b V) ∧ Did w w' base p v v' := by
  have E0 := WS.start h ht hb0
  have S1 := (Kx.new h 61 #[.int .i64 (n : Int), .int .u64 (L : Int), .int .i64 (a : Int), .int .i64 (b : Int)]).alloc (.cells #[.int .i64 0, .int .u64 0, .int .i64 0, .int .i64 0] 61)
  have E1 := E0.alloc (.cells #[.int .i64 (n : Int), .int .u64 (L : Int), .int .i64 (a : Int), .int .i64 (b : Int)] 61)
  have R1 := hide (Kx.new_at E1.wr (g := w.heap.size + 1) (by simp) 61 #[.int .i64 0, .int .u64 0, .int .i64 0, .int .i64 0])
  have E2 := hide (E1.alloc (.cells #[.int .i64 0, .int .u64 0, .int .i64 0, .int .i64 0] 61))
  replace S1 := hide S1
  have P1 := hide (putWr E2.out.wr 0 0 (by decide) (by decide) (by omega))
  have hsi := okSI_ofX hs
  have M := hide (fun w => mayBe_anyX (n : Int) (L : Int) (a : Int) (b : Int) w (by rcases hs.w with h | h <;> omega) (by rcases hs.w with h | h <;> omega))
  rw [hsi] at M
  have WR := hide (fun w v h ht => writeX (w := w) (base := base) (p := p) (A := A) (n0 := n0) (v := v) h ht hb0 hs hL hV hroom)
  have BE := hide (fun a' b' w => behind_anyX (n : Int) (L : Int) (a : Int) (b : Int) (V : Int) a' b' ((n + 1 : Nat) : Int) w (by omega) (by have := hs.n; omega) (by omega))
  clear E0 E1 h ht hs hL hV hsi
  replace hroom := hide hroom
  replace hb0 := hide hb0
  generalize n + 1 = n1 at *
  generalize cA n L a b V = a' at *
  generalize cB n L a b V = b' at *
  generalize cN n L a b V = N' at *
  generalize cX n L a b V = X' at *
  go_enter Tryz.func50, Tryz.ntmps50
  go_wp2_with fail
  refine P1.out.mono ?_
  rintro e w2 ⟨rfl, v2, W2, D2⟩
  simp only [Nat.pow_zero, Nat.mul_one, Nat.mod_one, Nat.add_zero] at W2
  have E3 := hide (E2.out.put D2 W2)
  have S3 := hide (S1.out.did D2)
  have R3 := hide (R1.out.did D2)
  clear P1 E2 S1 R1 W2 D2
  have s0 := S3.out.bx.st4.c0
  have s1 := S3.out.bx.st4.c1
  have s2 := S3.out.bx.st4.c2
  have s3 := S3.out.bx.st4.c3
  go_wp2_with fail
  refine (M.out _).mono ?_
  rintro e w3 ⟨rfl, b3⟩
  have E4 := hide (E3.out.below b3)
  have S4 := hide (S3.out.below b3)
  have R4 := hide (R3.out.below b3)
  clear E3 S3 R3 b3 M s0 s1 s2 s3
  have s0 := S4.out.bx.st4.c0
  have s1 := S4.out.bx.st4.c1
  have s2 := S4.out.bx.st4.c2
  have s3 := S4.out.bx.st4.c3
  go_wp2_with fail
  refine (WR.out _ _ E4.out.wr E4.out.t).mono ?_
  rintro e w5 ⟨rfl, v5, W5, D5⟩
  have E5 := hide ((E4.out.put D5 W5).alloc (.cells #[.int .i64 (a' : Int), .int .i64 (b' : Int)] 116))
  have S5 := hide ((S4.out.did D5).alloc (.cells #[.int .i64 (a' : Int), .int .i64 (b' : Int)] 116))
  have R5 := hide ((R4.out.did D5).alloc (.cells #[.int .i64 (a' : Int), .int .i64 (b' : Int)] 116))
  clear E4 S4 R4 W5 D5 WR s0 s1 s2 s3
  have s0 := S5.out.bx.st4.c0
  have s1 := S5.out.bx.st4.c1
  have s2 := S5.out.bx.st4.c2
  have s3 := S5.out.bx.st4.c3
  go_wp2_with fail
  refine (BE.out _ _ _).mono ?_
  rintro e w6 ⟨rfl, b6⟩
  have E6 := hide (E5.out.below b6)
  have R6 := hide (R5.out.below b6)
  clear E5 S5 R5 b6 BE s0 s1 s2 s3
  have X2 := (R6.out.bx.set4 (.int .i64 (n1 : Int)) (.int .u64 (V : Int)) (.int .i64 (a' : Int)) (.int .i64 (b' : Int))).st4
  have FIN := hide (E6.out.but (but_set4 w6 (w.heap.size + 1) (.int .i64 (n1 : Int)) (.int .u64 (V : Int)) (.int .i64 (a' : Int)) (.int .i64 (b' : Int))) (by omega) R6.out.nf)
  obtain ⟨p0, p1, p2, p3, p4, p5, p6, p7, p8, p9, p10⟩ := R6.out.bx.st4
  have o0 := X2.c0
  have o1 := X2.c1
  have o2 := X2.c2
  have o3 := X2.c3
  clear X2
  go_wp2_with fail
  refine bodyPost_ret (v := .tuple #[.agg #[.int .i64 (n1 : Int), .int .u64 (V : Int), .int .i64 (a' : Int), .int .i64 (b' : Int)], .int .i64 0]) (by simp [results, Tryz.f50, go_sem, o0, o1, o2, o3]) rfl ?_
  exact ⟨rfl, v5, FIN.out.wr, FIN.out.d⟩

theorem putXi {w : World} {base p A n0 : Nat} {v : Value} (h : Wr w base p v A n0) (ht : TabX w) (hb0 : 2 < base) {n L a b V a' b' X Y : Nat} {ni Li ai bi Vi ni' ai' bi' : Int} (hs : OkSX n a b) (hL : L < 18446744073709551616) (hV : V < 18446744073709551616) (hroom : n0 + 78 ≤ 524288)
    (e1 : (n : Int) = ni) (e2 : (L : Int) = Li) (e3 : (a : Int) = ai) (e4 : (b : Int) = bi) (e5 : (V : Int) = Vi) (e6 : ((n + 1 : Nat) : Int) = ni') (hA : cA n L a b V = a') (e7 : (a' : Int) = ai') (hB : cB n L a b V = b') (e8 : (b' : Int) = bi') (hY : cN n L a b V = Y) (hX : cX n L a b V = X) :
    Calls Tryz.prog 50 #[.pointer (some ⟨p, 0, none⟩), .agg #[.int .i64 ni, .int .u64 Li, .int .i64 ai, .int .i64 bi], .int .u64 Vi] w fun e w' =>
      e = .returned (.tuple #[.agg #[.int .i64 ni', .int .u64 Vi, .int .i64 ai', .int .i64 bi'], .int .i64 0]) ∧ ∃ v', Wr w' base p v' (A * 2 ^ Y + X) (n0 + Y) ∧ Did w w' base p v v' := by
  subst e1 e2 e3 e4 e5 e6 hA e7 hB e8 hY hX
  exact putX h ht hb0 hs hL hV hroom

set_option maxRecDepth 100000 in
set_option maxHeartbeats 4000000 in
theorem putX_no {w : World} {base p A n0 : Nat} {v : Value} (h : Wr w base p v A n0) (ht : TabX w) (hb0 : 2 < base) {n L a b V : Int} (hno : okSIX n a b = false) (ha : a ≤ 9223372036854775807) (hb : b ≤ 9223372036854775807) (hroom : n0 + 78 ≤ 524288) :
    Calls Tryz.prog 50 #[.pointer (some ⟨p, 0, none⟩), .agg #[.int .i64 n, .int .u64 L, .int .i64 a, .int .i64 b], .int .u64 V] w fun e w' =>
      e = .returned (.tuple #[.agg #[.int .i64 0, .int .u64 0, .int .i64 0, .int .i64 0], .int .i64 2]) ∧ ∃ v', Wr w' base p v' A n0 ∧ Did w w' base p v v' := by
  have E0 := WS.start h ht hb0
  have hz := zero24
  have S1 := (Kx.new h 61 #[.int .i64 n, .int .u64 L, .int .i64 a, .int .i64 b]).alloc (.cells #[.int .i64 0, .int .u64 0, .int .i64 0, .int .i64 0] 61)
  have E1 := E0.alloc (.cells #[.int .i64 n, .int .u64 L, .int .i64 a, .int .i64 b] 61)
  have R1 := hide (Kx.new_at E1.wr (g := w.heap.size + 1) (by simp) 61 #[.int .i64 0, .int .u64 0, .int .i64 0, .int .i64 0])
  have E2 := hide (E1.alloc (.cells #[.int .i64 0, .int .u64 0, .int .i64 0, .int .i64 0] 61))
  replace S1 := hide S1
  have P1 := hide (putWr E2.out.wr 0 0 (by decide) (by decide) (by omega))
  have M := hide (fun w => mayBe_anyX n L a b w ha hb)
  rw [hno] at M
  clear E0 E1 h ht hno
  replace hroom := hide hroom
  replace hb0 := hide hb0
  go_enter Tryz.func50, Tryz.ntmps50
  go_wp2_with fail
  refine P1.out.mono ?_
  rintro e w2 ⟨rfl, v2, W2, D2⟩
  simp only [Nat.pow_zero, Nat.mul_one, Nat.mod_one, Nat.add_zero] at W2
  have E3 := hide (E2.out.put D2 W2)
  have S3 := hide (S1.out.did D2)
  have R3 := hide (R1.out.did D2)
  clear P1 E2 S1 R1 W2 D2
  have s0 := S3.out.bx.st4.c0
  have s1 := S3.out.bx.st4.c1
  have s2 := S3.out.bx.st4.c2
  have s3 := S3.out.bx.st4.c3
  go_wp2_with fail
  refine (M.out _).mono ?_
  rintro e w6 ⟨rfl, b3⟩
  have E6 := hide (E3.out.below b3)
  have R6 := hide (R3.out.below b3)
  clear E3 S3 R3 b3 M s0 s1 s2 s3
  have X2 := (R6.out.bx.set4 (.int .i64 0) (.int .u64 0) (.int .i64 0) (.int .i64 0)).st4
  have FIN := hide (E6.out.but (but_set4 w6 (w.heap.size + 1) (.int .i64 0) (.int .u64 0) (.int .i64 0) (.int .i64 0)) (by omega) R6.out.nf)
  obtain ⟨p0, p1, p2, p3, p4, p5, p6, p7, p8, p9, p10⟩ := R6.out.bx.st4
  have o0 := X2.c0
  have o1 := X2.c1
  have o2 := X2.c2
  have o3 := X2.c3
  clear X2
  go_wp2_with fail
  refine bodyPost_ret (v := .tuple #[.agg #[.int .i64 0, .int .u64 0, .int .i64 0, .int .i64 0], .int .i64 2]) (by simp [results, Tryz.f50, go_sem, o0, o1, o2, o3]) rfl ?_
  exact ⟨rfl, v2, FIN.out.wr, FIN.out.d⟩

end Go.Proofs.YtmjjedbdedemcaaGreatDoor
