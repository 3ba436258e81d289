/-
  A sample is put behind others: states.put.
-/
import Derived.Test.YtmjjedbdedemcaaGreatDoorTC
import Derived.Test.YtmjjedbdedemcaaGreatDoorXH
import Derived.Laws.CopyRow
import Derived.Laws.Tables
namespace Go.Proofs.YtmjjedbdedemcaaGreatDoor
open Go.RowKit
set_option linter.unusedVariables false
set_option linter.unusedSimpArgs false

/-- The three tables, as they lie. -/
structure Tabs (w : World) : Prop where
  c : Tab w
  s : TabS w
  x : TabX w
theorem Tabs.kept {w w' : World} {B : Nat} (h : Tabs w) (hb : Below B w w') (hB : 2 < B) : Tabs w' := ⟨h.c.kept hb (by omega), h.s.kept hb (by omega), h.x.kept hb hB⟩
theorem Tabs.pos {w : World} (h : Tabs w) : 2 < w.heap.size := h.x.pos
theorem Tabs.below {w w' : World} (h : Tabs w) (hb : Below w.heap.size w w') : Tabs w' := h.kept hb h.pos
theorem Tabs.did {w w1 : World} {base p : Nat} {v v1 : Value} (h : Tabs w) (d : Did w w1 base p v v1) (hb : 2 < base) : Tabs w1 := h.kept d.bel hb
/-- A writer on its way from w0 to w. -/
structure WC (w0 w : World) (base p : Nat) (v0 v : Value) (A k : Nat) : Prop where
  wr : Wr w base p v A k
  d : Did w0 w base p v0 v
  t : Tabs w
  b0 : 2 < base
  bw : base ≤ w0.heap.size
section
variable {w0 w w' : World} {base p A k A' k' : Nat} {v0 v v' : Value}
theorem WC.start (h : Wr w base p v A k) (ht : Tabs w) (hb : 2 < base) : WC w w base p v v A k := ⟨h, Did.refl _ _ _ _, ht, hb, by have := h.lt; omega⟩
theorem WC.below (h : WC w0 w base p v0 v A k) (hb : Below w.heap.size w w') : WC w0 w' base p v0 v A k :=
  ⟨h.wr.below hb (Nat.le_refl _), h.d.post hb (by have := h.wr.lt; omega), h.t.below hb, h.b0, h.bw⟩
theorem WC.alloc (h : WC w0 w base p v0 v A k) (o : Obj) : WC w0 (w.alloc o) base p v0 v A k := h.below ((Below.refl _ _).alloc (Nat.le_refl _) _)
theorem WC.put (h : WC w0 w base p v0 v A k) (d : Did w w' base p v v') (hw : Wr w' base p v' A' k') : WC w0 w' base p v0 v' A' k' := ⟨hw, h.d.trans d, h.t.did d h.b0, h.b0, h.bw⟩
theorem WC.drew (h : WC w0 w base p v0 v A k) : WC w0 w.drew base p v0 v A k := ⟨h.wr.drew, h.d.drew, ⟨h.t.c, h.t.s, h.t.x⟩, h.b0, h.bw⟩
theorem WC.but (h : WC w0 w base p v0 v A k) {g : Nat} (hb : But (fun i => i = g) w w') (hg : w0.heap.size ≤ g) (hn : ¬ fp p v g) : WC w0 w' base p v0 v A k := by
  have hbw := h.bw
  have hlt := h.wr.lt
  have hbel : Below base w w' := hb.below (by omega) (fun i hi => by omega)
  refine ⟨?_, ⟨h.d.bel.trans hbel, h.d.but.trans hb (fun i hi e => by omega), h.d.own⟩, h.t.kept hbel h.b0, h.b0, h.bw⟩
  obtain ⟨m, O, H⟩ := h.wr
  exact ⟨m, O.kept hb (fun i hi => by rw [hi]; exact hn), H⟩
end
theorem but_setRow (w : World) (g : Nat) (cs : Array Value) : But (fun i => i = g) w (w.setRow g cs) := by
  refine ⟨rfl, rfl, rfl, by simp [World.setRow], fun k hk hn => setRow_other w g k cs hn⟩
theorem Bx.setRow {w : World} {g : Nat} {t : TypeId} {xs : Array Value} (h : Bx w g t xs) (cs : Array Value) : Bx (w.setRow g cs) g t cs := setRow_heap w g xs cs t (0, 0) h
theorem Bx.cell {w : World} {g : Nat} {t : TypeId} {xs : Array Value} (h : Bx w g t xs) (i : Nat) : w.cell? ⟨g, i, none⟩ = xs[i]? := by simp [World.cell?, show w.heap[g]? = _ from h]
/-- The states as values. -/
def zA (z : Z) : Array Value := #[.int .i64 (z.n : Int), .int .i64 (z.L : Int), .int .i64 (z.D : Int), .int .i64 (z.n : Int), .int .u64 (z.U : Int), .int .i64 (z.a : Int), .int .i64 (z.b : Int)]
def z7 : Array Value := #[.int .i64 0, .int .i64 0, .int .i64 0, .int .i64 0, .int .u64 0, .int .i64 0, .int .i64 0]
theorem zeroSts : (Tryz.prog.info? 63).map (·.zero) = some (some (.agg #[.int .i64 0, .int .i64 0, .int .i64 0, .int .i64 0, .int .u64 0, .int .i64 0, .int .i64 0])) := by kernel_rfl
theorem sizeSts : (Tryz.prog.info? 63).map (·.size) = some 7 := by kernel_rfl

/-- States are stored. -/
theorem wpList_storeZ {ops : Array Oper} {rest : List Oper} {o : Oper} {a : Act} {w : World} {Q : Exit → Act → World → Prop} (hgd : o.guard = none) (x y : Operand) (ho : o.op = .store 63 x y)
    (g : Nat) (a0 a1 a2 a3 a4 a5 a6 : Int) (hx : a.eval x = .pointer (some ⟨g, 0, none⟩)) (hy : a.eval y = .agg #[.int .i64 a0, .int .i64 a1, .int .i64 a2, .int .i64 a3, .int .u64 a4, .int .i64 a5, .int .i64 a6])
    (t : TypeId) (b0 b1 b2 b3 b4 b5 b6 : Value) (hg : Bx w g t #[b0, b1, b2, b3, b4, b5, b6])
    (h : wpList Tryz.prog ops Q rest (a.put o.dst undef) (w.setRow g #[.int .i64 a0, .int .i64 a1, .int .i64 a2, .int .i64 a3, .int .u64 a4, .int .i64 a5, .int .i64 a6])) : wpList Tryz.prog ops Q (o :: rest) a w :=
  wpList_store_row hgd 63 x y ho g _ hx hy t _ hg (by rw [sizeSts]; rfl) rfl (by simp [Value.oneCell']) h

set_option maxHeartbeats 4000000 in
set_option maxRecDepth 100000 in
theorem cput {w : World} {base p A n0 : Nat} {v : Value} (h : Wr w base p v A n0) (hT : Tabs w) (hb0 : 2 < base) {z : Z} {s : Sm} (hz : OkZ z) (hs : OkN z s) (hroom : n0 + 130 ≤ 524288) :
    Calls Tryz.prog 28 #[.agg (zA z), .pointer (some ⟨p, 0, none⟩), .agg #[.int .i64 (s.1 : Int), .int .u64 (s.2 : Int)]] w fun e w' =>
      e = .returned (.tuple #[.agg (zA (nxt z s)), .int .i64 0]) ∧ ∃ v', Wr w' base p v' (A * 2 ^ kN z s + kX z s) (n0 + kN z s) ∧ Did w w' base p v v' := by
  have hk1 := kT_le z s
  have hk2 := kV_le hz hs
  obtain ⟨n, L, D, U, a, b⟩ := z
  obtain ⟨t, x⟩ := s
  obtain ⟨hz1, hz2, hz3⟩ := hz
  obtain ⟨hs1, hs2⟩ := hs
  simp only at hz1 hz2 hz3 hs1 hs2
  unfold kN kX nxt zA
  simp only [kT, kV] at hk1 hk2 ⊢
  have E0 := WC.start h hT hb0
  have K1 := Kx.new h 63 #[.int .i64 (n : Int), .int .i64 (L : Int), .int .i64 (D : Int), .int .i64 (n : Int), .int .u64 (U : Int), .int .i64 (a : Int), .int .i64 (b : Int)]
  have E1 := E0.alloc (.cells #[.int .i64 (n : Int), .int .i64 (L : Int), .int .i64 (D : Int), .int .i64 (n : Int), .int .u64 (U : Int), .int .i64 (a : Int), .int .i64 (b : Int)] 63)
  have S1 := Kx.new_at E1.wr (g := w.heap.size + 1) (by simp) 33 #[.int .i64 (t : Int), .int .u64 (x : Int)]
  have E2 := E1.alloc (.cells #[.int .i64 (t : Int), .int .u64 (x : Int)] 33)
  have R1 := hide (Kx.new_at E2.wr (g := w.heap.size + 1 + 1) (by simp) 63 #[.int .i64 0, .int .i64 0, .int .i64 0, .int .i64 0, .int .u64 0, .int .i64 0, .int .i64 0])
  have E3 := hide (E2.alloc (.cells #[.int .i64 0, .int .i64 0, .int .i64 0, .int .i64 0, .int .u64 0, .int .i64 0, .int .i64 0] 63))
  replace K1 := hide ((K1.alloc (.cells #[.int .i64 (t : Int), .int .u64 (x : Int)] 33)).alloc (.cells #[.int .i64 0, .int .i64 0, .int .i64 0, .int .i64 0, .int .u64 0, .int .i64 0, .int .i64 0] 63))
  replace S1 := hide (S1.alloc (.cells #[.int .i64 0, .int .i64 0, .int .i64 0, .int .i64 0, .int .u64 0, .int .i64 0, .int .i64 0] 63))
  clear E0 E1 E2
  have P1 := hide (putS E3.out.wr E3.out.t.s (by omega) hz1 hs1 (by omega))
  have P2 := hide (fun w v A n0 h ht hr => putX (w := w) (base := base) (p := p) (A := A) (n0 := n0) (v := v) h ht hb0 (n := n) (L := U) (a := a) (b := b) (V := x) hz2 hz3 hs2 hr)
  have hzz := zeroSts
  clear h hT
  generalize dl n L t = q at *
  generalize cdN n L D t = N1 at *
  generalize cdX n L D t = X1 at *
  generalize cA n U a b x = a' at *
  generalize cB n U a b x = b' at *
  generalize cN n U a b x = N2 at *
  generalize cX n U a b x = X2 at *
  replace hk1 := hide hk1
  replace hk2 := hide hk2
  replace hroom := hide hroom
  replace hb0 := hide hb0
  have k0 := K1.out.bx.cell 0
  have k1 := K1.out.bx.cell 1
  have k2 := K1.out.bx.cell 2
  have s0 := S1.out.bx.cell 0
  simp only [List.getElem?_toArray, List.getElem?_cons_zero, List.getElem?_cons_succ] at k0 k1 k2 s0
  go_enter Tryz.func28, Tryz.ntmps28
  go_wp2_with fail
  refine P1.out.mono ?_
  rintro e w4 ⟨rfl, v4, W4, D4⟩
  clear P1 k0 k1 k2 s0
  obtain ⟨n1, hn1⟩ : ∃ m, n + 1 = m := ⟨_, rfl⟩
  rw [hn1]
  replace hn1 := hide hn1
  have E4 := hide ((E3.out.put D4 W4).alloc (.cells #[.int .i64 (n1 : Int), .int .i64 (t : Int), .int .i64 (q : Int)] 60))
  have T4 := Kx.new W4 60 #[.int .i64 (n1 : Int), .int .i64 (t : Int), .int .i64 (q : Int)]
  have K4 := hide ((K1.out.did D4).alloc (.cells #[.int .i64 (n1 : Int), .int .i64 (t : Int), .int .i64 (q : Int)] 60))
  have S4 := hide ((S1.out.did D4).alloc (.cells #[.int .i64 (n1 : Int), .int .i64 (t : Int), .int .i64 (q : Int)] 60))
  have R4 := hide ((R1.out.did D4).alloc (.cells #[.int .i64 (n1 : Int), .int .i64 (t : Int), .int .i64 (q : Int)] 60))
  replace T4 := hide T4
  clear E3 K1 S1 R1 W4 D4
  have k3 := K4.out.bx.cell 3
  have k4 := K4.out.bx.cell 4
  have k5 := K4.out.bx.cell 5
  have k6 := K4.out.bx.cell 6
  have s1 := S4.out.bx.cell 1
  simp only [List.getElem?_toArray, List.getElem?_cons_zero, List.getElem?_cons_succ] at k3 k4 k5 k6 s1
  go_wp2_with fail
  refine (P2.out _ _ _ _ E4.out.wr E4.out.t.x (by have := hroom.out; have := hk1.out; omega)).mono ?_
  rintro e w6 ⟨rfl, v6, W6, D6⟩
  rw [hn1.out]
  clear P2 k3 k4 k5 k6 s1 K4 S4
  have E6 := hide ((E4.out.put D6 W6).alloc (.cells #[.int .i64 (n1 : Int), .int .u64 (x : Int), .int .i64 (a' : Int), .int .i64 (b' : Int)] 61))
  have X6 := Kx.new W6 61 #[.int .i64 (n1 : Int), .int .u64 (x : Int), .int .i64 (a' : Int), .int .i64 (b' : Int)]
  have T6 := hide ((T4.out.did D6).alloc (.cells #[.int .i64 (n1 : Int), .int .u64 (x : Int), .int .i64 (a' : Int), .int .i64 (b' : Int)] 61))
  have R6 := hide ((R4.out.did D6).alloc (.cells #[.int .i64 (n1 : Int), .int .u64 (x : Int), .int .i64 (a' : Int), .int .i64 (b' : Int)] 61))
  clear E4 T4 R4 W6 D6
  have t0 := T6.out.bx.cell 0
  have t1 := T6.out.bx.cell 1
  have t2 := T6.out.bx.cell 2
  have x0 := X6.bx.cell 0
  have x1 := X6.bx.cell 1
  have x2 := X6.bx.cell 2
  have x3 := X6.bx.cell 3
  simp only [List.getElem?_toArray, List.getElem?_cons_zero, List.getElem?_cons_succ] at t0 t1 t2 x0 x1 x2 x3
  clear X6
  have RR := hide (R6.out.bx.setRow #[.int .i64 (n1 : Int), .int .i64 (t : Int), .int .i64 (q : Int), .int .i64 (n1 : Int), .int .u64 (x : Int), .int .i64 (a' : Int), .int .i64 (b' : Int)])
  have EE := hide (E6.out.but (but_setRow _ (w.heap.size + 1 + 1) #[.int .i64 (n1 : Int), .int .i64 (t : Int), .int .i64 (q : Int), .int .i64 (n1 : Int), .int .u64 (x : Int), .int .i64 (a' : Int), .int .i64 (b' : Int)]) (by omega) R6.out.nf)
  go_wp2_with (refine wpList_storeZ rfl (.tmp 6) (.tmp 39) rfl (w.heap.size + 1 + 1) _ _ _ _ _ _ _ rfl rfl 63 _ _ _ _ _ _ _ R6.out.bx ?_)
  have o0 := RR.out.cell 0
  have o1 := RR.out.cell 1
  have o2 := RR.out.cell 2
  have o3 := RR.out.cell 3
  have o4 := RR.out.cell 4
  have o5 := RR.out.cell 5
  have o6 := RR.out.cell 6
  simp only [List.getElem?_toArray, List.getElem?_cons_zero, List.getElem?_cons_succ] at o0 o1 o2 o3 o4 o5 o6
  refine bodyPost_ret (v := .tuple #[.agg #[.int .i64 (n1 : Int), .int .i64 (t : Int), .int .i64 (q : Int), .int .i64 (n1 : Int), .int .u64 (x : Int), .int .i64 (a' : Int), .int .i64 (b' : Int)], .int .i64 0]) (by simp [results, Tryz.f28, go_sem, o0, o1, o2, o3, o4, o5, o6]) rfl ?_
  have FF := EE.out.wr
  refine ⟨by rw [hn1.out], v6, ?_, EE.out.d⟩
  rw [Nat.pow_add, ← Nat.mul_assoc, ← Nat.add_assoc, ← Nat.add_mul, ← Nat.add_assoc]
  exact FF
set_option maxHeartbeats 4000000 in
set_option maxRecDepth 100000 in
/-- A time that may not be is refused. -/
theorem cput_no {w : World} {base p A n0 : Nat} {v : Value} (h : Wr w base p v A n0) (hT : Tabs w) (hb0 : 2 < base) {z : Z} {t : Int} {x : Nat} (hno : okTI (z.n : Int) (z.L : Int) t = false) (hroom : n0 + 130 ≤ 524288) :
    Calls Tryz.prog 28 #[.agg (zA z), .pointer (some ⟨p, 0, none⟩), .agg #[.int .i64 t, .int .u64 (x : Int)]] w fun e w' =>
      e = .returned (.tuple #[.agg z7, .int .i64 60]) ∧ ∃ v', Wr w' base p v' A n0 ∧ Did w w' base p v v' := by
  obtain ⟨n, L, D, U, a, b⟩ := z
  unfold zA z7
  simp only at hno ⊢
  have E0 := WC.start h hT hb0
  have K1 := Kx.new h 63 #[.int .i64 (n : Int), .int .i64 (L : Int), .int .i64 (D : Int), .int .i64 (n : Int), .int .u64 (U : Int), .int .i64 (a : Int), .int .i64 (b : Int)]
  have E1 := E0.alloc (.cells #[.int .i64 (n : Int), .int .i64 (L : Int), .int .i64 (D : Int), .int .i64 (n : Int), .int .u64 (U : Int), .int .i64 (a : Int), .int .i64 (b : Int)] 63)
  have S1 := Kx.new_at E1.wr (g := w.heap.size + 1) (by simp) 33 #[.int .i64 t, .int .u64 (x : Int)]
  have E2 := E1.alloc (.cells #[.int .i64 t, .int .u64 (x : Int)] 33)
  have R1 := hide (Kx.new_at E2.wr (g := w.heap.size + 1 + 1) (by simp) 63 #[.int .i64 0, .int .i64 0, .int .i64 0, .int .i64 0, .int .u64 0, .int .i64 0, .int .i64 0])
  have E3 := hide (E2.alloc (.cells #[.int .i64 0, .int .i64 0, .int .i64 0, .int .i64 0, .int .u64 0, .int .i64 0, .int .i64 0] 63))
  replace K1 := hide ((K1.alloc (.cells #[.int .i64 t, .int .u64 (x : Int)] 33)).alloc (.cells #[.int .i64 0, .int .i64 0, .int .i64 0, .int .i64 0, .int .u64 0, .int .i64 0, .int .i64 0] 63))
  replace S1 := hide (S1.alloc (.cells #[.int .i64 0, .int .i64 0, .int .i64 0, .int .i64 0, .int .u64 0, .int .i64 0, .int .i64 0] 63))
  clear E0 E1 E2
  have P1 := hide (putS_no E3.out.wr E3.out.t.s (by omega) (n : Int) (L : Int) (D : Int) t (by rw [hno]; simp) (by omega))
  have hzz := zeroSts
  clear h hT
  replace hroom := hide hroom
  replace hb0 := hide hb0
  replace hno := hide hno
  have k0 := K1.out.bx.cell 0
  have k1 := K1.out.bx.cell 1
  have k2 := K1.out.bx.cell 2
  have s0 := S1.out.bx.cell 0
  simp only [List.getElem?_toArray, List.getElem?_cons_zero, List.getElem?_cons_succ] at k0 k1 k2 s0
  go_enter Tryz.func28, Tryz.ntmps28
  go_wp2_with fail
  refine P1.out.mono ?_
  rintro e w4 ⟨rfl, v4, W4, D4⟩
  clear P1 k0 k1 k2 s0
  have E4 := hide ((E3.out.put D4 W4).alloc (.cells #[.int .i64 0, .int .i64 0, .int .i64 0] 60))
  have R4 := hide ((R1.out.did D4).alloc (.cells #[.int .i64 0, .int .i64 0, .int .i64 0] 60))
  clear E3 K1 S1 R1 W4 D4
  have RR := hide (R4.out.bx.setRow #[.int .i64 0, .int .i64 0, .int .i64 0, .int .i64 0, .int .u64 0, .int .i64 0, .int .i64 0])
  have EE := hide (E4.out.but (but_setRow _ (w.heap.size + 1 + 1) #[.int .i64 0, .int .i64 0, .int .i64 0, .int .i64 0, .int .u64 0, .int .i64 0, .int .i64 0]) (by omega) R4.out.nf)
  go_wp2_with (refine wpList_storeZ rfl (.tmp 6) (.tmp 22) rfl (w.heap.size + 1 + 1) _ _ _ _ _ _ _ rfl rfl 63 _ _ _ _ _ _ _ R4.out.bx ?_)
  have o0 := RR.out.cell 0
  have o1 := RR.out.cell 1
  have o2 := RR.out.cell 2
  have o3 := RR.out.cell 3
  have o4 := RR.out.cell 4
  have o5 := RR.out.cell 5
  have o6 := RR.out.cell 6
  simp only [List.getElem?_toArray, List.getElem?_cons_zero, List.getElem?_cons_succ] at o0 o1 o2 o3 o4 o5 o6
  refine bodyPost_ret (v := .tuple #[.agg #[.int .i64 0, .int .i64 0, .int .i64 0, .int .i64 0, .int .u64 0, .int .i64 0, .int .i64 0], .int .i64 60]) (by simp [results, Tryz.f28, go_sem, o0, o1, o2, o3, o4, o5, o6]) rfl ?_
  exact ⟨rfl, v4, EE.out.wr, EE.out.d⟩
end Go.Proofs.YtmjjedbdedemcaaGreatDoor
