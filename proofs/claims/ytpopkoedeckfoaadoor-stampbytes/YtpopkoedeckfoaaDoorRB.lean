/-
  The reference's Bytes.
-/
import Derived.Test.YtpopkoedeckfoaaDoorSZ
import Derived.Test.YtpopkoedeckfoaaDoorSL
import Derived.Deep.RegionHeld3
import Derived.Deep.Cut
namespace Go.Proofs.YtpopkoedeckfoaaDoor
open Go.RowKit
set_option linter.unusedVariables false
set_option linter.unusedSimpArgs false

/-- The reference's writer, beside a box at g. -/
structure VB (w0 w : World) (base p g : Nat) (v0 v : Value) (M : List Bool) (a b c : Value) : Prop where
  s : Box3 w g a b c
  wr : RW w base p v M
  d : Did w0 w base p v0 v
  ns : ¬ fp p v g
  bg : base ≤ g
section
variable {w0 w w' : World} {base p g : Nat} {v0 v v' a b c : Value} {M M' : List Bool}
theorem VB.below (h : VB w0 w base p g v0 v M a b c) (hb : Below w.heap.size w w') : VB w0 w' base p g v0 v M a b c :=
  ⟨h.s.kept hb h.s.lt, h.wr.below hb (Nat.le_refl _), h.d.post hb (by have := h.wr.lt; have := h.wr.ge; omega), h.ns, h.bg⟩
theorem VB.drew (h : VB w0 w base p g v0 v M a b c) : VB w0 w.drew base p g v0 v M a b c :=
  ⟨h.s.drew, h.wr.drew, ⟨⟨h.d.bel.os, h.d.bel.tape, h.d.bel.output, h.d.bel.size, h.d.bel.block⟩, h.d.but.drew, h.d.own⟩, h.ns, h.bg⟩
theorem VB.put (h : VB w0 w base p g v0 v M a b c) (d : Did w w' base p v v') (hw : RW w' base p v' M') : VB w0 w' base p g v0 v' M' a b c :=
  ⟨h.s.did d h.ns, hw, h.d.trans d, d.not h.s.lt h.ns, h.bg⟩
theorem VB.set (h : VB w0 w base p g v0 v M a b c) (hg : w0.heap.size ≤ g) (x y z : Value) : VB w0 (((w.setCell ⟨g, 0, none⟩ x).setCell ⟨g, 1, none⟩ y).setCell ⟨g, 2, none⟩ z) base p g v0 v M x y z := by
  have hbt := but3 w g x y z
  have hl := h.wr.lt; have hge := h.wr.ge
  have hbel : Below base w (((w.setCell ⟨g, 0, none⟩ x).setCell ⟨g, 1, none⟩ y).setCell ⟨g, 2, none⟩ z) := hbt.below (by omega) (fun i hi => by rw [hi]; exact h.bg)
  exact ⟨h.s.set x y z, h.wr.kept hbt (fun i hi => by rw [hi]; exact h.ns), ⟨h.d.bel.trans hbel, h.d.but.trans hbt (fun i hi e => by omega), h.d.own⟩, h.ns, h.bg⟩
end
theorem Below.heap_alloc_cell {w : World} {p : Addr} {v : Value} (h : w.cell? p = some v) (o : Obj) : (w.alloc o).cell? p = some v :=
  (((Below.refl w.heap.size w).alloc (Nat.le_refl _) o).cell (p := p) (World.block_lt_of_cell? w _ h)).trans h

set_option maxRecDepth 100000 in
set_option maxHeartbeats 4000000 in
theorem rbytesT (w : World) (a : Option Addr) (len cap : Nat) (l : List Int) (hl : HasI w a len cap l) (hlen : len ≤ 61) :
    Calls Tryd.prog 28 #[.slice a len cap] w (BytesT l len w) := by
  have hz36 := zero36
  have hz29 : (Tryd.prog.info? 29).map (·.zero) = some (some (.agg #[.slice none 0 0])) := by kernel_rfl
  have hcap := hl.capb
  unfold maxLen at hcap
  have i1 : (len : Int) ≤ 61 := by omega
  have i2 : (len : Int) ≤ 4096 := by omega
  have B1 : Below w.heap.size w (w.alloc (.cells #[.slice none 0 0] 29)) := (Below.refl _ w).alloc (Nat.le_refl _) _
  have b2 : Hid (Below w.heap.size w (w.alloc (.cells #[.slice none 0 0] 29))) := B1
  have E0 : Hid (VB (w.alloc (.cells #[.slice none 0 0] 29)) ((w.alloc (.cells #[.slice none 0 0] 29)).alloc (.cells #[.int .i64 0, .int .i64 0, .int .i64 0] 36)) w.heap.size w.heap.size (w.heap.size + 1) (.slice none 0 0) (.slice none 0 0) [] (.int .i64 0) (.int .i64 0) (.int .i64 0)) := by
    have hrw : RW (w.alloc (.cells #[.slice none 0 0] 29)) w.heap.size w.heap.size (.slice none 0 0) [] := ⟨heap_alloc_new w _, Nat.le_refl _, World.ownsRow_nil _ _ _ _, by simp [Value.ownBlock]⟩
    have K1 : Below (w.heap.size + 1) (w.alloc (.cells #[.slice none 0 0] 29)) ((w.alloc (.cells #[.slice none 0 0] 29)).alloc (.cells #[.int .i64 0, .int .i64 0, .int .i64 0] 36)) := (Below.refl _ _).alloc (by simp) _
    exact ⟨Box3.new_at (by simp) _ _ _ 36, hrw.below K1 (by simp), (⟨Below.refl _ _, But.refl _ _, fun _ _ h => h⟩ : Did (w.alloc (.cells #[.slice none 0 0] 29)) (w.alloc (.cells #[.slice none 0 0] 29)) w.heap.size w.heap.size (.slice none 0 0) (.slice none 0 0)).post ((Below.refl _ _).alloc (Nat.le_refl _) _) (by simp), (fun h => by rcases h with h | h; omega; cases h), by omega⟩
  have hW0s : Hid ((w.alloc (.cells #[.slice none 0 0] 29)).heap.size = w.heap.size + 1) := by show _ = _; simp
  replace hl := hide hl
  clear B1
  go_enter Tryd.func28, Tryd.ntmps28
  go_wp2_with fail
  generalize hW2 : (w.alloc (.cells #[.slice none 0 0] 29)).alloc (.cells #[.int .i64 0, .int .i64 0, .int .i64 0] 36) = W2 at *
  clear hW2
  generalize w.alloc (.cells #[.slice none 0 0] 29) = W0 at *
  go_loopw [6] (fun iv wr => ∃ (i : Nat) (v : Value) (M : List Bool), i ≤ len ∧ iv = .int .i64 (i : Int) ∧ Hid (∀ j, j < i → okL l j) ∧ Hid (numB M = numP (fB l) (xB l) i ∧ M.length = posP (fB l) i) ∧ Hid (VB W0 wr w.heap.size w.heap.size (w.heap.size + 1) (.slice none 0 0) v M (.int .i64 (i : Int)) (.int .i64 ((tL l i : Nat) : Int)) (.int .i64 ((tD l i : Nat) : Int)))) (fun iv _ => len - (intOf iv).toNat)
  case atStart => exact ⟨0, _, [], Nat.zero_le _, rfl, (fun j hj => by omega), ⟨rfl, rfl⟩, E0⟩
  case round =>
    clear E0
    obtain ⟨i, v, M, hi, rfl, hok, hM, E⟩ := hrel
    have hpo := posB_le l i
    by_cases hlt : i < len
    · have j1 : (i : Int) < (len : Int) := by omega
      have j1' : (0 : Int) ≤ (i : Int) := by omega
      obtain ⟨b, off, rfl, hb, hcs⟩ := hl.out.cells (by omega)
      have hc : wr.cell? ⟨b, off + i, none⟩ = some (.int .i64 (l.getD i 0)) := by
        have B := b2.out.trans E.out.d.bel
        exact (B.cell (p := ⟨b, off + i, none⟩) hb).trans (hcs i hlt)
      have hbb : Hid (b < w.heap.size) := hb
      have s0 := E.out.s.c0
      have s1 := E.out.s.c1
      have s2 := E.out.s.c2
      clear hcs
      have hs := okL_S hok.out (show i ≤ 4096 by omega)
      have hMl := hM.out.2
      by_cases hti : okL l i
      · have hA := numB_next hs hti
        have hD := tD_next l i
        have hL := tL_next l i
        have hN : posP (fB l) i + cdN i (tL l i) (tD l i) (tT l i) = posP (fB l) (i + 1) := rfl
        have P : Hid (∀ wx : World, VB W0 wx w.heap.size w.heap.size (w.heap.size + 1) (.slice none 0 0) v M (.int .i64 (i : Int)) (.int .i64 ((tL l i : Nat) : Int)) (.int .i64 ((tD l i : Nat) : Int)) →
            Calls Tryd.prog 14 #[.pointer (some ⟨w.heap.size, 0, none⟩), .agg #[.int .i64 (i : Int), .int .i64 ((tL l i : Nat) : Int), .int .i64 ((tD l i : Nat) : Int)], .int .i64 ((tL l (i + 1) : Nat) : Int)] wx fun e w' =>
              e = .returned (.tuple #[.agg #[.int .i64 ((i + 1 : Nat) : Int), .int .i64 ((tL l (i + 1) : Nat) : Int), .int .i64 ((tD l (i + 1) : Nat) : Int)], .int .i64 0]) ∧ ∃ v' M', RW w' w.heap.size w.heap.size v' M' ∧ numB M' = numP (fB l) (xB l) (i + 1) ∧ M'.length = posP (fB l) (i + 1) ∧ Did wx w' w.heap.size w.heap.size v v') := fun wx h => by
          have := rputS h.wr hs (okL_T hti) (by omega)
          rw [hM.out.1, hMl, hA, hN, hD, ← hL] at this
          exact this
        rw [(okL_val hti).1, ← hL] at hc
        have hok' : Hid (∀ j, j < i + 1 → okL l j) := fun j hj => by
          rcases Nat.lt_or_ge j i with h | h
          · exact hok.out j h
          · obtain rfl : j = i := by omega
            exact hti
        replace hs := hide hs
        replace hti := hide hti
        replace hpo := hide hpo
        replace hA := hide hA
        replace hD := hide hD
        replace hL := hide hL
        replace hN := hide hN
        replace hMl := hide hMl
        obtain ⟨L1, hL1⟩ : ∃ x, tL l (i + 1) = x := ⟨_, rfl⟩
        obtain ⟨D1, hD1⟩ : ∃ x, tD l (i + 1) = x := ⟨_, rfl⟩
        obtain ⟨n1, hn1⟩ : ∃ x, i + 1 = x := ⟨_, rfl⟩
        obtain ⟨L0, hL0⟩ : ∃ x, tL l i = x := ⟨_, rfl⟩
        obtain ⟨D0, hD0⟩ : ∃ x, tD l i = x := ⟨_, rfl⟩
        obtain ⟨ti, hti2⟩ : ∃ x : Int, (L1 : Int) = x := ⟨_, rfl⟩
        rw [hL1, hti2] at hc
        rw [hL1, hD1, hn1, hti2, hL0, hD0] at P
        rw [hL0] at s1
        rw [hD0] at s2
        rw [hL0, hD0] at E
        rw [hn1] at hok'
        have j2 : (i : Int) + 1 = (n1 : Int) := by omega
        have j3 : n1 ≤ len := by omega
        have hLn : Hid (tL l n1 = L1 ∧ tD l n1 = D1) := by rw [← hn1]; exact ⟨hL1, hD1⟩
        replace hL1 := hide hL1
        replace hD1 := hide hD1
        replace hL0 := hide hL0
        replace hD0 := hide hD0
        replace hn1 := hide hn1
        replace hti2 := hide hti2
        go_upto_region 8 with fail
        refine wp_region_noPanic ?_
        refine wp_region_held_drew (S := fun w' => Box3 w' (w.heap.size + 1) (.int .i64 (i : Int)) (.int .i64 (L0 : Int)) (.int .i64 (D0 : Int)) ∧ w'.cell? ⟨b, off + i, none⟩ = some (.int .i64 ti)) (by kernel_rfl) ⟨E.out.s.drew, hc⟩ (fun hH0 => ?_)
        refine wpAnyH_take (i := 0) (oi := { dst := some 22, op := Op.move (Operand.tmp 4), type := 26, pos := "ref.go:120", after := #[], guard := none }) (v := ?_) rfl (by kernel_rfl) (by kernel_rfl) (by kernel_rfl) (fun _ _ _ h => h) (Or.inl ⟨by rfl, ?_⟩) hH0 ?_
        rotate_left
        · intro w' hw'
          obtain ⟨⟨q0, q1, q2, -, -, -, -⟩, x0⟩ := hw'
          go_simp
          try with_reducible rfl
        try simp only [Act.put, List.setIfInBounds_toArray, List.set_cons_zero, List.set_cons_succ]
        refine wpAnyH_take (i := 1) (oi := { dst := some 23, op := Op.load 36 (Operand.tmp 5), type := 36, pos := "ref.go:120", after := #[], guard := none }) (v := ?_) rfl (by kernel_rfl) (by kernel_rfl) (by kernel_rfl) (fun _ _ _ h => h) (Or.inl ⟨by rfl, ?_⟩) hH0 ?_
        rotate_left
        · intro w' hw'
          obtain ⟨⟨q0, q1, q2, -, -, -, -⟩, x0⟩ := hw'
          go_simp
          try with_reducible rfl
        try simp only [Act.put, List.setIfInBounds_toArray, List.set_cons_zero, List.set_cons_succ]
        refine wpAnyH_take (i := 2) (oi := { dst := some 24, op := Op.move (Operand.tmp 0), type := 57, pos := "ref.go:120", after := #[], guard := none }) (v := ?_) rfl (by kernel_rfl) (by kernel_rfl) (by kernel_rfl) (fun _ _ _ h => h) (Or.inl ⟨by rfl, ?_⟩) hH0 ?_
        rotate_left
        · intro w' hw'
          obtain ⟨⟨q0, q1, q2, -, -, -, -⟩, x0⟩ := hw'
          go_simp
          try with_reducible rfl
        try simp only [Act.put, List.setIfInBounds_toArray, List.set_cons_zero, List.set_cons_succ]
        refine wpAnyH_take (i := 3) (oi := { dst := some 25, op := Op.move (Operand.tmp 6), type := 3, pos := "ref.go:120", after := #[], guard := none }) (v := ?_) rfl (by kernel_rfl) (by kernel_rfl) (by kernel_rfl) (fun _ _ _ h => h) (Or.inl ⟨by rfl, ?_⟩) hH0 ?_
        rotate_left
        · intro w' hw'
          obtain ⟨⟨q0, q1, q2, -, -, -, -⟩, x0⟩ := hw'
          go_simp
          try with_reducible rfl
        try simp only [Act.put, List.setIfInBounds_toArray, List.set_cons_zero, List.set_cons_succ]
        refine wpAnyH_take (i := 4) (oi := { dst := some 26, op := Op.indexAddr 57 (Operand.tmp 24) (Operand.tmp 25), type := 0, pos := "ref.go:120", after := #[{ on := 2, ground := Ground.data }, { on := 3, ground := Ground.data }], guard := none }) (v := ?_) rfl (by kernel_rfl) (by kernel_rfl) (by kernel_rfl) (fun _ _ _ h => h) (Or.inl ⟨by rfl, ?_⟩) hH0 ?_
        rotate_left
        · intro w' hw'
          obtain ⟨⟨q0, q1, q2, -, -, -, -⟩, x0⟩ := hw'
          go_simp
          try with_reducible rfl
        try simp only [Act.put, List.setIfInBounds_toArray, List.set_cons_zero, List.set_cons_succ]
        refine wpAnyH_take (i := 5) (oi := { dst := some 27, op := Op.load 3 (Operand.tmp 26), type := 3, pos := "ref.go:120", after := #[{ on := 4, ground := Ground.data }], guard := none }) (v := ?_) rfl (by kernel_rfl) (by kernel_rfl) (by kernel_rfl) (fun _ _ _ h => h) (Or.inl ⟨by rfl, ?_⟩) hH0 ?_
        rotate_left
        · intro w' hw'
          obtain ⟨⟨q0, q1, q2, -, -, -, -⟩, x0⟩ := hw'
          go_simp
          try with_reducible rfl
        try simp only [Act.put, List.setIfInBounds_toArray, List.set_cons_zero, List.set_cons_succ]
        clear s0 s1 s2
        refine wpAnyH_ready (rs := [6, 10]) (by kernel_rfl) (by simp) ?_
        refine AllReadyH.cons (o := { dst := some 28, op := Op.call { callee := Callee.value (Operand.func 14), args := #[Operand.tmp 22, Operand.tmp 23, Operand.tmp 27], argTypes := #[26, 36, 3] }, type := 37, pos := "ref.go:120", after := #[{ on := 0, ground := Ground.data }, { on := 1, ground := Ground.data }, { on := 5, ground := Ground.data }], guard := none }) rfl (fun K hK => ?_) (AllReadyH.cons (o := { dst := some 7, op := Op.alloc 36, type := 0, pos := "ref.go:120", after := #[], guard := none }) rfl (fun K hK => ?_) AllReadyH.nil)
        · go_simp
          refine (P.out _ E.out.drew).mono ?_
          rintro e w3 ⟨rfl, v3, M3, W3, n3, l3, D3⟩
          replace n3 := hide n3
          replace l3 := hide l3
          have E3 := hide (E.out.drew.put D3 W3)
          have hc3 := hide ((D3.bel.cell (p := ⟨b, off + i, none⟩) hbb.out).trans (show wr.drew.cell? _ = _ from hc))
          clear W3 D3 P hc
          refine hK.out _ _ ⟨E3.out.s, hc3.out⟩ (fun hH1 => ?_)
          clear hK
          try simp only [Act.put, List.setIfInBounds_toArray, List.set_cons_zero, List.set_cons_succ]
          refine wpAnyH_take (i := 7) (oi := { dst := some 21, op := Op.move (Operand.tmp 28), type := 37, pos := "ref.go:120", after := #[{ on := 6, ground := Ground.data }], guard := none }) (v := ?_) rfl (by kernel_rfl) (by kernel_rfl) (by kernel_rfl) (fun _ _ _ h => h) (Or.inl ⟨by rfl, ?_⟩) hH1 ?_
          rotate_left
          · intro w' hw'
            obtain ⟨⟨q0, q1, q2, -, -, -, -⟩, x0⟩ := hw'
            go_simp
            try with_reducible rfl
          try simp only [Act.put, List.setIfInBounds_toArray, List.set_cons_zero, List.set_cons_succ]
          refine wpAnyH_take (i := 8) (oi := { dst := some 29, op := Op.extract (Operand.tmp 21) 0, type := 36, pos := "ref.go:120", after := #[{ on := 7, ground := Ground.data }], guard := none }) (v := ?_) rfl (by kernel_rfl) (by kernel_rfl) (by kernel_rfl) (fun _ _ _ h => h) (Or.inl ⟨by rfl, ?_⟩) hH1 ?_
          rotate_left
          · intro w' hw'
            obtain ⟨⟨q0, q1, q2, -, -, -, -⟩, x0⟩ := hw'
            go_simp
            try with_reducible rfl
          try simp only [Act.put, List.setIfInBounds_toArray, List.set_cons_zero, List.set_cons_succ]
          refine wpAnyH_take (i := 9) (oi := { dst := some 30, op := Op.extract (Operand.tmp 21) 1, type := 31, pos := "ref.go:120", after := #[{ on := 7, ground := Ground.data }, { on := 11, ground := Ground.gcOnly Departure.lateStores }], guard := none }) (v := ?_) rfl (by kernel_rfl) (by kernel_rfl) (by kernel_rfl) (fun _ _ _ h => h) (Or.inl ⟨by rfl, ?_⟩) hH1 ?_
          rotate_left
          · intro w' hw'
            obtain ⟨⟨q0, q1, q2, -, -, -, -⟩, x0⟩ := hw'
            go_simp
            try with_reducible rfl
          try simp only [Act.put, List.setIfInBounds_toArray, List.set_cons_zero, List.set_cons_succ]
          refine wpAnyH_ready (rs := [10]) (by kernel_rfl) (by simp) ?_
          refine AllReadyH.cons (o := { dst := some 7, op := Op.alloc 36, type := 0, pos := "ref.go:120", after := #[], guard := none }) rfl (fun K hK => ?_) AllReadyH.nil
          go_simp
          refine hK.out _ _ ⟨E3.out.s.kept ((Below.refl w3.heap.size w3).alloc (Nat.le_refl _) (.cells #[.int .i64 0, .int .i64 0, .int .i64 0] 36)) E3.out.s.lt, Below.heap_alloc_cell hc3.out _⟩ (fun hH2 => ?_)
          clear hK
          try simp only [Act.put, List.setIfInBounds_toArray, List.set_cons_zero, List.set_cons_succ]
          refine wpAnyH_ready (rs := [11]) (by kernel_rfl) (by simp) ?_
          refine AllReadyH.cons (o := { dst := none, op := Op.store 36 (Operand.tmp 7) (Operand.tmp 29), type := 0, pos := "ref.go:120", after := #[{ on := 10, ground := Ground.data }, { on := 8, ground := Ground.data }, { on := 6, ground := Ground.chain }, { on := 0, ground := Ground.phase }, { on := 1, ground := Ground.phase }, { on := 2, ground := Ground.phase }, { on := 3, ground := Ground.phase }, { on := 4, ground := Ground.phase }, { on := 5, ground := Ground.phase }, { on := 6, ground := Ground.phase }, { on := 7, ground := Ground.phase }, { on := 8, ground := Ground.phase }, { on := 9, ground := Ground.textOnly Departure.lateStores }, { on := 10, ground := Ground.phase }], guard := none }) rfl (fun K hK => ?_) AllReadyH.nil
          go_simp
          refine hK.out _ _ ⟨E3.out.s.kept ((Below.refl w3.heap.size w3).alloc (Nat.le_refl _) (.cells #[.int .i64 (n1 : Int), .int .i64 ti, .int .i64 (D1 : Int)] 36)) E3.out.s.lt, Below.heap_alloc_cell hc3.out _⟩ (fun hH3 => ?_)
          clear hK
          try simp only [Act.put, List.setIfInBounds_toArray, List.set_cons_zero, List.set_cons_succ]
          refine wpAnyH_take (i := 12) (oi := { dst := some 8, op := Op.assign (Operand.tmp 30), type := 31, pos := "ref.go:120", after := #[{ on := 9, ground := Ground.data }, { on := 11, ground := Ground.chain }, { on := 0, ground := Ground.phase }, { on := 1, ground := Ground.phase }, { on := 2, ground := Ground.phase }, { on := 3, ground := Ground.phase }, { on := 4, ground := Ground.phase }, { on := 5, ground := Ground.phase }, { on := 6, ground := Ground.phase }, { on := 7, ground := Ground.phase }, { on := 8, ground := Ground.phase }, { on := 9, ground := Ground.phase }, { on := 10, ground := Ground.phase }, { on := 11, ground := Ground.phase }], guard := none }) (v := ?_) rfl (by kernel_rfl) (by kernel_rfl) (by kernel_rfl) (fun _ _ _ h => h) (Or.inl ⟨by rfl, ?_⟩) hH3 ?_
          rotate_left
          · intro w' hw'
            obtain ⟨⟨q0, q1, q2, -, -, -, -⟩, x0⟩ := hw'
            go_simp
            try with_reducible rfl
          try simp only [Act.put, List.setIfInBounds_toArray, List.set_cons_zero, List.set_cons_succ]
          refine wpAnyH_done (by kernel_rfl) ?_ _
          refine NoPanic.normal ?_
          have E4 := hide (E3.out.below ((Below.refl w3.heap.size w3).alloc (Nat.le_refl _) (.cells #[.int .i64 (n1 : Int), .int .i64 ti, .int .i64 (D1 : Int)] 36)))
          have X4 := hide (Box3.new w3 (.int .i64 (n1 : Int)) (.int .i64 ti) (.int .i64 (D1 : Int)) 36)
          generalize w3.alloc (.cells #[.int .i64 (n1 : Int), .int .i64 ti, .int .i64 (D1 : Int)] 36) = w4 at *
          obtain ⟨gN, hgN⟩ : ∃ gN, w3.heap.size = gN := ⟨_, rfl⟩
          rw [hgN] at X4 ⊢
          clear hH0 hH1 hH2 hH3 hc3 E3 hgN
          have FIN := hide (E4.out.set (by have := hW0s.out; omega) (.int .i64 (n1 : Int)) (.int .i64 ti) (.int .i64 (D1 : Int)))
          have x0 := X4.out.c0
          have x1 := X4.out.c1
          have x2 := X4.out.c2
          obtain ⟨r0, r1, r2, r3, r4, r5, r6⟩ := E4.out.s
          have r7 := E4.out.s.o1
          have r8 := E4.out.s.o2
          go_wp2_with fail
          go_roundw
          case rel =>
            refine ⟨n1, v3, M3, j3, by go_num, hok', ⟨n3.out, l3.out⟩, ?_⟩
            rw [hLn.out.1, hLn.out.2, hti2.out]
            exact FIN
          case measure => simp [intOf]; omega
        · go_simp
          have Ea := hide ((E.out.below ((Below.refl wr.heap.size wr).alloc (Nat.le_refl _) (.cells #[.int .i64 0, .int .i64 0, .int .i64 0] 36))).drew)
          have Xa := hide (Box3.new wr (.int .i64 0) (.int .i64 0) (.int .i64 0) 36).drew
          have fa : Hid (¬ fp w.heap.size v wr.heap.size) := fun hf => E.out.wr.not (Nat.le_refl _) hf
          have hca := hide (Below.heap_alloc_cell hc (.cells #[.int .i64 0, .int .i64 0, .int .i64 0] 36))
          refine hK.out _ _ ⟨Ea.out.s, hca.out⟩ (fun hH1 => ?_)
          clear hK
          try simp only [Act.put, List.setIfInBounds_toArray, List.set_cons_zero, List.set_cons_succ]
          refine wpAnyH_ready (rs := [6]) (by kernel_rfl) (by simp) ?_
          refine AllReadyH.cons (o := { dst := some 28, op := Op.call { callee := Callee.value (Operand.func 14), args := #[Operand.tmp 22, Operand.tmp 23, Operand.tmp 27], argTypes := #[26, 36, 3] }, type := 37, pos := "ref.go:120", after := #[{ on := 0, ground := Ground.data }, { on := 1, ground := Ground.data }, { on := 5, ground := Ground.data }], guard := none }) rfl (fun K hK => ?_) AllReadyH.nil
          go_simp
          refine (P.out _ Ea.out).mono ?_
          rintro e w3 ⟨rfl, v3, M3, W3, n3, l3, D3⟩
          replace n3 := hide n3
          replace l3 := hide l3
          have E3 := hide (Ea.out.put D3 W3)
          have X3 := hide (Xa.out.did D3 fa.out)
          have f3 := hide (D3.not Xa.out.lt fa.out)
          have hc3 := hide ((D3.bel.cell (p := ⟨b, off + i, none⟩) hbb.out).trans (show (wr.alloc (.cells #[.int .i64 0, .int .i64 0, .int .i64 0] 36)).drew.cell? _ = _ from hca.out))
          have hgne : Hid (wr.heap.size ≠ w.heap.size + 1 ∧ W0.heap.size ≤ wr.heap.size) := by have := E.out.s.lt; have := E.out.d.bel.size; exact ⟨by omega, by omega⟩
          clear W3 D3 P hc hca fa Ea Xa
          refine hK.out _ _ ⟨E3.out.s, hc3.out⟩ (fun hH2 => ?_)
          clear hK
          try simp only [Act.put, List.setIfInBounds_toArray, List.set_cons_zero, List.set_cons_succ]
          refine wpAnyH_take (i := 7) (oi := { dst := some 21, op := Op.move (Operand.tmp 28), type := 37, pos := "ref.go:120", after := #[{ on := 6, ground := Ground.data }], guard := none }) (v := ?_) rfl (by kernel_rfl) (by kernel_rfl) (by kernel_rfl) (fun _ _ _ h => h) (Or.inl ⟨by rfl, ?_⟩) hH2 ?_
          rotate_left
          · intro w' hw'
            obtain ⟨⟨q0, q1, q2, -, -, -, -⟩, x0⟩ := hw'
            go_simp
            try with_reducible rfl
          try simp only [Act.put, List.setIfInBounds_toArray, List.set_cons_zero, List.set_cons_succ]
          refine wpAnyH_take (i := 8) (oi := { dst := some 29, op := Op.extract (Operand.tmp 21) 0, type := 36, pos := "ref.go:120", after := #[{ on := 7, ground := Ground.data }], guard := none }) (v := ?_) rfl (by kernel_rfl) (by kernel_rfl) (by kernel_rfl) (fun _ _ _ h => h) (Or.inl ⟨by rfl, ?_⟩) hH2 ?_
          rotate_left
          · intro w' hw'
            obtain ⟨⟨q0, q1, q2, -, -, -, -⟩, x0⟩ := hw'
            go_simp
            try with_reducible rfl
          try simp only [Act.put, List.setIfInBounds_toArray, List.set_cons_zero, List.set_cons_succ]
          refine wpAnyH_take (i := 9) (oi := { dst := some 30, op := Op.extract (Operand.tmp 21) 1, type := 31, pos := "ref.go:120", after := #[{ on := 7, ground := Ground.data }, { on := 11, ground := Ground.gcOnly Departure.lateStores }], guard := none }) (v := ?_) rfl (by kernel_rfl) (by kernel_rfl) (by kernel_rfl) (fun _ _ _ h => h) (Or.inl ⟨by rfl, ?_⟩) hH2 ?_
          rotate_left
          · intro w' hw'
            obtain ⟨⟨q0, q1, q2, -, -, -, -⟩, x0⟩ := hw'
            go_simp
            try with_reducible rfl
          try simp only [Act.put, List.setIfInBounds_toArray, List.set_cons_zero, List.set_cons_succ]
          refine wpAnyH_ready (rs := [11]) (by kernel_rfl) (by simp) ?_
          refine AllReadyH.cons (o := { dst := none, op := Op.store 36 (Operand.tmp 7) (Operand.tmp 29), type := 0, pos := "ref.go:120", after := #[{ on := 10, ground := Ground.data }, { on := 8, ground := Ground.data }, { on := 6, ground := Ground.chain }, { on := 0, ground := Ground.phase }, { on := 1, ground := Ground.phase }, { on := 2, ground := Ground.phase }, { on := 3, ground := Ground.phase }, { on := 4, ground := Ground.phase }, { on := 5, ground := Ground.phase }, { on := 6, ground := Ground.phase }, { on := 7, ground := Ground.phase }, { on := 8, ground := Ground.phase }, { on := 9, ground := Ground.textOnly Departure.lateStores }, { on := 10, ground := Ground.phase }], guard := none }) rfl (fun K hK => ?_) AllReadyH.nil
          obtain ⟨gN, hgN⟩ : ∃ gN, wr.heap.size = gN := ⟨_, rfl⟩
          rw [hgN] at X3 f3 hgne
          simp only [hgN]
          have bN := hide (but3 w3 gN (.int .i64 (n1 : Int)) (.int .i64 ti) (.int .i64 (D1 : Int)))
          have X4 := hide (X3.out.set (.int .i64 (n1 : Int)) (.int .i64 ti) (.int .i64 (D1 : Int)))
          have S4 := hide (E3.out.s.but bN.out (fun e => hgne.out.1 e.symm))
          have hc4 : Hid ((((w3.setCell ⟨gN, 0, none⟩ (.int .i64 (n1 : Int))).setCell ⟨gN, 1, none⟩ (.int .i64 ti)).setCell ⟨gN, 2, none⟩ (.int .i64 (D1 : Int))).cell? ⟨b, off + i, none⟩ = some (.int .i64 ti)) := by
            have hB : Below w.heap.size w3 _ := bN.out.below (by have := E3.out.wr.lt; omega) (fun k hk => by have := hgne.out.2; have := hW0s.out; rw [hk]; omega)
            exact (hB.cell (p := ⟨b, off + i, none⟩) hbb.out).trans hc3.out
          have E4 : Hid (VB W0 (((w3.setCell ⟨gN, 0, none⟩ (.int .i64 (n1 : Int))).setCell ⟨gN, 1, none⟩ (.int .i64 ti)).setCell ⟨gN, 2, none⟩ (.int .i64 (D1 : Int))) w.heap.size w.heap.size (w.heap.size + 1) (.slice none 0 0) v3 M3 (.int .i64 (i : Int)) (.int .i64 (L0 : Int)) (.int .i64 (D0 : Int))) := by
            have hl := E3.out.wr.lt; have hge := E3.out.wr.ge
            have hB : Below w.heap.size w3 _ := bN.out.below (by omega) (fun k hk => by have := hgne.out.2; have := hW0s.out; rw [hk]; omega)
            exact ⟨S4.out, E3.out.wr.kept bN.out (fun k hk => by rw [hk]; exact f3.out), ⟨E3.out.d.bel.trans hB, E3.out.d.but.trans bN.out (fun k hk e => by have := hgne.out.2; omega), E3.out.d.own⟩, E3.out.ns, E3.out.bg⟩
          have r7 := X3.out.o1
          have r8 := X3.out.o2
          obtain ⟨r0, r1, r2, r3, r4, r5, r6⟩ := X3.out
          go_simp
          refine hK.out _ _ ⟨S4.out, hc4.out⟩ (fun hH3 => ?_)
          clear hK r0 r1 r2 r3 r4 r5 r6 r7 r8
          try simp only [Act.put, List.setIfInBounds_toArray, List.set_cons_zero, List.set_cons_succ]
          refine wpAnyH_take (i := 12) (oi := { dst := some 8, op := Op.assign (Operand.tmp 30), type := 31, pos := "ref.go:120", after := #[{ on := 9, ground := Ground.data }, { on := 11, ground := Ground.chain }, { on := 0, ground := Ground.phase }, { on := 1, ground := Ground.phase }, { on := 2, ground := Ground.phase }, { on := 3, ground := Ground.phase }, { on := 4, ground := Ground.phase }, { on := 5, ground := Ground.phase }, { on := 6, ground := Ground.phase }, { on := 7, ground := Ground.phase }, { on := 8, ground := Ground.phase }, { on := 9, ground := Ground.phase }, { on := 10, ground := Ground.phase }, { on := 11, ground := Ground.phase }], guard := none }) (v := ?_) rfl (by kernel_rfl) (by kernel_rfl) (by kernel_rfl) (fun _ _ _ h => h) (Or.inl ⟨by rfl, ?_⟩) hH3 ?_
          rotate_left
          · intro w' hw'
            obtain ⟨⟨q0, q1, q2, -, -, -, -⟩, x0⟩ := hw'
            go_simp
            try with_reducible rfl
          try simp only [Act.put, List.setIfInBounds_toArray, List.set_cons_zero, List.set_cons_succ]
          refine wpAnyH_done (by kernel_rfl) ?_ _
          refine NoPanic.normal ?_
          generalize (((w3.setCell ⟨gN, 0, none⟩ (.int .i64 (n1 : Int))).setCell ⟨gN, 1, none⟩ (.int .i64 ti)).setCell ⟨gN, 2, none⟩ (.int .i64 (D1 : Int))) = w4 at *
          clear hH0 hH1 hH2 hH3 hc3 E3 S4 hc4 bN X3 f3
          have FIN := hide (E4.out.set (by have := hW0s.out; omega) (.int .i64 (n1 : Int)) (.int .i64 ti) (.int .i64 (D1 : Int)))
          have x0 := X4.out.c0
          have x1 := X4.out.c1
          have x2 := X4.out.c2
          obtain ⟨r0, r1, r2, r3, r4, r5, r6⟩ := E4.out.s
          have r7 := E4.out.s.o1
          have r8 := E4.out.s.o2
          go_wp2_with fail
          go_roundw
          case rel =>
            refine ⟨n1, v3, M3, j3, by go_num, hok', ⟨n3.out, l3.out⟩, ?_⟩
            rw [hLn.out.1, hLn.out.2, hti2.out]
            exact FIN
          case measure => simp [intOf]; omega
      · have hno : Hid (¬ ∀ j, j < len → okL l j) := fun h => hti (h i hlt)
        have hbad : (okSI (i : Int) ((tL l i : Nat) : Int) ((tD l i : Nat) : Int) && okTI (i : Int) ((tL l i : Nat) : Int) (l.getD i 0)) = false := by
          cases h : okTI (i : Int) ((tL l i : Nat) : Int) (l.getD i 0)
          · simp
          · exact absurd (okT_of h) hti
        obtain ⟨L0, hL0⟩ : ∃ x, tL l i = x := ⟨_, rfl⟩
        obtain ⟨D0, hD0⟩ : ∃ x, tD l i = x := ⟨_, rfl⟩
        obtain ⟨ti, hti2⟩ : ∃ x : Int, l.getD i 0 = x := ⟨_, rfl⟩
        rw [hL0, hD0, hti2] at hbad
        rw [hti2] at hc
        rw [hL0] at s1
        rw [hD0] at s2
        rw [hL0, hD0] at E
        have P := hide (fun (wx : World) (h : VB W0 wx w.heap.size w.heap.size (w.heap.size + 1) (.slice none 0 0) v M (.int .i64 (i : Int)) (.int .i64 (L0 : Int)) (.int .i64 (D0 : Int))) => rputS_no h.wr (i : Int) (L0 : Int) (D0 : Int) ti hbad)
        replace hs := hide hs
        replace hti := hide hti
        replace hpo := hide hpo
        replace hL0 := hide hL0
        replace hD0 := hide hD0
        replace hti2 := hide hti2
        replace hMl := hide hMl
        clear hbad
        go_upto_region 8 with fail
        refine wp_region_noPanic ?_
        refine wp_region_held_drew (S := fun w' => Box3 w' (w.heap.size + 1) (.int .i64 (i : Int)) (.int .i64 (L0 : Int)) (.int .i64 (D0 : Int)) ∧ w'.cell? ⟨b, off + i, none⟩ = some (.int .i64 ti)) (by kernel_rfl) ⟨E.out.s.drew, hc⟩ (fun hH0 => ?_)
        refine wpAnyH_take (i := 0) (oi := { dst := some 22, op := Op.move (Operand.tmp 4), type := 26, pos := "ref.go:120", after := #[], guard := none }) (v := ?_) rfl (by kernel_rfl) (by kernel_rfl) (by kernel_rfl) (fun _ _ _ h => h) (Or.inl ⟨by rfl, ?_⟩) hH0 ?_
        rotate_left
        · intro w' hw'
          obtain ⟨⟨q0, q1, q2, -, -, -, -⟩, x0⟩ := hw'
          go_simp
          try with_reducible rfl
        try simp only [Act.put, List.setIfInBounds_toArray, List.set_cons_zero, List.set_cons_succ]
        refine wpAnyH_take (i := 1) (oi := { dst := some 23, op := Op.load 36 (Operand.tmp 5), type := 36, pos := "ref.go:120", after := #[], guard := none }) (v := ?_) rfl (by kernel_rfl) (by kernel_rfl) (by kernel_rfl) (fun _ _ _ h => h) (Or.inl ⟨by rfl, ?_⟩) hH0 ?_
        rotate_left
        · intro w' hw'
          obtain ⟨⟨q0, q1, q2, -, -, -, -⟩, x0⟩ := hw'
          go_simp
          try with_reducible rfl
        try simp only [Act.put, List.setIfInBounds_toArray, List.set_cons_zero, List.set_cons_succ]
        refine wpAnyH_take (i := 2) (oi := { dst := some 24, op := Op.move (Operand.tmp 0), type := 57, pos := "ref.go:120", after := #[], guard := none }) (v := ?_) rfl (by kernel_rfl) (by kernel_rfl) (by kernel_rfl) (fun _ _ _ h => h) (Or.inl ⟨by rfl, ?_⟩) hH0 ?_
        rotate_left
        · intro w' hw'
          obtain ⟨⟨q0, q1, q2, -, -, -, -⟩, x0⟩ := hw'
          go_simp
          try with_reducible rfl
        try simp only [Act.put, List.setIfInBounds_toArray, List.set_cons_zero, List.set_cons_succ]
        refine wpAnyH_take (i := 3) (oi := { dst := some 25, op := Op.move (Operand.tmp 6), type := 3, pos := "ref.go:120", after := #[], guard := none }) (v := ?_) rfl (by kernel_rfl) (by kernel_rfl) (by kernel_rfl) (fun _ _ _ h => h) (Or.inl ⟨by rfl, ?_⟩) hH0 ?_
        rotate_left
        · intro w' hw'
          obtain ⟨⟨q0, q1, q2, -, -, -, -⟩, x0⟩ := hw'
          go_simp
          try with_reducible rfl
        try simp only [Act.put, List.setIfInBounds_toArray, List.set_cons_zero, List.set_cons_succ]
        refine wpAnyH_take (i := 4) (oi := { dst := some 26, op := Op.indexAddr 57 (Operand.tmp 24) (Operand.tmp 25), type := 0, pos := "ref.go:120", after := #[{ on := 2, ground := Ground.data }, { on := 3, ground := Ground.data }], guard := none }) (v := ?_) rfl (by kernel_rfl) (by kernel_rfl) (by kernel_rfl) (fun _ _ _ h => h) (Or.inl ⟨by rfl, ?_⟩) hH0 ?_
        rotate_left
        · intro w' hw'
          obtain ⟨⟨q0, q1, q2, -, -, -, -⟩, x0⟩ := hw'
          go_simp
          try with_reducible rfl
        try simp only [Act.put, List.setIfInBounds_toArray, List.set_cons_zero, List.set_cons_succ]
        refine wpAnyH_take (i := 5) (oi := { dst := some 27, op := Op.load 3 (Operand.tmp 26), type := 3, pos := "ref.go:120", after := #[{ on := 4, ground := Ground.data }], guard := none }) (v := ?_) rfl (by kernel_rfl) (by kernel_rfl) (by kernel_rfl) (fun _ _ _ h => h) (Or.inl ⟨by rfl, ?_⟩) hH0 ?_
        rotate_left
        · intro w' hw'
          obtain ⟨⟨q0, q1, q2, -, -, -, -⟩, x0⟩ := hw'
          go_simp
          try with_reducible rfl
        try simp only [Act.put, List.setIfInBounds_toArray, List.set_cons_zero, List.set_cons_succ]
        clear s0 s1 s2
        refine wpAnyH_ready (rs := [6, 10]) (by kernel_rfl) (by simp) ?_
        refine AllReadyH.cons (o := { dst := some 28, op := Op.call { callee := Callee.value (Operand.func 14), args := #[Operand.tmp 22, Operand.tmp 23, Operand.tmp 27], argTypes := #[26, 36, 3] }, type := 37, pos := "ref.go:120", after := #[{ on := 0, ground := Ground.data }, { on := 1, ground := Ground.data }, { on := 5, ground := Ground.data }], guard := none }) rfl (fun K hK => ?_) (AllReadyH.cons (o := { dst := some 7, op := Op.alloc 36, type := 0, pos := "ref.go:120", after := #[], guard := none }) rfl (fun K hK => ?_) AllReadyH.nil)
        · go_simp
          refine (P.out _ E.out.drew).mono ?_
          rintro e w3 ⟨rfl, v3, W3, D3⟩
          have E3 := hide (E.out.drew.put D3 W3)
          have hc3 := hide ((D3.bel.cell (p := ⟨b, off + i, none⟩) hbb.out).trans (show wr.drew.cell? _ = _ from hc))
          clear W3 D3 P hc
          refine hK.out _ _ ⟨E3.out.s, hc3.out⟩ (fun hH1 => ?_)
          clear hK
          try simp only [Act.put, List.setIfInBounds_toArray, List.set_cons_zero, List.set_cons_succ]
          refine wpAnyH_take (i := 7) (oi := { dst := some 21, op := Op.move (Operand.tmp 28), type := 37, pos := "ref.go:120", after := #[{ on := 6, ground := Ground.data }], guard := none }) (v := ?_) rfl (by kernel_rfl) (by kernel_rfl) (by kernel_rfl) (fun _ _ _ h => h) (Or.inl ⟨by rfl, ?_⟩) hH1 ?_
          rotate_left
          · intro w' hw'
            obtain ⟨⟨q0, q1, q2, -, -, -, -⟩, x0⟩ := hw'
            go_simp
            try with_reducible rfl
          try simp only [Act.put, List.setIfInBounds_toArray, List.set_cons_zero, List.set_cons_succ]
          refine wpAnyH_take (i := 8) (oi := { dst := some 29, op := Op.extract (Operand.tmp 21) 0, type := 36, pos := "ref.go:120", after := #[{ on := 7, ground := Ground.data }], guard := none }) (v := ?_) rfl (by kernel_rfl) (by kernel_rfl) (by kernel_rfl) (fun _ _ _ h => h) (Or.inl ⟨by rfl, ?_⟩) hH1 ?_
          rotate_left
          · intro w' hw'
            obtain ⟨⟨q0, q1, q2, -, -, -, -⟩, x0⟩ := hw'
            go_simp
            try with_reducible rfl
          try simp only [Act.put, List.setIfInBounds_toArray, List.set_cons_zero, List.set_cons_succ]
          refine wpAnyH_take (i := 9) (oi := { dst := some 30, op := Op.extract (Operand.tmp 21) 1, type := 31, pos := "ref.go:120", after := #[{ on := 7, ground := Ground.data }, { on := 11, ground := Ground.gcOnly Departure.lateStores }], guard := none }) (v := ?_) rfl (by kernel_rfl) (by kernel_rfl) (by kernel_rfl) (fun _ _ _ h => h) (Or.inl ⟨by rfl, ?_⟩) hH1 ?_
          rotate_left
          · intro w' hw'
            obtain ⟨⟨q0, q1, q2, -, -, -, -⟩, x0⟩ := hw'
            go_simp
            try with_reducible rfl
          try simp only [Act.put, List.setIfInBounds_toArray, List.set_cons_zero, List.set_cons_succ]
          refine wpAnyH_ready (rs := [10]) (by kernel_rfl) (by simp) ?_
          refine AllReadyH.cons (o := { dst := some 7, op := Op.alloc 36, type := 0, pos := "ref.go:120", after := #[], guard := none }) rfl (fun K hK => ?_) AllReadyH.nil
          go_simp
          refine hK.out _ _ ⟨E3.out.s.kept ((Below.refl w3.heap.size w3).alloc (Nat.le_refl _) (.cells #[.int .i64 0, .int .i64 0, .int .i64 0] 36)) E3.out.s.lt, Below.heap_alloc_cell hc3.out _⟩ (fun hH2 => ?_)
          clear hK
          try simp only [Act.put, List.setIfInBounds_toArray, List.set_cons_zero, List.set_cons_succ]
          refine wpAnyH_ready (rs := [11]) (by kernel_rfl) (by simp) ?_
          refine AllReadyH.cons (o := { dst := none, op := Op.store 36 (Operand.tmp 7) (Operand.tmp 29), type := 0, pos := "ref.go:120", after := #[{ on := 10, ground := Ground.data }, { on := 8, ground := Ground.data }, { on := 6, ground := Ground.chain }, { on := 0, ground := Ground.phase }, { on := 1, ground := Ground.phase }, { on := 2, ground := Ground.phase }, { on := 3, ground := Ground.phase }, { on := 4, ground := Ground.phase }, { on := 5, ground := Ground.phase }, { on := 6, ground := Ground.phase }, { on := 7, ground := Ground.phase }, { on := 8, ground := Ground.phase }, { on := 9, ground := Ground.textOnly Departure.lateStores }, { on := 10, ground := Ground.phase }], guard := none }) rfl (fun K hK => ?_) AllReadyH.nil
          go_simp
          refine hK.out _ _ ⟨E3.out.s.kept ((Below.refl w3.heap.size w3).alloc (Nat.le_refl _) (.cells #[.int .i64 0, .int .i64 0, .int .i64 0] 36)) E3.out.s.lt, Below.heap_alloc_cell hc3.out _⟩ (fun hH3 => ?_)
          clear hK
          try simp only [Act.put, List.setIfInBounds_toArray, List.set_cons_zero, List.set_cons_succ]
          refine wpAnyH_take (i := 12) (oi := { dst := some 8, op := Op.assign (Operand.tmp 30), type := 31, pos := "ref.go:120", after := #[{ on := 9, ground := Ground.data }, { on := 11, ground := Ground.chain }, { on := 0, ground := Ground.phase }, { on := 1, ground := Ground.phase }, { on := 2, ground := Ground.phase }, { on := 3, ground := Ground.phase }, { on := 4, ground := Ground.phase }, { on := 5, ground := Ground.phase }, { on := 6, ground := Ground.phase }, { on := 7, ground := Ground.phase }, { on := 8, ground := Ground.phase }, { on := 9, ground := Ground.phase }, { on := 10, ground := Ground.phase }, { on := 11, ground := Ground.phase }], guard := none }) (v := ?_) rfl (by kernel_rfl) (by kernel_rfl) (by kernel_rfl) (fun _ _ _ h => h) (Or.inl ⟨by rfl, ?_⟩) hH3 ?_
          rotate_left
          · intro w' hw'
            obtain ⟨⟨q0, q1, q2, -, -, -, -⟩, x0⟩ := hw'
            go_simp
            try with_reducible rfl
          try simp only [Act.put, List.setIfInBounds_toArray, List.set_cons_zero, List.set_cons_succ]
          refine wpAnyH_done (by kernel_rfl) ?_ _
          refine NoPanic.normal ?_
          have E4 := hide (E3.out.below ((Below.refl w3.heap.size w3).alloc (Nat.le_refl _) (.cells #[.int .i64 0, .int .i64 0, .int .i64 0] 36)))
          have X4 := hide (Box3.new w3 (.int .i64 0) (.int .i64 0) (.int .i64 0) 36)
          generalize w3.alloc (.cells #[.int .i64 0, .int .i64 0, .int .i64 0] 36) = w4 at *
          obtain ⟨gN, hgN⟩ : ∃ gN, w3.heap.size = gN := ⟨_, rfl⟩
          rw [hgN] at X4 ⊢
          clear hH0 hH1 hH2 hH3 hc3 E3 hgN
          go_wp2_with fail
          go_ret2
          exact ⟨.inr ⟨hno.out, rfl⟩, b2.out.trans E4.out.d.bel⟩
        · go_simp
          have Ea := hide ((E.out.below ((Below.refl wr.heap.size wr).alloc (Nat.le_refl _) (.cells #[.int .i64 0, .int .i64 0, .int .i64 0] 36))).drew)
          have Xa := hide (Box3.new wr (.int .i64 0) (.int .i64 0) (.int .i64 0) 36).drew
          have fa : Hid (¬ fp w.heap.size v wr.heap.size) := fun hf => E.out.wr.not (Nat.le_refl _) hf
          have hca := hide (Below.heap_alloc_cell hc (.cells #[.int .i64 0, .int .i64 0, .int .i64 0] 36))
          refine hK.out _ _ ⟨Ea.out.s, hca.out⟩ (fun hH1 => ?_)
          clear hK
          try simp only [Act.put, List.setIfInBounds_toArray, List.set_cons_zero, List.set_cons_succ]
          refine wpAnyH_ready (rs := [6]) (by kernel_rfl) (by simp) ?_
          refine AllReadyH.cons (o := { dst := some 28, op := Op.call { callee := Callee.value (Operand.func 14), args := #[Operand.tmp 22, Operand.tmp 23, Operand.tmp 27], argTypes := #[26, 36, 3] }, type := 37, pos := "ref.go:120", after := #[{ on := 0, ground := Ground.data }, { on := 1, ground := Ground.data }, { on := 5, ground := Ground.data }], guard := none }) rfl (fun K hK => ?_) AllReadyH.nil
          go_simp
          refine (P.out _ Ea.out).mono ?_
          rintro e w3 ⟨rfl, v3, W3, D3⟩
          have E3 := hide (Ea.out.put D3 W3)
          have X3 := hide (Xa.out.did D3 fa.out)
          have f3 := hide (D3.not Xa.out.lt fa.out)
          have hc3 := hide ((D3.bel.cell (p := ⟨b, off + i, none⟩) hbb.out).trans (show (wr.alloc (.cells #[.int .i64 0, .int .i64 0, .int .i64 0] 36)).drew.cell? _ = _ from hca.out))
          have hgne : Hid (wr.heap.size ≠ w.heap.size + 1 ∧ W0.heap.size ≤ wr.heap.size) := by have := E.out.s.lt; have := E.out.d.bel.size; exact ⟨by omega, by omega⟩
          clear W3 D3 P hc hca fa Ea Xa
          refine hK.out _ _ ⟨E3.out.s, hc3.out⟩ (fun hH2 => ?_)
          clear hK
          try simp only [Act.put, List.setIfInBounds_toArray, List.set_cons_zero, List.set_cons_succ]
          refine wpAnyH_take (i := 7) (oi := { dst := some 21, op := Op.move (Operand.tmp 28), type := 37, pos := "ref.go:120", after := #[{ on := 6, ground := Ground.data }], guard := none }) (v := ?_) rfl (by kernel_rfl) (by kernel_rfl) (by kernel_rfl) (fun _ _ _ h => h) (Or.inl ⟨by rfl, ?_⟩) hH2 ?_
          rotate_left
          · intro w' hw'
            obtain ⟨⟨q0, q1, q2, -, -, -, -⟩, x0⟩ := hw'
            go_simp
            try with_reducible rfl
          try simp only [Act.put, List.setIfInBounds_toArray, List.set_cons_zero, List.set_cons_succ]
          refine wpAnyH_take (i := 8) (oi := { dst := some 29, op := Op.extract (Operand.tmp 21) 0, type := 36, pos := "ref.go:120", after := #[{ on := 7, ground := Ground.data }], guard := none }) (v := ?_) rfl (by kernel_rfl) (by kernel_rfl) (by kernel_rfl) (fun _ _ _ h => h) (Or.inl ⟨by rfl, ?_⟩) hH2 ?_
          rotate_left
          · intro w' hw'
            obtain ⟨⟨q0, q1, q2, -, -, -, -⟩, x0⟩ := hw'
            go_simp
            try with_reducible rfl
          try simp only [Act.put, List.setIfInBounds_toArray, List.set_cons_zero, List.set_cons_succ]
          refine wpAnyH_take (i := 9) (oi := { dst := some 30, op := Op.extract (Operand.tmp 21) 1, type := 31, pos := "ref.go:120", after := #[{ on := 7, ground := Ground.data }, { on := 11, ground := Ground.gcOnly Departure.lateStores }], guard := none }) (v := ?_) rfl (by kernel_rfl) (by kernel_rfl) (by kernel_rfl) (fun _ _ _ h => h) (Or.inl ⟨by rfl, ?_⟩) hH2 ?_
          rotate_left
          · intro w' hw'
            obtain ⟨⟨q0, q1, q2, -, -, -, -⟩, x0⟩ := hw'
            go_simp
            try with_reducible rfl
          try simp only [Act.put, List.setIfInBounds_toArray, List.set_cons_zero, List.set_cons_succ]
          refine wpAnyH_ready (rs := [11]) (by kernel_rfl) (by simp) ?_
          refine AllReadyH.cons (o := { dst := none, op := Op.store 36 (Operand.tmp 7) (Operand.tmp 29), type := 0, pos := "ref.go:120", after := #[{ on := 10, ground := Ground.data }, { on := 8, ground := Ground.data }, { on := 6, ground := Ground.chain }, { on := 0, ground := Ground.phase }, { on := 1, ground := Ground.phase }, { on := 2, ground := Ground.phase }, { on := 3, ground := Ground.phase }, { on := 4, ground := Ground.phase }, { on := 5, ground := Ground.phase }, { on := 6, ground := Ground.phase }, { on := 7, ground := Ground.phase }, { on := 8, ground := Ground.phase }, { on := 9, ground := Ground.textOnly Departure.lateStores }, { on := 10, ground := Ground.phase }], guard := none }) rfl (fun K hK => ?_) AllReadyH.nil
          obtain ⟨gN, hgN⟩ : ∃ gN, wr.heap.size = gN := ⟨_, rfl⟩
          rw [hgN] at X3 f3 hgne
          simp only [hgN]
          have bN := hide (but3 w3 gN (.int .i64 0) (.int .i64 0) (.int .i64 0))
          have X4 := hide (X3.out.set (.int .i64 0) (.int .i64 0) (.int .i64 0))
          have S4 := hide (E3.out.s.but bN.out (fun e => hgne.out.1 e.symm))
          have hc4 : Hid ((((w3.setCell ⟨gN, 0, none⟩ (.int .i64 0)).setCell ⟨gN, 1, none⟩ (.int .i64 0)).setCell ⟨gN, 2, none⟩ (.int .i64 0)).cell? ⟨b, off + i, none⟩ = some (.int .i64 ti)) := by
            have hB : Below w.heap.size w3 _ := bN.out.below (by have := E3.out.wr.lt; omega) (fun k hk => by have := hgne.out.2; have := hW0s.out; rw [hk]; omega)
            exact (hB.cell (p := ⟨b, off + i, none⟩) hbb.out).trans hc3.out
          have E4 : Hid (VB W0 (((w3.setCell ⟨gN, 0, none⟩ (.int .i64 0)).setCell ⟨gN, 1, none⟩ (.int .i64 0)).setCell ⟨gN, 2, none⟩ (.int .i64 0)) w.heap.size w.heap.size (w.heap.size + 1) (.slice none 0 0) v3 M (.int .i64 (i : Int)) (.int .i64 (L0 : Int)) (.int .i64 (D0 : Int))) := by
            have hl := E3.out.wr.lt; have hge := E3.out.wr.ge
            have hB : Below w.heap.size w3 _ := bN.out.below (by omega) (fun k hk => by have := hgne.out.2; have := hW0s.out; rw [hk]; omega)
            exact ⟨S4.out, E3.out.wr.kept bN.out (fun k hk => by rw [hk]; exact f3.out), ⟨E3.out.d.bel.trans hB, E3.out.d.but.trans bN.out (fun k hk e => by have := hgne.out.2; omega), E3.out.d.own⟩, E3.out.ns, E3.out.bg⟩
          have r7 := X3.out.o1
          have r8 := X3.out.o2
          obtain ⟨r0, r1, r2, r3, r4, r5, r6⟩ := X3.out
          go_simp
          refine hK.out _ _ ⟨S4.out, hc4.out⟩ (fun hH3 => ?_)
          clear hK r0 r1 r2 r3 r4 r5 r6 r7 r8
          try simp only [Act.put, List.setIfInBounds_toArray, List.set_cons_zero, List.set_cons_succ]
          refine wpAnyH_take (i := 12) (oi := { dst := some 8, op := Op.assign (Operand.tmp 30), type := 31, pos := "ref.go:120", after := #[{ on := 9, ground := Ground.data }, { on := 11, ground := Ground.chain }, { on := 0, ground := Ground.phase }, { on := 1, ground := Ground.phase }, { on := 2, ground := Ground.phase }, { on := 3, ground := Ground.phase }, { on := 4, ground := Ground.phase }, { on := 5, ground := Ground.phase }, { on := 6, ground := Ground.phase }, { on := 7, ground := Ground.phase }, { on := 8, ground := Ground.phase }, { on := 9, ground := Ground.phase }, { on := 10, ground := Ground.phase }, { on := 11, ground := Ground.phase }], guard := none }) (v := ?_) rfl (by kernel_rfl) (by kernel_rfl) (by kernel_rfl) (fun _ _ _ h => h) (Or.inl ⟨by rfl, ?_⟩) hH3 ?_
          rotate_left
          · intro w' hw'
            obtain ⟨⟨q0, q1, q2, -, -, -, -⟩, x0⟩ := hw'
            go_simp
            try with_reducible rfl
          try simp only [Act.put, List.setIfInBounds_toArray, List.set_cons_zero, List.set_cons_succ]
          refine wpAnyH_done (by kernel_rfl) ?_ _
          refine NoPanic.normal ?_
          generalize (((w3.setCell ⟨gN, 0, none⟩ (.int .i64 0)).setCell ⟨gN, 1, none⟩ (.int .i64 0)).setCell ⟨gN, 2, none⟩ (.int .i64 0)) = w4 at *
          clear hH0 hH1 hH2 hH3 hc3 E3 S4 hc4 bN X3 f3
          go_wp2_with fail
          go_ret2
          exact ⟨.inr ⟨hno.out, rfl⟩, b2.out.trans E4.out.d.bel⟩
    · obtain rfl : i = len := by omega
      have j1 : ¬ (i : Int) < (i : Int) := by omega
      have BY := hide (rbytes_any E.out.wr (by have := hM.out.2; omega))
      replace hpo := hide hpo
      go_wp2_with fail
      refine BY.out.mono ?_
      rintro e w3 ⟨lw, Hw, a3, n3, c3, rfl, H3, b3, -⟩
      rw [hM.out.1, hM.out.2] at Hw
      have B3 := hide ((b2.out.trans E.out.d.bel).trans (b3.mono (by have := b2.out.size; have := E.out.d.bel.size; omega)))
      replace H3 := hide H3
      replace Hw := hide Hw
      clear BY b3
      go_wp2_with fail
      go_ret2
      exact ⟨.inl ⟨hok.out, lw, _, _, _, Hw.out, rfl, H3.out⟩, B3.out⟩
end Go.Proofs.YtpopkoedeckfoaaDoor
