/-
  The reference's Bytes.
-/
import Derived.Test.YtmddkinecplooaaDoorYV
import Derived.Test.YtmddkinecplooaaDoorXM
import Derived.Deep.RegionHeld3
import Derived.Deep.Cut
namespace Go.Proofs.YtmddkinecplooaaDoor
open Go.RowKit
set_option linter.unusedVariables false
set_option linter.unusedSimpArgs false

theorem cell_alloc_of {w : World} {p : Addr} {v : Value} (h : w.cell? p = some v) (o : Obj) : (w.alloc o).cell? p = some v :=
  (((Below.refl w.heap.size w).alloc (Nat.le_refl _) o).cell (p := p) (World.block_lt_of_cell? w _ h)).trans h
set_option maxRecDepth 100000 in
set_option maxHeartbeats 4000000 in
theorem rbytesT (w : World) (a : Option Addr) (len cap : Nat) (l : List Int) (hl : HasU w a len cap l) (hlen : len ≤ 61) :
    Calls Tryd.prog 29 #[.slice a len cap] w (BytesT l len w) := by
  have hz36 := zero36
  have hz30 : (Tryd.prog.info? 30).map (·.zero) = some (some (.agg #[.slice none 0 0])) := by kernel_rfl
  have hv := hide (show OkV l from hl.range)
  have hcap := hl.capb
  unfold maxLen at hcap
  have i1 : (len : Int) ≤ 61 := by omega
  have i2 : (len : Int) ≤ 4096 := by omega
  have B1 : Hid (Below w.heap.size w (w.alloc (.cells #[.slice none 0 0] 30))) := (Below.refl _ w).alloc (Nat.le_refl _) _
  have hrw : Hid (RW (w.alloc (.cells #[.slice none 0 0] 30)) w.heap.size w.heap.size (.slice none 0 0) []) := ⟨heap_alloc_new w _, Nat.le_refl _, World.ownsRow_nil _ _ _ _, by simp [Value.ownBlock]⟩
  replace hl := hide hl
  unfold BytesT
  go_enter Tryd.func29, Tryd.ntmps29
  go_wp2_with fail
  refine (rbegin_any _).mono ?_
  rintro e wb ⟨rfl, bb⟩
  have b2 := hide (B1.out.trans (bb.mono B1.out.size))
  have Wb := hrw.out.below bb (Nat.le_refl _)
  obtain ⟨g, hg⟩ : ∃ g, wb.heap.size = g := ⟨_, rfl⟩
  have E0 := hide ((RWS.start Wb).alloc (.cells #[.int .i64 0, .int .u64 0, .int .i64 64, .int .i64 0] 36))
  have S0 := hide (Kx.newR_at Wb hg.symm 36 #[.int .i64 0, .int .u64 0, .int .i64 64, .int .i64 0])
  clear B1 hrw Wb bb
  go_wp2_with fail
  try simp only [hg]
  generalize wb.alloc (.cells #[.int .i64 0, .int .u64 0, .int .i64 64, .int .i64 0] 36) = W2 at *
  go_loopw [6] (fun iv wr => ∃ (i : Nat) (v : Value) (M : List Bool), i ≤ len ∧ iv = .int .i64 (i : Int) ∧ Hid (numB M = numP (fB l) (xB l) i ∧ M.length = posP (fB l) i) ∧ Hid (RWS wb wr w.heap.size w.heap.size (.slice none 0 0) v M) ∧ Hid (Kx wr w.heap.size v g 36 #[.int .i64 (i : Int), .int .u64 ((tL l i : Nat) : Int), .int .i64 ((tA l i : Nat) : Int), .int .i64 ((tB l i : Nat) : Int)])) (fun iv _ => len - (intOf iv).toNat)
  case atStart => exact ⟨0, _, [], Nat.zero_le _, rfl, ⟨rfl, rfl⟩, E0, S0⟩
  case round =>
    clear E0 S0
    obtain ⟨i, v, M, hi, rfl, hM, E, S⟩ := hrel
    have hpo := posB_le hv.out i (by omega)
    by_cases hlt : i < len
    · have j1 : (i : Int) < (len : Int) := by omega
      have j1' : (0 : Int) ≤ (i : Int) := by omega
      obtain ⟨b, off, rfl, hb, hcs⟩ := hl.out.cells (by omega)
      have hc : wr.cell? ⟨b, off + i, none⟩ = some (.int .u64 (l.getD i 0)) := by
        have B := b2.out.trans E.out.d.bel
        exact (B.cell (p := ⟨b, off + i, none⟩) hb).trans (hcs i hlt)
      have hbb : Hid (b < w.heap.size) := hb
      clear hcs hb
      have hll := hl.out.hlen
      have hs := okB hv.out i (by omega)
      have hMl := hM.out.2
      have P : Hid (∀ wx : World, RWS wb wx w.heap.size w.heap.size (.slice none 0 0) v M →
          Calls Tryd.prog 13 #[.pointer (some ⟨w.heap.size, 0, none⟩), .agg #[.int .i64 (i : Int), .int .u64 ((tL l i : Nat) : Int), .int .i64 ((tA l i : Nat) : Int), .int .i64 ((tB l i : Nat) : Int)], .int .u64 ((tL l (i + 1) : Nat) : Int)] wx fun e w' =>
            e = .returned (.tuple #[.agg #[.int .i64 ((i + 1 : Nat) : Int), .int .u64 ((tL l (i + 1) : Nat) : Int), .int .i64 ((tA l (i + 1) : Nat) : Int), .int .i64 ((tB l (i + 1) : Nat) : Int)], .int .i64 0]) ∧ ∃ v' M', RW w' w.heap.size w.heap.size v' M' ∧ numB M' = numP (fB l) (xB l) (i + 1) ∧ M'.length = posP (fB l) (i + 1) ∧ Did wx w' w.heap.size w.heap.size v v') := fun wx h => by
        have P := rputX h.rw hs (tL_lt hv.out i) (tT_lt hv.out i) (by omega)
        rw [tA_next, tB_next, show cN i (tL l i) (tA l i) (tB l i) (tT l i) = fB l i from rfl, show cX i (tL l i) (tA l i) (tB l i) (tT l i) = xB l i from rfl, hM.out.1, hMl, numB_next hv.out (by omega), show posP (fB l) i + fB l i = posP (fB l) (i + 1) from rfl, ← tL_next] at P
        exact P
      rw [tT_val hv.out (by omega), ← tL_next] at hc
      replace hs := hide hs
      replace hpo := hide hpo
      replace hll := hide hll
      replace hMl := hide hMl
      obtain ⟨L1, hL1⟩ : ∃ x, tL l (i + 1) = x := ⟨_, rfl⟩
      obtain ⟨A1, hA1⟩ : ∃ x, tA l (i + 1) = x := ⟨_, rfl⟩
      obtain ⟨D1, hD1⟩ : ∃ x, tB l (i + 1) = x := ⟨_, rfl⟩
      obtain ⟨L0, hL0⟩ : ∃ x, tL l i = x := ⟨_, rfl⟩
      obtain ⟨A0, hA0⟩ : ∃ x, tA l i = x := ⟨_, rfl⟩
      obtain ⟨D0, hD0⟩ : ∃ x, tB l i = x := ⟨_, rfl⟩
      obtain ⟨n1, hn1⟩ : ∃ x, i + 1 = x := ⟨_, rfl⟩
      rw [hL1] at hc
      rw [hL1, hA1, hD1, hn1, hL0, hA0, hD0] at P
      rw [hL0, hA0, hD0] at S
      have j2 : (i : Int) + 1 = (n1 : Int) := by omega
      have j3 : n1 ≤ len := by omega
      have hLn : Hid (tL l n1 = L1 ∧ tA l n1 = A1 ∧ tB l n1 = D1) := by rw [← hn1]; exact ⟨hL1, hA1, hD1⟩
      replace hL1 := hide hL1
      replace hA1 := hide hA1
      replace hD1 := hide hD1
      replace hL0 := hide hL0
      replace hA0 := hide hA0
      replace hD0 := hide hD0
      replace hn1 := hide hn1
      go_upto_region 8 with fail
      refine wp_region_noPanic ?_
      refine wp_region_held_drew (S := (fun w' => w'.cell? ⟨g, 0, none⟩ = some (.int .i64 (i : Int)) ∧ w'.cell? ⟨g, 1, none⟩ = some (.int .u64 (L0 : Int)) ∧ w'.cell? ⟨g, 2, none⟩ = some (.int .i64 (A0 : Int)) ∧ w'.cell? ⟨g, 3, none⟩ = some (.int .i64 (D0 : Int)) ∧ w'.cell? ⟨b, off + i, none⟩ = some (.int .u64 (L1 : Int)))) (by kernel_rfl) ⟨S.out.bx.st4.c0, S.out.bx.st4.c1, S.out.bx.st4.c2, S.out.bx.st4.c3, hc⟩ (fun hH0 => ?_)
      refine wpAnyH_take (i := 0) (oi := { dst := some 22, op := Op.move (Operand.tmp 4), type := 27, pos := "ref.go:145", after := #[], guard := none }) (v := ?_) rfl (by kernel_rfl) (by kernel_rfl) (by kernel_rfl) (fun _ _ _ h => h) (Or.inl ⟨by rfl, ?_⟩) hH0 ?_
      rotate_left
      · intro w' hw'
        obtain ⟨c0, c1, c2, c3, x0⟩ := hw'
        go_simp
        try with_reducible rfl
      try simp only [Act.put, List.setIfInBounds_toArray, List.set_cons_zero, List.set_cons_succ]
      refine wpAnyH_take (i := 1) (oi := { dst := some 23, op := Op.load 36 (Operand.tmp 5), type := 36, pos := "ref.go:145", after := #[], guard := none }) (v := ?_) rfl (by kernel_rfl) (by kernel_rfl) (by kernel_rfl) (fun _ _ _ h => h) (Or.inl ⟨by rfl, ?_⟩) hH0 ?_
      rotate_left
      · intro w' hw'
        obtain ⟨c0, c1, c2, c3, x0⟩ := hw'
        go_simp
        try with_reducible rfl
      try simp only [Act.put, List.setIfInBounds_toArray, List.set_cons_zero, List.set_cons_succ]
      refine wpAnyH_take (i := 2) (oi := { dst := some 24, op := Op.move (Operand.tmp 0), type := 60, pos := "ref.go:145", after := #[], guard := none }) (v := ?_) rfl (by kernel_rfl) (by kernel_rfl) (by kernel_rfl) (fun _ _ _ h => h) (Or.inl ⟨by rfl, ?_⟩) hH0 ?_
      rotate_left
      · intro w' hw'
        obtain ⟨c0, c1, c2, c3, x0⟩ := hw'
        go_simp
        try with_reducible rfl
      try simp only [Act.put, List.setIfInBounds_toArray, List.set_cons_zero, List.set_cons_succ]
      refine wpAnyH_take (i := 3) (oi := { dst := some 25, op := Op.move (Operand.tmp 6), type := 3, pos := "ref.go:145", after := #[], guard := none }) (v := ?_) rfl (by kernel_rfl) (by kernel_rfl) (by kernel_rfl) (fun _ _ _ h => h) (Or.inl ⟨by rfl, ?_⟩) hH0 ?_
      rotate_left
      · intro w' hw'
        obtain ⟨c0, c1, c2, c3, x0⟩ := hw'
        go_simp
        try with_reducible rfl
      try simp only [Act.put, List.setIfInBounds_toArray, List.set_cons_zero, List.set_cons_succ]
      refine wpAnyH_take (i := 4) (oi := { dst := some 26, op := Op.indexAddr 60 (Operand.tmp 24) (Operand.tmp 25), type := 0, pos := "ref.go:145", after := #[{ on := 2, ground := Ground.data }, { on := 3, ground := Ground.data }], guard := none }) (v := ?_) rfl (by kernel_rfl) (by kernel_rfl) (by kernel_rfl) (fun _ _ _ h => h) (Or.inl ⟨by rfl, ?_⟩) hH0 ?_
      rotate_left
      · intro w' hw'
        obtain ⟨c0, c1, c2, c3, x0⟩ := hw'
        go_simp
        try with_reducible rfl
      try simp only [Act.put, List.setIfInBounds_toArray, List.set_cons_zero, List.set_cons_succ]
      refine wpAnyH_take (i := 5) (oi := { dst := some 27, op := Op.load 22 (Operand.tmp 26), type := 22, pos := "ref.go:145", after := #[{ on := 4, ground := Ground.data }], guard := none }) (v := ?_) rfl (by kernel_rfl) (by kernel_rfl) (by kernel_rfl) (fun _ _ _ h => h) (Or.inl ⟨by rfl, ?_⟩) hH0 ?_
      rotate_left
      · intro w' hw'
        obtain ⟨c0, c1, c2, c3, x0⟩ := hw'
        go_simp
        try with_reducible rfl
      try simp only [Act.put, List.setIfInBounds_toArray, List.set_cons_zero, List.set_cons_succ]
      refine wpAnyH_ready (rs := [6, 10]) (by kernel_rfl) (by simp) ?_
      refine AllReadyH.cons (o := { dst := some 28, op := Op.call { callee := Callee.value (Operand.func 13), args := #[Operand.tmp 22, Operand.tmp 23, Operand.tmp 27], argTypes := #[27, 36, 22] }, type := 37, pos := "ref.go:145", after := #[{ on := 0, ground := Ground.data }, { on := 1, ground := Ground.data }, { on := 5, ground := Ground.data }], guard := none }) rfl (fun K hK => ?_) (AllReadyH.cons (o := { dst := some 7, op := Op.alloc 36, type := 0, pos := "ref.go:145", after := #[], guard := none }) rfl (fun K hK => ?_) AllReadyH.nil)
      · go_simp
        refine (P.out _ E.out.drew).mono ?_
        rintro e w3 ⟨rfl, v3, M3, W3, n3, l3, D3⟩
        replace n3 := hide n3
        replace l3 := hide l3
        have E3 := hide (E.out.drew.put D3 W3)
        have S3 := hide (S.out.drew.did D3)
        have hc3 := hide ((D3.bel.cell (p := ⟨b, off + i, none⟩) hbb.out).trans (show wr.drew.cell? _ = _ from hc))
        clear W3 D3 P hc E S
        refine hK.out _ _ ⟨S3.out.bx.st4.c0, S3.out.bx.st4.c1, S3.out.bx.st4.c2, S3.out.bx.st4.c3, hc3.out⟩ (fun hH1 => ?_)
        clear hK
        try simp only [Act.put, List.setIfInBounds_toArray, List.set_cons_zero, List.set_cons_succ]
        refine wpAnyH_take (i := 7) (oi := { dst := some 21, op := Op.move (Operand.tmp 28), type := 37, pos := "ref.go:145", after := #[{ on := 6, ground := Ground.data }], guard := none }) (v := ?_) rfl (by kernel_rfl) (by kernel_rfl) (by kernel_rfl) (fun _ _ _ h => h) (Or.inl ⟨by rfl, ?_⟩) hH1 ?_
        rotate_left
        · intro w' hw'
          obtain ⟨c0, c1, c2, c3, x0⟩ := hw'
          go_simp
          try with_reducible rfl
        try simp only [Act.put, List.setIfInBounds_toArray, List.set_cons_zero, List.set_cons_succ]
        refine wpAnyH_take (i := 8) (oi := { dst := some 29, op := Op.extract (Operand.tmp 21) 0, type := 36, pos := "ref.go:145", after := #[{ on := 7, ground := Ground.data }], guard := none }) (v := ?_) rfl (by kernel_rfl) (by kernel_rfl) (by kernel_rfl) (fun _ _ _ h => h) (Or.inl ⟨by rfl, ?_⟩) hH1 ?_
        rotate_left
        · intro w' hw'
          obtain ⟨c0, c1, c2, c3, x0⟩ := hw'
          go_simp
          try with_reducible rfl
        try simp only [Act.put, List.setIfInBounds_toArray, List.set_cons_zero, List.set_cons_succ]
        refine wpAnyH_take (i := 9) (oi := { dst := some 30, op := Op.extract (Operand.tmp 21) 1, type := 32, pos := "ref.go:145", after := #[{ on := 7, ground := Ground.data }, { on := 11, ground := Ground.gcOnly Departure.lateStores }], guard := none }) (v := ?_) rfl (by kernel_rfl) (by kernel_rfl) (by kernel_rfl) (fun _ _ _ h => h) (Or.inl ⟨by rfl, ?_⟩) hH1 ?_
        rotate_left
        · intro w' hw'
          obtain ⟨c0, c1, c2, c3, x0⟩ := hw'
          go_simp
          try with_reducible rfl
        try simp only [Act.put, List.setIfInBounds_toArray, List.set_cons_zero, List.set_cons_succ]
        refine wpAnyH_ready (rs := [10]) (by kernel_rfl) (by simp) ?_
        refine AllReadyH.cons (o := { dst := some 7, op := Op.alloc 36, type := 0, pos := "ref.go:145", after := #[], guard := none }) rfl (fun K hK => ?_) AllReadyH.nil
        go_simp
        have Sz := (S3.out.bx.alloc (.cells #[.int .i64 0, .int .u64 0, .int .i64 0, .int .i64 0] 36)).st4
        refine hK.out _ _ ⟨Sz.c0, Sz.c1, Sz.c2, Sz.c3, cell_alloc_of hc3.out _⟩ (fun hH2 => ?_)
        clear hK Sz
        try simp only [Act.put, List.setIfInBounds_toArray, List.set_cons_zero, List.set_cons_succ]
        refine wpAnyH_ready (rs := [11]) (by kernel_rfl) (by simp) ?_
        refine AllReadyH.cons (o := { dst := none, op := Op.store 36 (Operand.tmp 7) (Operand.tmp 29), type := 0, pos := "ref.go:145", after := #[{ on := 10, ground := Ground.data }, { on := 8, ground := Ground.data }, { on := 6, ground := Ground.chain }, { on := 0, ground := Ground.phase }, { on := 1, ground := Ground.phase }, { on := 2, ground := Ground.phase }, { on := 3, ground := Ground.phase }, { on := 4, ground := Ground.phase }, { on := 5, ground := Ground.phase }, { on := 6, ground := Ground.phase }, { on := 7, ground := Ground.phase }, { on := 8, ground := Ground.phase }, { on := 9, ground := Ground.textOnly Departure.lateStores }, { on := 10, ground := Ground.phase }], guard := none }) rfl (fun K hK => ?_) AllReadyH.nil
        go_simp
        have Sz := (S3.out.bx.alloc (.cells #[.int .i64 (n1 : Int), .int .u64 (L1 : Int), .int .i64 (A1 : Int), .int .i64 (D1 : Int)] 36)).st4
        refine hK.out _ _ ⟨Sz.c0, Sz.c1, Sz.c2, Sz.c3, cell_alloc_of hc3.out _⟩ (fun hH3 => ?_)
        clear hK Sz
        try simp only [Act.put, List.setIfInBounds_toArray, List.set_cons_zero, List.set_cons_succ]
        refine wpAnyH_take (i := 12) (oi := { dst := some 8, op := Op.assign (Operand.tmp 30), type := 32, pos := "ref.go:145", after := #[{ on := 9, ground := Ground.data }, { on := 11, ground := Ground.chain }, { on := 0, ground := Ground.phase }, { on := 1, ground := Ground.phase }, { on := 2, ground := Ground.phase }, { on := 3, ground := Ground.phase }, { on := 4, ground := Ground.phase }, { on := 5, ground := Ground.phase }, { on := 6, ground := Ground.phase }, { on := 7, ground := Ground.phase }, { on := 8, ground := Ground.phase }, { on := 9, ground := Ground.phase }, { on := 10, ground := Ground.phase }, { on := 11, ground := Ground.phase }], guard := none }) (v := ?_) rfl (by kernel_rfl) (by kernel_rfl) (by kernel_rfl) (fun _ _ _ h => h) (Or.inl ⟨by rfl, ?_⟩) hH3 ?_
        rotate_left
        · intro w' hw'
          obtain ⟨c0, c1, c2, c3, x0⟩ := hw'
          go_simp
          try with_reducible rfl
        try simp only [Act.put, List.setIfInBounds_toArray, List.set_cons_zero, List.set_cons_succ]
        refine wpAnyH_done (by kernel_rfl) ?_ _
        refine NoPanic.normal ?_
        have E4 := hide (E3.out.alloc (.cells #[.int .i64 (n1 : Int), .int .u64 (L1 : Int), .int .i64 (A1 : Int), .int .i64 (D1 : Int)] 36))
        have S4 := hide (S3.out.alloc (.cells #[.int .i64 (n1 : Int), .int .u64 (L1 : Int), .int .i64 (A1 : Int), .int .i64 (D1 : Int)] 36))
        have X4 := hide (Bx.new w3 36 #[.int .i64 (n1 : Int), .int .u64 (L1 : Int), .int .i64 (A1 : Int), .int .i64 (D1 : Int)])
        generalize w3.alloc (.cells #[.int .i64 (n1 : Int), .int .u64 (L1 : Int), .int .i64 (A1 : Int), .int .i64 (D1 : Int)] 36) = w4 at *
        obtain ⟨gN, hgN⟩ : ∃ gN, w3.heap.size = gN := ⟨_, rfl⟩
        rw [hgN] at X4 ⊢
        clear hH0 hH1 hH2 hH3 hc3 E3 S3 hgN
        have FE := hide (E4.out.but (but_set4 w4 g (.int .i64 (n1 : Int)) (.int .u64 (L1 : Int)) (.int .i64 (A1 : Int)) (.int .i64 (D1 : Int))) (by omega) S4.out.nf)
        have FS : Hid (Kx _ w.heap.size v3 g 36 #[.int .i64 (n1 : Int), .int .u64 (L1 : Int), .int .i64 (A1 : Int), .int .i64 (D1 : Int)]) := ⟨S4.out.bx.set4 (.int .i64 (n1 : Int)) (.int .u64 (L1 : Int)) (.int .i64 (A1 : Int)) (.int .i64 (D1 : Int)), S4.out.nf⟩
        obtain ⟨x0, x1, x2, x3, -, -, -, -, -, -, -⟩ := X4.out.st4
        obtain ⟨r0, r1, r2, r3, r4, r5, r6, r7, r8, r9, r10⟩ := S4.out.bx.st4
        clear E4 S4 X4
        go_wp2_with fail
        go_roundw
        case rel =>
          refine ⟨n1, v3, M3, j3, by go_num, ⟨n3.out, l3.out⟩, FE, ?_⟩
          rw [hLn.out.1, hLn.out.2.1, hLn.out.2.2]
          exact FS
        case measure => simp [intOf]; omega
      · go_simp
        have Ea := hide ((E.out.alloc (.cells #[.int .i64 0, .int .u64 0, .int .i64 0, .int .i64 0] 36)).drew)
        have Sa := hide ((S.out.alloc (.cells #[.int .i64 0, .int .u64 0, .int .i64 0, .int .i64 0] 36)).drew)
        have Xa := hide ((Kx.newR E.out.rw 36 #[.int .i64 0, .int .u64 0, .int .i64 0, .int .i64 0]).drew)
        have hca := hide (cell_alloc_of hc (.cells #[.int .i64 0, .int .u64 0, .int .i64 0, .int .i64 0] 36))
        refine hK.out _ _ ⟨Sa.out.bx.st4.c0, Sa.out.bx.st4.c1, Sa.out.bx.st4.c2, Sa.out.bx.st4.c3, hca.out⟩ (fun hH1 => ?_)
        clear hK
        try simp only [Act.put, List.setIfInBounds_toArray, List.set_cons_zero, List.set_cons_succ]
        refine wpAnyH_ready (rs := [6]) (by kernel_rfl) (by simp) ?_
        refine AllReadyH.cons (o := { dst := some 28, op := Op.call { callee := Callee.value (Operand.func 13), args := #[Operand.tmp 22, Operand.tmp 23, Operand.tmp 27], argTypes := #[27, 36, 22] }, type := 37, pos := "ref.go:145", after := #[{ on := 0, ground := Ground.data }, { on := 1, ground := Ground.data }, { on := 5, ground := Ground.data }], guard := none }) rfl (fun K hK => ?_) AllReadyH.nil
        go_simp
        refine (P.out _ Ea.out).mono ?_
        rintro e w3 ⟨rfl, v3, M3, W3, n3, l3, D3⟩
        replace n3 := hide n3
        replace l3 := hide l3
        have E3 := hide (Ea.out.put D3 W3)
        have S3 := hide (Sa.out.did D3)
        have X3 := hide (Xa.out.did D3)
        have hc3 := hide ((D3.bel.cell (p := ⟨b, off + i, none⟩) hbb.out).trans (show (wr.alloc (.cells #[.int .i64 0, .int .u64 0, .int .i64 0, .int .i64 0] 36)).drew.cell? _ = _ from hca.out))
        have hgne : Hid (wr.heap.size ≠ g ∧ wb.heap.size ≤ wr.heap.size) := by have := S.out.bx.lt; exact ⟨by omega, by omega⟩
        clear W3 D3 P hc hca Ea Xa Sa E S
        refine hK.out _ _ ⟨S3.out.bx.st4.c0, S3.out.bx.st4.c1, S3.out.bx.st4.c2, S3.out.bx.st4.c3, hc3.out⟩ (fun hH2 => ?_)
        clear hK
        try simp only [Act.put, List.setIfInBounds_toArray, List.set_cons_zero, List.set_cons_succ]
        refine wpAnyH_take (i := 7) (oi := { dst := some 21, op := Op.move (Operand.tmp 28), type := 37, pos := "ref.go:145", after := #[{ on := 6, ground := Ground.data }], guard := none }) (v := ?_) rfl (by kernel_rfl) (by kernel_rfl) (by kernel_rfl) (fun _ _ _ h => h) (Or.inl ⟨by rfl, ?_⟩) hH2 ?_
        rotate_left
        · intro w' hw'
          obtain ⟨c0, c1, c2, c3, x0⟩ := hw'
          go_simp
          try with_reducible rfl
        try simp only [Act.put, List.setIfInBounds_toArray, List.set_cons_zero, List.set_cons_succ]
        refine wpAnyH_take (i := 8) (oi := { dst := some 29, op := Op.extract (Operand.tmp 21) 0, type := 36, pos := "ref.go:145", after := #[{ on := 7, ground := Ground.data }], guard := none }) (v := ?_) rfl (by kernel_rfl) (by kernel_rfl) (by kernel_rfl) (fun _ _ _ h => h) (Or.inl ⟨by rfl, ?_⟩) hH2 ?_
        rotate_left
        · intro w' hw'
          obtain ⟨c0, c1, c2, c3, x0⟩ := hw'
          go_simp
          try with_reducible rfl
        try simp only [Act.put, List.setIfInBounds_toArray, List.set_cons_zero, List.set_cons_succ]
        refine wpAnyH_take (i := 9) (oi := { dst := some 30, op := Op.extract (Operand.tmp 21) 1, type := 32, pos := "ref.go:145", after := #[{ on := 7, ground := Ground.data }, { on := 11, ground := Ground.gcOnly Departure.lateStores }], guard := none }) (v := ?_) rfl (by kernel_rfl) (by kernel_rfl) (by kernel_rfl) (fun _ _ _ h => h) (Or.inl ⟨by rfl, ?_⟩) hH2 ?_
        rotate_left
        · intro w' hw'
          obtain ⟨c0, c1, c2, c3, x0⟩ := hw'
          go_simp
          try with_reducible rfl
        try simp only [Act.put, List.setIfInBounds_toArray, List.set_cons_zero, List.set_cons_succ]
        refine wpAnyH_ready (rs := [11]) (by kernel_rfl) (by simp) ?_
        refine AllReadyH.cons (o := { dst := none, op := Op.store 36 (Operand.tmp 7) (Operand.tmp 29), type := 0, pos := "ref.go:145", after := #[{ on := 10, ground := Ground.data }, { on := 8, ground := Ground.data }, { on := 6, ground := Ground.chain }, { on := 0, ground := Ground.phase }, { on := 1, ground := Ground.phase }, { on := 2, ground := Ground.phase }, { on := 3, ground := Ground.phase }, { on := 4, ground := Ground.phase }, { on := 5, ground := Ground.phase }, { on := 6, ground := Ground.phase }, { on := 7, ground := Ground.phase }, { on := 8, ground := Ground.phase }, { on := 9, ground := Ground.textOnly Departure.lateStores }, { on := 10, ground := Ground.phase }], guard := none }) rfl (fun K hK => ?_) AllReadyH.nil
        obtain ⟨gN, hgN⟩ : ∃ gN, wr.heap.size = gN := ⟨_, rfl⟩
        rw [hgN] at X3 hgne
        simp only [hgN]
        have bN := hide (but_set4 w3 gN (.int .i64 (n1 : Int)) (.int .u64 (L1 : Int)) (.int .i64 (A1 : Int)) (.int .i64 (D1 : Int)))
        have X4 := hide (X3.out.bx.set4 (.int .i64 (n1 : Int)) (.int .u64 (L1 : Int)) (.int .i64 (A1 : Int)) (.int .i64 (D1 : Int)))
        have S4 := hide (S3.out.but bN.out (fun e => hgne.out.1 e.symm))
        have E4 := hide (E3.out.but bN.out hgne.out.2 X3.out.nf)
        have hc4 : Hid (((((w3.setCell ⟨gN, 0, none⟩ (.int .i64 (n1 : Int))).setCell ⟨gN, 1, none⟩ (.int .u64 (L1 : Int))).setCell ⟨gN, 2, none⟩ (.int .i64 (A1 : Int))).setCell ⟨gN, 3, none⟩ (.int .i64 (D1 : Int))).cell? ⟨b, off + i, none⟩ = some (.int .u64 (L1 : Int))) := by
          have hB : Below w.heap.size w3 _ := bN.out.below (by have := E3.out.rw.lt; omega) (fun k hk => by have := hgne.out.2; have := E3.out.bw; rw [hk]; omega)
          exact (hB.cell (p := ⟨b, off + i, none⟩) hbb.out).trans hc3.out
        obtain ⟨r0, r1, r2, r3, r4, r5, r6, r7, r8, r9, r10⟩ := X3.out.bx.st4
        go_simp
        refine hK.out _ _ ⟨S4.out.bx.st4.c0, S4.out.bx.st4.c1, S4.out.bx.st4.c2, S4.out.bx.st4.c3, hc4.out⟩ (fun hH3 => ?_)
        clear hK r0 r1 r2 r3 r4 r5 r6 r7 r8 r9 r10
        try simp only [Act.put, List.setIfInBounds_toArray, List.set_cons_zero, List.set_cons_succ]
        refine wpAnyH_take (i := 12) (oi := { dst := some 8, op := Op.assign (Operand.tmp 30), type := 32, pos := "ref.go:145", after := #[{ on := 9, ground := Ground.data }, { on := 11, ground := Ground.chain }, { on := 0, ground := Ground.phase }, { on := 1, ground := Ground.phase }, { on := 2, ground := Ground.phase }, { on := 3, ground := Ground.phase }, { on := 4, ground := Ground.phase }, { on := 5, ground := Ground.phase }, { on := 6, ground := Ground.phase }, { on := 7, ground := Ground.phase }, { on := 8, ground := Ground.phase }, { on := 9, ground := Ground.phase }, { on := 10, ground := Ground.phase }, { on := 11, ground := Ground.phase }], guard := none }) (v := ?_) rfl (by kernel_rfl) (by kernel_rfl) (by kernel_rfl) (fun _ _ _ h => h) (Or.inl ⟨by rfl, ?_⟩) hH3 ?_
        rotate_left
        · intro w' hw'
          obtain ⟨c0, c1, c2, c3, x0⟩ := hw'
          go_simp
          try with_reducible rfl
        try simp only [Act.put, List.setIfInBounds_toArray, List.set_cons_zero, List.set_cons_succ]
        refine wpAnyH_done (by kernel_rfl) ?_ _
        refine NoPanic.normal ?_
        generalize ((((w3.setCell ⟨gN, 0, none⟩ (.int .i64 (n1 : Int))).setCell ⟨gN, 1, none⟩ (.int .u64 (L1 : Int))).setCell ⟨gN, 2, none⟩ (.int .i64 (A1 : Int))).setCell ⟨gN, 3, none⟩ (.int .i64 (D1 : Int))) = w4 at *
        clear hH0 hH1 hH2 hH3 hc3 hc4 E3 S3 X3 bN
        have FE := hide (E4.out.but (but_set4 w4 g (.int .i64 (n1 : Int)) (.int .u64 (L1 : Int)) (.int .i64 (A1 : Int)) (.int .i64 (D1 : Int))) (by omega) S4.out.nf)
        have FS : Hid (Kx _ w.heap.size v3 g 36 #[.int .i64 (n1 : Int), .int .u64 (L1 : Int), .int .i64 (A1 : Int), .int .i64 (D1 : Int)]) := ⟨S4.out.bx.set4 (.int .i64 (n1 : Int)) (.int .u64 (L1 : Int)) (.int .i64 (A1 : Int)) (.int .i64 (D1 : Int)), S4.out.nf⟩
        obtain ⟨x0, x1, x2, x3, -, -, -, -, -, -, -⟩ := X4.out.st4
        obtain ⟨r0, r1, r2, r3, r4, r5, r6, r7, r8, r9, r10⟩ := S4.out.bx.st4
        clear E4 S4 X4
        go_wp2_with fail
        go_roundw
        case rel =>
          refine ⟨n1, v3, M3, j3, by go_num, ⟨n3.out, l3.out⟩, FE, ?_⟩
          rw [hLn.out.1, hLn.out.2.1, hLn.out.2.2]
          exact FS
        case measure => simp [intOf]; omega
    · obtain rfl : i = len := by omega
      have j1 : ¬ (i : Int) < (i : Int) := by omega
      have BY := hide (rbytes_any E.out.rw (by have := hM.out.2; omega))
      replace hpo := hide hpo
      go_wp2_with fail
      refine BY.out.mono ?_
      rintro e w3 ⟨lw, Hw, a3, n3, c3, rfl, H3, b3, -⟩
      rw [hM.out.1, hM.out.2] at Hw
      have B3 := hide ((b2.out.trans E.out.d.bel).trans (b3.mono (by have := b2.out.size; have := E.out.d.bel.size; omega)))
      replace H3 := hide H3
      replace Hw := hide Hw
      clear BY b3
      go_wp2_with fail
      go_ret2
      exact ⟨lw, _, _, _, Hw.out, rfl, H3.out, B3.out⟩
end Go.Proofs.YtmddkinecplooaaDoor
