/-
  How calls that change one object alone are put together; put: numbers of bits one behind the other.
-/
import Derived.Test.YtmddkinecplooaaDoorXE
import Derived.Test.YtmddkinecplooaaDoorK
namespace Go.Proofs.YtmddkinecplooaaDoor
open Go.RowKit
set_option linter.unusedVariables false
set_option linter.unusedSimpArgs false

theorem Did.pre {w w1 w2 : World} {base p : Nat} {v v' : Value} (hb : Below w.heap.size w w1) (d : Did w1 w2 base p v v') (hbase : base ≤ w.heap.size) : Did w w2 base p v v' :=
  ⟨(hb.mono hbase).trans d.bel, (but_of_below hb (fun _ => False) (fun k h1 h2 => by omega) |>.mono (fun _ h => h.elim)).trans d.but (fun _ _ h => h), fun i hi h => d.own i (Nat.lt_of_lt_of_le hi hb.size) h⟩
theorem Did.post {w w1 w2 : World} {base p : Nat} {v v' : Value} (d : Did w w1 base p v v') (hb : Below w1.heap.size w1 w2) (hbase : base ≤ w1.heap.size) : Did w w2 base p v v' :=
  ⟨d.bel.trans (hb.mono hbase), d.but.trans (but_of_below hb (fun _ => False) (fun k h1 h2 => by omega)) (fun _ _ h => h.elim), d.own⟩
theorem Did.trans {w w1 w2 : World} {base p : Nat} {v v1 v2 : Value} (d : Did w w1 base p v v1) (e : Did w1 w2 base p v1 v2) : Did w w2 base p v v2 :=
  ⟨d.bel.trans e.bel, d.but.trans e.but (fun i hi h => by
    rcases h with h | h
    · exact .inl h
    · exact .inr (d.own i hi h)), fun i hi h => d.own i hi (e.own i (Nat.lt_of_lt_of_le hi d.bel.size) h)⟩
theorem Did.not {w w1 : World} {base p g : Nat} {v v1 : Value} (d : Did w w1 base p v v1) (hg : g < w.heap.size) (hn : ¬ fp p v g) : ¬ fp p v1 g := fun h => by
  rcases h with h | h
  · exact hn (.inl h)
  · exact hn (.inr (d.own g hg h))

theorem Wr.not {w : World} {base p A n g : Nat} {v : Value} (h : Wr w base p v A n) (hg : w.heap.size ≤ g) : ¬ fp p v g := fun hf => by
  obtain ⟨m, O, H⟩ := h
  have := (O.fplt g hf).2
  omega

theorem Did.refl (w : World) (base p : Nat) (v : Value) : Did w w base p v v := ⟨Below.refl _ _, But.refl _ _, fun _ _ h => h⟩
theorem Bx.did {w w1 : World} {base p g : Nat} {v v1 : Value} {t : TypeId} {xs : Array Value} (h : Bx w g t xs) (d : Did w w1 base p v v1) (hn : ¬ fp p v g) : Bx w1 g t xs := (d.but.block g h.lt hn).trans h
theorem Tab.did {w w1 : World} {base p : Nat} {v v1 : Value} (h : Tab w) (d : Did w w1 base p v v1) (hb : 0 < base) : Tab w1 := h.kept d.bel hb
theorem Did.drewN {w w1 : World} {base p : Nat} {v v1 : Value} (d : Did w w1 base p v v1) (k : Nat) : Did w (w1.drewN k) base p v v1 := ⟨below_drewN d.bel k, d.but.drewN k, d.own⟩
theorem Did.drew {w w1 : World} {base p : Nat} {v v1 : Value} (d : Did w w1 base p v v1) : Did w w1.drew base p v v1 := ⟨below_drew d.bel, ⟨d.but.os, d.but.tape, d.but.output, d.but.size, d.but.block⟩, d.own⟩
theorem Wr.drew {w : World} {base p A n : Nat} {v : Value} (h : Wr w base p v A n) : Wr w.drew base p v A n := by
  obtain ⟨m, O, H⟩ := h
  exact ⟨m, O.drew, H⟩

/-- Numbers in memory: the j-th one is X j, of S j bits. -/
structure Nums (w : World) (g m : Nat) (X S : Nat → Nat) : Prop where
  lt : g < w.heap.size
  x : ∀ j, j < m → w.cell? ⟨g, j * 2, none⟩ = some (.int .u64 ((X j : Nat) : Int))
  s : ∀ j, j < m → w.cell? ⟨g, j * 2 + 1, none⟩ = some (.int .i64 ((S j : Nat) : Int))
theorem cell_same {w w' : World} {g : Nat} (hb : w'.heap[g]? = w.heap[g]?) (i : Nat) : w'.cell? ⟨g, i, none⟩ = w.cell? ⟨g, i, none⟩ := by unfold World.cell?; simp only [hb]
theorem Nums.same {w w' : World} {g m : Nat} {X S : Nat → Nat} (h : Nums w g m X S) (hb : w'.heap[g]? = w.heap[g]?) (hs : w.heap.size ≤ w'.heap.size) : Nums w' g m X S :=
  ⟨by have := h.lt; omega, fun j hj => (cell_same hb _).trans (h.x j hj), fun j hj => (cell_same hb _).trans (h.s j hj)⟩
theorem Nums.below {w w' : World} {g m B : Nat} {X S : Nat → Nat} (h : Nums w g m X S) (hb : Below B w w') (hB : g < B) : Nums w' g m X S := h.same (hb.block g hB) hb.size
theorem Nums.did {w w1 : World} {base p g m : Nat} {v v1 : Value} {X S : Nat → Nat} (h : Nums w g m X S) (d : Did w w1 base p v v1) (hn : ¬ fp p v g) : Nums w1 g m X S := h.same (d.but.block g h.lt hn) d.bel.size
theorem pn_next (A : Nat) (X S : Nat → Nat) (k : Nat) : (A * 2 ^ posP S k + numP S X k) * 2 ^ S k + X k % 2 ^ S k = A * 2 ^ posP S (k + 1) + numP S X (k + 1) := by
  simp only [posP, numP]
  rw [Nat.pow_add, Nat.add_mul, Nat.mul_assoc, Nat.add_assoc]

set_option maxHeartbeats 2000000 in
theorem put_any {w : World} {base p A n0 : Nat} {v : Value} (h : Wr w base p v A n0) {g m : Nat} {X S : Nat → Nat} (hN : Nums w g m X S) (hg : ¬ fp p v g) (hS : ∀ j, j < m → S j ≤ 64) (hX : ∀ j, j < m → X j < 18446744073709551616) (hroom : n0 + posP S m ≤ 524288) (hm : m ≤ 4) :
    Calls Tryd.prog 51 #[.pointer (some ⟨p, 0, none⟩), .slice (some ⟨g, 0, none⟩) m m] w fun e w' => e = .returned (.int .i64 0) ∧ ∃ v', Wr w' base p v' (A * 2 ^ posP S m + numP S X m) (n0 + posP S m) ∧ Did w w' base p v v' := by
  have LN := hide (lenWr h)
  replace h := hide h
  have hpb := Nat.le_trans (Nat.le_add_left (posP S m) n0) hroom
  have hn0 : (n0 : Int) ≤ 524288 := by omega
  replace hN := hide hN
  have hmI : (m : Int) ≤ 4 := by omega
  replace hS := hide hS
  replace hX := hide hX
  replace hg := hide hg
  replace hpb := hide hpb
  replace hroom := hide hroom
  go_enter Tryd.func51, Tryd.ntmps51
  go_wp2_with fail
  refine LN.out.mono ?_
  rintro e w ⟨rfl, rfl⟩
  clear LN
  go_wp2_with fail
  go_loopw [5, 16] (fun r i wr => ∃ (k : Nat) (R : Int), k ≤ m ∧ i = .int .i64 (k : Int) ∧ r = .int .i64 R ∧ Hid (R = 524288 - (n0 : Int) - ((posP S k : Nat) : Int)) ∧ Hid (Below w.heap.size w wr)) (fun _ i _ => m - (intOf i).toNat)
  case atStart => exact ⟨0, 524288 - (n0 : Int), Nat.zero_le _, rfl, rfl, by show _ = _; simp [posP], Below.refl _ _⟩
  case round =>
    obtain ⟨k, R, hk, rfl, rfl, hR, B⟩ := hrel
    have hpk := posP_mono S hk
    have hR2 := hR.out
    have hr3 := hroom.out
    have hRr : 0 ≤ R ∧ R ≤ 524288 := by omega
    by_cases hlt : k < m
    · have hltI : (k : Int) < (m : Int) := by omega
      have N1 := hN.out.below B.out hN.out.lt
      have c0 := N1.x k hlt
      have c1 := N1.s k hlt
      have hSk := hS.out k hlt
      have hnx : R - ((S k : Nat) : Int) = 524288 - (n0 : Int) - ((posP S (k + 1) : Nat) : Int) := by simp only [posP]; omega
      have hpk1 := posP_mono S (show k + 1 ≤ m by omega)
      have B1 := hide (B.out.alloc B.out.size (.cells #[.int .u64 ((X k : Nat) : Int), .int .i64 ((S k : Nat) : Int)] 100))
      clear N1
      replace hR := hide hR
      generalize S k = s at *
      generalize X k = x at *
      replace hnx := hide hnx
      replace hpk := hide hpk
      replace hpk1 := hide hpk1
      replace hR2 := hide hR2
      replace hr3 := hide hr3
      have hsI : (s : Int) ≤ 64 := by omega
      obtain ⟨hRr1, hRr2⟩ := hRr
      go_wp2_with fail
      go_roundw
      case rel => exact ⟨k + 1, _, by omega, by go_num, rfl, hnx, B1⟩
      case measure => simp [intOf]; omega
    · obtain rfl : k = m := by omega
      have hRn : ¬ R < 0 := by omega
      have W1 := hide (h.out.below B.out (Nat.le_refl _))
      have N1 := hide (hN.out.below B.out hN.out.lt)
      have D1 := hide (Did.pre B.out (Did.refl wr base p v) (by have := h.out.lt; omega))
      clear h hN B hR hR2 hr3 hpk hRr
      go_wp2_with fail
      go_loopw [29] (fun i w2 => ∃ (j : Nat) (v' : Value), j ≤ k ∧ i = .int .i64 (j : Int) ∧ Hid (Wr w2 base p v' (A * 2 ^ posP S j + numP S X j) (n0 + posP S j)) ∧ Hid (Did w w2 base p v v') ∧ Hid (Nums w2 g k X S) ∧ Hid (¬ fp p v' g)) (fun i _ => k - (intOf i).toNat)
      case atStart => exact ⟨0, v, Nat.zero_le _, rfl, by simpa [posP, numP] using W1, D1, N1, hg⟩
      case round =>
        clear W1 N1 D1 hg
        obtain ⟨j, v', hj, rfl, W2, D2, N2, hg2⟩ := hrel
        by_cases hlt2 : j < k
        · have hltI : (j : Int) < (k : Int) := by omega
          have c0 := N2.out.x j hlt2
          have c1 := N2.out.s j hlt2
          have hSj := hS.out j hlt2
          have hXj := hX.out j hlt2
          have hpj := posP_mono S (show j + 1 ≤ k by omega)
          have B3 := (Below.refl wr.heap.size wr).alloc (Nat.le_refl _) (.cells #[.int .u64 ((X j : Nat) : Int), .int .i64 ((S j : Nat) : Int)] 100)
          have hbase := W2.out.lt
          have W3 := W2.out.below B3 (Nat.le_refl _)
          have P := hide (putWr W3 (X j) (S j) hXj hSj (by have := hroom.out; simp only [posP] at hpj; omega))
          rw [pn_next, show n0 + posP S j + S j = n0 + posP S (j + 1) from Nat.add_assoc _ _ _] at P
          have D3 := hide (D2.out.post B3 (by omega))
          have N3 := hide (N2.out.below B3 N2.out.lt)
          clear W3 W2 D2 N2 B3
          replace hpj := hide hpj
          replace hSj := hide hSj
          replace hXj := hide hXj
          replace hbase := hide hbase
          generalize S j = s at *
          generalize X j = x at *
          go_wp2_with fail
          refine P.out.mono ?_
          rintro e w4 ⟨rfl, v4, W4, D4⟩
          have D5 := hide (D3.out.trans D4)
          have N5 := hide (N3.out.did D4 hg2.out)
          have g5 := hide (D4.not N3.out.lt hg2.out)
          replace W4 := hide W4
          clear D3 N3 D4 P
          go_wp2_with fail
          go_roundw
          case rel => exact ⟨j + 1, v4, by omega, by go_num, W4, D5, N5, g5⟩
          case measure => simp [intOf]; omega
        · obtain rfl : j = k := by omega
          go_wp2_with fail
          go_ret
          exact ⟨rfl, v', W2.out, D2.out⟩
end Go.Proofs.YtmddkinecplooaaDoor
