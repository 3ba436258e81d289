/-
  The walk of the reference's Put.
-/
import Derived.Test.YtmjjedbdedemcaaGreatDoorPB
namespace Go.Proofs.YtmjjedbdedemcaaGreatDoor
open Go.RowKit
set_option linter.unusedVariables false
set_option linter.unusedSimpArgs false

theorem zrStX : (Tryz.prog.info? 51).map (·.zero) = some (some (.agg #[.int .i64 0, .int .u64 0, .int .i64 0, .int .i64 0])) := by kernel_rfl
def zt (z : Z) : Array Value := #[.int .i64 (z.n : Int), .int .i64 (z.L : Int), .int .i64 (z.D : Int)]
def zx (z : Z) : Array Value := #[.int .i64 (z.n : Int), .int .u64 (z.U : Int), .int .i64 (z.a : Int), .int .i64 (z.b : Int)]
/-- The two states as they are laid down at the beginning. -/
theorem lay3 {w0 w2 : World} {base p : Nat} {v0 v : Value} {M : List Bool} (E : RWS w0 w2 base p v0 v M) : ∃ W5 : World, W5 = (((w2.alloc (.cells #[.int .i64 0, .int .i64 0, .int .i64 0] 49)).alloc (.cells #[.int .i64 0, .int .u64 0, .int .i64 0, .int .i64 0] 51)).setRow w2.heap.size #[.int .i64 0, .int .i64 0, .int .i64 0]).setRow (w2.heap.size + 1) #[.int .i64 0, .int .u64 0, .int .i64 64, .int .i64 0] ∧
    RWS w0 W5 base p v0 v M ∧ Kx W5 p v w2.heap.size 49 (zt z0) ∧ Kx W5 p v (w2.heap.size + 1) 51 (zx z0) ∧
    Bx ((w2.alloc (.cells #[.int .i64 0, .int .i64 0, .int .i64 0] 49)).alloc (.cells #[.int .i64 0, .int .u64 0, .int .i64 0, .int .i64 0] 51)) w2.heap.size 49 #[.int .i64 0, .int .i64 0, .int .i64 0] ∧
    Bx (((w2.alloc (.cells #[.int .i64 0, .int .i64 0, .int .i64 0] 49)).alloc (.cells #[.int .i64 0, .int .u64 0, .int .i64 0, .int .i64 0] 51)).setRow w2.heap.size #[.int .i64 0, .int .i64 0, .int .i64 0]) (w2.heap.size + 1) 51 #[.int .i64 0, .int .u64 0, .int .i64 0, .int .i64 0] := by
  have X1 := (Kx.newR E.rw 49 #[.int .i64 0, .int .i64 0, .int .i64 0]).alloc (.cells #[.int .i64 0, .int .u64 0, .int .i64 0, .int .i64 0] 51)
  have E1 := E.alloc (.cells #[.int .i64 0, .int .i64 0, .int .i64 0] 49)
  have X2 := Kx.newR_at E1.rw (g := w2.heap.size + 1) (by simp) 51 #[.int .i64 0, .int .u64 0, .int .i64 0, .int .i64 0]
  have E2 := E1.alloc (.cells #[.int .i64 0, .int .u64 0, .int .i64 0, .int .i64 0] 51)
  have hz := E.d.bel.size
  have b1 := but_setRow ((w2.alloc (.cells #[.int .i64 0, .int .i64 0, .int .i64 0] 49)).alloc (.cells #[.int .i64 0, .int .u64 0, .int .i64 0, .int .i64 0] 51)) w2.heap.size #[.int .i64 0, .int .i64 0, .int .i64 0]
  have E3 := E2.but b1 hz X1.nf
  have Y1 : Kx _ p v w2.heap.size 49 #[.int .i64 0, .int .i64 0, .int .i64 0] := ⟨X1.bx.setRow #[.int .i64 0, .int .i64 0, .int .i64 0], X1.nf⟩
  have Y2 := X2.but b1 (by omega)
  have b2 := but_setRow (((w2.alloc (.cells #[.int .i64 0, .int .i64 0, .int .i64 0] 49)).alloc (.cells #[.int .i64 0, .int .u64 0, .int .i64 0, .int .i64 0] 51)).setRow w2.heap.size #[.int .i64 0, .int .i64 0, .int .i64 0]) (w2.heap.size + 1) #[.int .i64 0, .int .u64 0, .int .i64 64, .int .i64 0]
  exact ⟨_, rfl, E3.but b2 (by omega) Y2.nf, Y1.but b2 (by omega), ⟨Y2.bx.setRow _, Y2.nf⟩, X1.bx, Y2.bx⟩
set_option maxHeartbeats 1000000 in
theorem rPut_full (w : World) (a : Option Addr) (len cap : Nat) (h : 120 < len) : Calls Tryz.prog 7 #[.slice a len cap] w fun e w' => e = .returned (.tuple #[.slice none 0 0, .int .i64 4]) ∧ w' = w := by
  have i1 : (120 : Int) < (len : Int) := by omega
  have i2 : ¬ ((len : Int) = 0) := by omega
  go_enter Tryz.func7, Tryz.ntmps7
  go_wp2_with fail
  go_ret2
  exact ⟨rfl, rfl⟩
set_option maxHeartbeats 1000000 in
theorem cPut_full (w : World) (a : Option Addr) (len cap : Nat) (h : 120 < len) : Calls Tryz.prog 6 #[.slice a len cap] w fun e w' => e = .returned (.tuple #[.slice none 0 0, .int .i64 4]) ∧ w' = w := by
  have i1 : (120 : Int) < (len : Int) := by omega
  go_enter Tryz.func6, Tryz.ntmps6
  go_wp2_with fail
  go_ret2
  exact ⟨rfl, rfl⟩

set_option maxHeartbeats 8000000 in
set_option maxRecDepth 100000 in
theorem rPut_any (w : World) (a : Option Addr) (len cap : Nat) (L : List Smp) (h : HasS w a len cap L) (h120 : len ≤ 120) (ss : List Sm) (hle : ss.length ≤ len) (hpre : ∀ i, i < ss.length → L.getD i noSmp = up (ss.getD i (0, 0)))
    (hok : OkL z0 ss) (hend : ss.length < len → okTI ((fin z0 ss).n : Int) ((fin z0 ss).L : Int) (L.getD ss.length noSmp).1 = false) :
    Calls Tryz.prog 7 #[.slice a len cap] w (PutR w ss len) := by
  by_cases h0 : len = 0
  · subst h0
    have hl : ss.length = 0 := by omega
    clear h hpre hend
    go_enter Tryz.func7, Tryz.ntmps7
    go_wp2_with fail
    go_ret2
    exact ⟨.inr (.inl ⟨rfl, rfl⟩), Below.refl _ _⟩
  · have i0 : ¬ ((len : Int) = 0) := by omega
    have i1 : (len : Int) ≤ 120 := by omega
    obtain ⟨bL, oL, rfl, hbL, hcl⟩ := h.cells (by omega)
    have hzs := zrStS
    have hzx := zrStX
    have R0 : RW (w.alloc (.cells #[.slice none 0 0] 47)) w.heap.size w.heap.size (.slice none 0 0) [] := ⟨heap_alloc_new w _, Nat.le_refl _, World.ownsRow_nil _ _ _ _, by simp [Value.ownBlock]⟩
    have BA : Hid (Below w.heap.size w (w.alloc (.cells #[.slice none 0 0] 47))) := (Below.refl _ w).alloc (Nat.le_refl _) _
    have hcA : Hid (∀ i, i < len → (w.alloc (.cells #[.slice none 0 0] 47)).cell? ⟨bL, oL + i * 2, none⟩ = some (.int .i64 (L.getD i noSmp).1) ∧ (w.alloc (.cells #[.slice none 0 0] 47)).cell? ⟨bL, oL + i * 2 + 1, none⟩ = some (.int .u64 ((L.getD i noSmp).2 : Int))) := fun i hi =>
      ⟨(BA.out.cell (p := ⟨bL, oL + i * 2, none⟩) hbL).trans (hcl i hi).1, (BA.out.cell (p := ⟨bL, oL + i * 2 + 1, none⟩) hbL).trans (hcl i hi).2⟩
    have E0 := hide (RWS.start R0)
    clear hcl h R0
    go_enter Tryz.func7, Tryz.ntmps7
    go_wp2_with fail
    refine (rbegin_any _).mono ?_
    rintro e w2 ⟨rfl, b2⟩
    obtain ⟨W5, hW5, E5, T5, X5, Xa, Xb⟩ := lay3 (E0.out.below b2)
    replace E5 := hide E5
    replace T5 := hide T5
    replace X5 := hide X5
    replace Xa := hide Xa
    replace Xb := hide Xb
    obtain ⟨gt, hgt⟩ : ∃ gt, w2.heap.size = gt := ⟨_, rfl⟩
    have hA2 : (w.alloc (.cells #[.slice none 0 0] 47)).heap.size ≤ gt := by have := b2.size; omega
    replace hW5 := hide hW5
    replace hA2 := hide hA2
    clear E0 b2
    rw [hgt] at T5 X5 Xa Xb hW5
    go_wp2_with (first
      | (refine wpList_store3 rfl (.tmp 5) (.tmp 20) rfl gt _ _ _ rfl rfl 49 _ _ _ Xa.out ?_)
      | (refine wpList_store4 rfl (.tmp 6) (.tmp 21) rfl (gt + 1) _ _ _ _ rfl rfl 51 _ _ _ _ Xb.out ?_; rw [← hW5.out]; clear hW5 Xa Xb))
    go_loopw [7, 8, 9] (fun iv _ _ wr => ∃ (k : Nat) (v : Value) (M : List Bool), k ≤ ss.length ∧ iv = .int .i64 (k : Int) ∧ Hid (RWS (w.alloc (.cells #[.slice none 0 0] 47)) wr w.heap.size w.heap.size (.slice none 0 0) v M) ∧ Hid (Kx wr w.heap.size v gt 49 (zt (fin z0 (ss.take k)))) ∧ Hid (Kx wr w.heap.size v (gt + 1) 51 (zx (fin z0 (ss.take k)))) ∧ Hid (numB M = eX z0 (ss.take k) ∧ M.length = eN z0 (ss.take k))) (fun iv _ _ _ => len - (intOf iv).toNat)
    case atStart => exact ⟨0, _, [], Nat.zero_le _, rfl, E5, T5, X5, (⟨rfl, rfl⟩ : _ ∧ _)⟩
    case round =>
      obtain ⟨k, v, M, hk, rfl, E, T, X, hM⟩ := hrel
      clear E5 T5 X5
      have hfk : (fin z0 (ss.take k)).n = k := by rw [fin_n]; simp [z0]; omega
      have hok2 := okL_take ss z0 k hok
      have hzk : OkZ (fin z0 (ss.take k)) := ok_fin _ z0 ok_z0 hok2 (by simp [z0]; omega)
      have hN := eN_le _ z0 ok_z0 hok2 (by simp [z0]; omega)
      have hNl : (ss.take k).length = k := by simp; omega
      rw [hNl] at hN
      have hroom : M.length + 130 ≤ 524288 := by have := hM.out.2; omega
      by_cases hkl : k < len
      · have j1 : (k : Int) < (len : Int) := by omega
        obtain ⟨c0, c1⟩ := hcA.out k hkl
        by_cases hks : k < ss.length
        · rw [hpre k hks] at c0 c1
          have hs := ok_at hok hks
          have e1 : fin z0 (ss.take (k + 1)) = nxt (fin z0 (ss.take k)) (ss.getD k (0, 0)) := by rw [take_snocS hks, fin_snoc]
          have e2 : eX z0 (ss.take (k + 1)) = eX z0 (ss.take k) * 2 ^ kN (fin z0 (ss.take k)) (ss.getD k (0, 0)) + kX (fin z0 (ss.take k)) (ss.getD k (0, 0)) := by rw [take_snocS hks, eX_snoc]
          have e3 : eN z0 (ss.take (k + 1)) = eN z0 (ss.take k) + kN (fin z0 (ss.take k)) (ss.getD k (0, 0)) := by rw [take_snocS hks, eN_snoc]
          unfold up at c0 c1
          generalize ss.getD k (0, 0) = s at *
          obtain ⟨t, x⟩ := s
          obtain ⟨n, LL, DD, U, za, zb, hz⟩ : ∃ n L D U a b : Nat, fin z0 (ss.take k) = ⟨n, L, D, U, a, b⟩ := ⟨_, _, _, _, _, _, rfl⟩
          rw [hz] at e1 e2 e3 hs hzk T X
          have hst := hzk.s
          have hsx := hzk.x
          have hsu := hzk.u
          have hts := hs.t
          have hxs := hs.v
          simp only at c0 c1 hst hsx hsu hts hxs
          unfold zt at T
          unfold zx at X
          simp only at T X
          have P1 : ∀ wx, RW wx w.heap.size w.heap.size v M → Calls Tryz.prog 19 #[.pointer (some ⟨w.heap.size, 0, none⟩), .agg #[.int .i64 (n : Int), .int .i64 (LL : Int), .int .i64 (DD : Int)], .int .i64 (t : Int)] wx fun e w' => e = .returned (.tuple #[.agg #[.int .i64 ((n + 1 : Nat) : Int), .int .i64 (t : Int), .int .i64 ((dl n LL t : Nat) : Int)], .int .i64 0]) ∧ ∃ v' M', RW w' w.heap.size w.heap.size v' M' ∧ (numB M' = numB M * 2 ^ cdN n LL DD t + cdX n LL DD t ∧ M'.length = M.length + cdN n LL DD t) ∧ Did wx w' w.heap.size w.heap.size v v' := fun wx hw => by
            refine (rputS hw hst hts (by omega)).mono ?_
            rintro e w' ⟨he, v', M', q1, q2, q3, q4⟩
            exact ⟨he, v', M', q1, ⟨q2, q3⟩, q4⟩
          have P2 : ∀ (v : Value) (M : List Bool), M.length + 78 ≤ 524288 → ∀ wx, RW wx w.heap.size w.heap.size v M → Calls Tryz.prog 20 #[.pointer (some ⟨w.heap.size, 0, none⟩), .agg #[.int .i64 (n : Int), .int .u64 (U : Int), .int .i64 (za : Int), .int .i64 (zb : Int)], .int .u64 (x : Int)] wx fun e w' => e = .returned (.tuple #[.agg #[.int .i64 ((n + 1 : Nat) : Int), .int .u64 (x : Int), .int .i64 ((cA n U za zb x : Nat) : Int), .int .i64 ((cB n U za zb x : Nat) : Int)], .int .i64 0]) ∧ ∃ v' M', RW w' w.heap.size w.heap.size v' M' ∧ (numB M' = numB M * 2 ^ cN n U za zb x + cX n U za zb x ∧ M'.length = M.length + cN n U za zb x) ∧ Did wx w' w.heap.size w.heap.size v v' := fun v M hr wx hw => by
            refine (rputX hw hsx hsu hxs (by omega)).mono ?_
            rintro e w' ⟨he, v', M', q1, q2, q3, q4⟩
            exact ⟨he, v', M', q1, ⟨q2, q3⟩, q4⟩
          replace P1 := hide P1
          replace P2 := hide P2
          have hcd : cdN n LL DD t ≤ 52 := cdN_le n LL DD t
          replace hz := hide hz
          replace hM := hide hM
          clear hst hsx hsu hts hxs hs hzk hN hNl hfk hok2 hend
          go_upto_region 10 with fail
          refine rreg10 (E1 := E.out) (K1 := T.out) (J1 := X.out) (hc0 := c0) (hbL := hbL) (hi := hkl) (hln := by omega) (P := P1.out) (h := ?_) _ _ _ _ _ _ _ _ _ _ _ _ _ _ _ _ _ _ _ _ _ _ _ _ _ _ _ _ _ _ _ _ _ _ _ _ _ _ _ _ _ _ _ _ _ _ _ _ _ _ _ _ _ _ _ _ _ _ _ _ _ _ _ _ _ _ _ _ _ _ _ _ _ _ _ _ _ _ _ _ _ _ _ _ _ _ _
          intro gN w6 v6 M6 E6 hPM T6 X6 N6 g1 g2 g3
          have bT := but_setRow w6 gt #[.int .i64 ((n + 1 : Nat) : Int), .int .i64 (t : Int), .int .i64 ((dl n LL t : Nat) : Int)]
          have hg3 := hA2.out
          have E7 := hide (E6.but bT hg3 T6.nf)
          have T7 : Hid (Kx (w6.setRow gt #[.int .i64 ((n + 1 : Nat) : Int), .int .i64 (t : Int), .int .i64 ((dl n LL t : Nat) : Int)]) w.heap.size v6 gt 49 #[.int .i64 ((n + 1 : Nat) : Int), .int .i64 (t : Int), .int .i64 ((dl n LL t : Nat) : Int)]) := ⟨T6.bx.setRow _, T6.nf⟩
          have X7 := hide (X6.but bT (by omega))
          obtain ⟨q0, q1, q2⟩ := N6.bx.three
          have hr6 : M6.length + 78 ≤ 524288 := by have := hPM.2; omega
          replace T6 := hide T6
          replace hPM := hide hPM
          clear bT E6 X6 N6 E T X P1 c0
          generalize hn1 : ((n + 1 : Nat) : Int) = n1 at *
          generalize hdd : ((dl n LL t : Nat) : Int) = dd at *
          replace hdd := hide hdd
          generalize hw7 : w6.setRow gt #[.int .i64 n1, .int .i64 (t : Int), .int .i64 dd] = w7 at *
          replace hw7 := hide hw7
          replace hn1 := hide hn1
          go_wp2_with (refine wpList_store3 rfl (.tmp 5) (.tmp 41) rfl gt _ _ _ rfl rfl 49 _ _ _ T6.out.bx ?_; rw [hw7.out]; clear q0 q1 q2 T6)
          refine rreg14 (E1 := E7.out) (K1 := T7.out) (J1 := X7.out) (hgt := by omega) (hgx := by omega) (hc0 := c1) (hbL := hbL) (hi := hkl) (hln := by omega) (P := P2.out v6 M6 hr6) (h := ?_) _ _ _ _ _ _ _ _ _ _ _ _ _ _ _ _ _ _ _ _ _ _ _ _ _ _ _ _ _ _ _ _ _ _ _ _ _ _ _ _ _ _ _ _ _ _ _ _ _ _ _ _ _ _ _ _ _ _ _ _ _ _ _ _ _ _ _ _ _ _ _ _ _ _ _ _ _ _ _ _ _ _ _ _ _ _ _ _
          intro w8 v8 M8 E8 hPM2 T8 X8
          have I1 : Hid (Kx w8 w.heap.size v8 gt 49 (zt (fin z0 (ss.take (k + 1))))) := by
            show Kx _ _ _ _ _ _
            rw [e1]; unfold zt nxt; simp only
            rw [hn1.out, hdd.out]; exact T8
          have I2 : Hid (Kx w8 w.heap.size v8 (gt + 1) 51 (zx (fin z0 (ss.take (k + 1))))) := by
            show Kx _ _ _ _ _ _
            rw [e1]; unfold zx nxt; simp only
            rw [hn1.out]; exact X8
          have I3 : Hid (numB M8 = eX z0 (ss.take (k + 1)) ∧ M8.length = eN z0 (ss.take (k + 1))) := by
            refine ⟨?_, ?_⟩
            · rw [e2, hPM2.1, hPM.out.1, hM.out.out.1]
              unfold kN kX kT kV
              simp only
              rw [two_puts]
            · rw [e3, hPM2.2, hPM.out.2, hM.out.out.2]
              unfold kN kT kV
              simp only
              omega
          replace E8 := hide E8
          clear T8 X8 hPM2 hPM e1 e2 e3 P2 E7 T7 X7
          go_wp2_with fail
          go_roundw
          case rel => exact ⟨k + 1, v8, M8, by omega, by go_num, E8, I1, I2, I3⟩
          case measure => simp [intOf]; omega
        · obtain rfl : k = ss.length := by omega
          have hno := hend (by omega)
          rw [List.take_length] at T X hfk hzk
          generalize L.getD ss.length noSmp = s at *
          obtain ⟨t, x⟩ := s
          obtain ⟨n, LL, DD, U, za, zb, hz⟩ : ∃ n L D U a b : Nat, fin z0 ss = ⟨n, L, D, U, a, b⟩ := ⟨_, _, _, _, _, _, rfl⟩
          rw [hz] at hno T X
          simp only at c0 hno
          unfold zt at T
          unfold zx at X
          simp only at T X
          have P1 : ∀ wx, RW wx w.heap.size w.heap.size v M → Calls Tryz.prog 19 #[.pointer (some ⟨w.heap.size, 0, none⟩), .agg #[.int .i64 (n : Int), .int .i64 (LL : Int), .int .i64 (DD : Int)], .int .i64 t] wx fun e w' => e = .returned (.tuple #[.agg #[.int .i64 0, .int .i64 0, .int .i64 0], .int .i64 60]) ∧ ∃ v' M', RW w' w.heap.size w.heap.size v' M' ∧ M' = M ∧ Did wx w' w.heap.size w.heap.size v v' := fun wx hw => by
            refine (rputS_no hw n LL DD t (by rw [hno, Bool.and_false])).mono ?_
            rintro e w' ⟨he, v', q1, q2⟩
            exact ⟨he, v', M, q1, rfl, q2⟩
          replace P1 := hide P1
          replace hz := hide hz
          clear hzk hN hNl hfk hok2 hend hno
          go_upto_region 10 with fail
          refine rreg10 (E1 := E.out) (K1 := T.out) (J1 := X.out) (hc0 := c0) (hbL := hbL) (hi := hkl) (hln := by omega) (P := P1.out) (h := ?_) _ _ _ _ _ _ _ _ _ _ _ _ _ _ _ _ _ _ _ _ _ _ _ _ _ _ _ _ _ _ _ _ _ _ _ _ _ _ _ _ _ _ _ _ _ _ _ _ _ _ _ _ _ _ _ _ _ _ _ _ _ _ _ _ _ _ _ _ _ _ _ _ _ _ _ _ _ _ _ _ _ _ _ _ _ _ _
          intro gN w6 v6 M6 E6 hPM T6 X6 N6 g1 g2 g3
          have BB := hide (BA.out.trans E6.d.bel)
          clear E6 hPM T6 X6 N6 E T X P1 c0 c1
          go_wp2_with fail
          go_ret2
          exact ⟨.inr (.inr ⟨by omega, rfl⟩), BB.out⟩
      · obtain rfl : k = len := by omega
        have hsl : ss.length = k := by omega
        have hst : ss.take k = ss := List.take_of_length_le (by omega)
        rw [hst] at hM hN
        have j1 : ¬ ((k : Int) < (k : Int)) := by omega
        have BB := hide (BA.out.trans E.out.d.bel)
        have RB := hide (rbytes_any E.out.rw (by omega))
        clear E T X hfk hok2 hzk hNl hend hpre
        go_wp2_with fail
        refine RB.out.mono ?_
        rintro e w3 ⟨B, hB, a3, l3, c3, rfl, H3, b3, -⟩
        rw [hM.out.1, hM.out.2] at hB
        have hBl := H3.hlen
        have hB2 := hB.hi
        have P3 := refPut_any w3 none 0 0 [] (k : Int) (has_nil w3) (by omega) (by omega) (by omega)
        simp only [List.nil_append, Int.toNat_natCast] at P3
        have B3 := hide (BB.out.trans (b3.mono BB.out.size))
        replace P3 := hide P3
        replace H3 := hide H3
        replace hB := hide hB
        replace hBl := hide hBl
        clear RB b3 BB hM
        go_wp2_with fail
        refine P3.out.mono ?_
        rintro e w4 ⟨a4, l4, c4, rfl, H4, b4, -⟩
        have hl4 := H4.hlen
        have he4 := enc_len k
        have P4 := rPutB_any w4 a4 l4 c4 (enc k) H4 (by omega) a3 l3 c3 B (H3.out.kept b4 (Nat.le_refl _)) (by have := hBl.out; omega)
        rw [← hBl.out] at P4
        have B4 := hide (B3.out.trans (b4.mono B3.out.size))
        replace P4 := hide P4
        replace hl4 := hide hl4
        clear P3 b4 H4 H3 B3
        rw [hBl.out] at P4
        go_wp2_with fail
        refine P4.out.mono ?_
        rintro e w5 ⟨a5, l5, c5, rfl, H5, b5⟩
        rw [← hBl.out] at H5
        have hl5 := H5.hlen
        have SE := hide (rsealed_any w5 a5 l5 c5 _ H5 (by simp only [List.length_append] at hl5; have := enc_len B.length; have := hBl.out; omega))
        have B5 := hide (B4.out.trans (b5.mono B4.out.size))
        replace hl5 := hide hl5
        clear P4 b5 H5 B4
        go_wp2_with fail
        refine SE.out.mono ?_
        rintro e w6 ⟨a6, l6, c6, rfl, H6, b6, -⟩
        have B6 := hide (B5.out.trans (b6.mono B5.out.size))
        replace H6 := hide H6
        clear SE b6 B5
        go_wp2_with fail
        go_ret2
        exact ⟨.inl ⟨hsl, by omega, _, a6, l6, c6, ⟨B, hB.out, by rw [hsl]; rfl⟩, rfl, H6.out⟩, B6.out⟩
end Go.Proofs.YtmjjedbdedemcaaGreatDoor
