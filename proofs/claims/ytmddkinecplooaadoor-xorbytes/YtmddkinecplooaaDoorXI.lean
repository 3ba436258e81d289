/-
  xor.Put; the chapter's example.
-/
import Derived.Test.YtmddkinecplooaaDoorXH
namespace Go.Proofs.YtmddkinecplooaaDoor
open Go.RowKit
set_option linter.unusedVariables false
set_option linter.unusedSimpArgs false

theorem okSI_of {n a b : Nat} (h : OkS n a b) : okSI (n : Int) (a : Int) (b : Int) = true := by
  have := h.n
  rcases h.w with h | h <;> simp [okSI, isCnt, isWin] <;> omega
theorem okS_of {n a b : Int} (h : okSI n a b = true) : ∃ n' a' b' : Nat, n = (n' : Int) ∧ a = (a' : Int) ∧ b = (b' : Int) ∧ OkS n' a' b' := by
  simp [okSI, isCnt, isWin] at h
  refine ⟨n.toNat, a.toNat, b.toNat, by omega, by omega, by omega, by omega, ?_⟩
  unfold OkW
  omega


set_option maxRecDepth 100000 in
set_option maxHeartbeats 4000000 in
theorem putX {w : World} {base p A n0 : Nat} {v : Value} (h : Wr w base p v A n0) (ht : Tab w) (hb0 : 0 < base) {n L a b V : Nat} (hs : OkS n a b) (hL : L < 18446744073709551616) (hV : V < 18446744073709551616) (hroom : n0 + 78 ≤ 524288) :
    Calls Tryd.prog 12 #[.pointer (some ⟨p, 0, none⟩), .agg #[.int .i64 (n : Int), .int .u64 (L : Int), .int .i64 (a : Int), .int .i64 (b : Int)], .int .u64 (V : Int)] w fun e w' =>
      e = .returned (.tuple #[.agg #[.int .i64 ((n + 1 : Nat) : Int), .int .u64 (V : Int), .int .i64 ((cA n L a b V : Nat) : Int), .int .i64 ((cB n L a b V : Nat) : Int)], .int .i64 0]) ∧ ∃ v', Wr w' base p v' (A * 2 ^ cN n L a b V + cX n L a b V) (n0 + cN n L a b V) ∧ Did w w' base p v v' := by
  have E0 := WS.start h ht hb0
  have S1 := (Kx.new h 24 #[.int .i64 (n : Int), .int .u64 (L : Int), .int .i64 (a : Int), .int .i64 (b : Int)]).alloc (.cells #[.int .i64 0, .int .u64 0, .int .i64 0, .int .i64 0] 24)
  have E1 := E0.alloc (.cells #[.int .i64 (n : Int), .int .u64 (L : Int), .int .i64 (a : Int), .int .i64 (b : Int)] 24)
  have R1 := hide (Kx.new_at E1.wr (g := w.heap.size + 1) (by simp) 24 #[.int .i64 0, .int .u64 0, .int .i64 0, .int .i64 0])
  have E2 := hide (E1.alloc (.cells #[.int .i64 0, .int .u64 0, .int .i64 0, .int .i64 0] 24))
  replace S1 := hide S1
  have P1 := hide (putWr E2.out.wr 0 0 (by decide) (by decide) (by omega))
  have hsi := okSI_of hs
  have M := hide (fun w => mayBe_any (n : Int) (L : Int) (a : Int) (b : Int) w (by rcases hs.w with h | h <;> omega) (by rcases hs.w with h | h <;> omega))
  rw [hsi] at M
  have WR := hide (fun w v h ht => writeX (w := w) (base := base) (p := p) (A := A) (n0 := n0) (v := v) h ht hb0 hs hL hV hroom)
  have BE := hide (fun a' b' w => behind_any (n : Int) (L : Int) (a : Int) (b : Int) (V : Int) a' b' ((n + 1 : Nat) : Int) w (by omega) (by have := hs.n; omega) (by omega))
  clear E0 E1 h ht hs hL hV hsi
  replace hroom := hide hroom
  replace hb0 := hide hb0
  generalize n + 1 = n1 at *
  generalize cA n L a b V = a' at *
  generalize cB n L a b V = b' at *
  generalize cN n L a b V = N' at *
  generalize cX n L a b V = X' at *
  go_enter Tryd.func12, Tryd.ntmps12
  go_wp2_with fail
  refine P1.out.mono ?_
  rintro e w2 ⟨rfl, v2, W2, D2⟩
  simp only [Nat.pow_zero, Nat.mul_one, Nat.mod_one, Nat.add_zero] at W2
  have E3 := hide (E2.out.put D2 W2)
  have S3 := hide (S1.out.did D2)
  have R3 := hide (R1.out.did D2)
  clear P1 E2 S1 R1 W2 D2
  have s0 := S3.out.bx.st4.c0
  have s1 := S3.out.bx.st4.c1
  have s2 := S3.out.bx.st4.c2
  have s3 := S3.out.bx.st4.c3
  go_wp2_with fail
  refine (M.out _).mono ?_
  rintro e w3 ⟨rfl, b3⟩
  have E4 := hide (E3.out.below b3)
  have S4 := hide (S3.out.below b3)
  have R4 := hide (R3.out.below b3)
  clear E3 S3 R3 b3 M s0 s1 s2 s3
  have s0 := S4.out.bx.st4.c0
  have s1 := S4.out.bx.st4.c1
  have s2 := S4.out.bx.st4.c2
  have s3 := S4.out.bx.st4.c3
  go_wp2_with fail
  refine (WR.out _ _ E4.out.wr E4.out.t).mono ?_
  rintro e w5 ⟨rfl, v5, W5, D5⟩
  have E5 := hide ((E4.out.put D5 W5).alloc (.cells #[.int .i64 (a' : Int), .int .i64 (b' : Int)] 81))
  have S5 := hide ((S4.out.did D5).alloc (.cells #[.int .i64 (a' : Int), .int .i64 (b' : Int)] 81))
  have R5 := hide ((R4.out.did D5).alloc (.cells #[.int .i64 (a' : Int), .int .i64 (b' : Int)] 81))
  clear E4 S4 R4 W5 D5 WR s0 s1 s2 s3
  have s0 := S5.out.bx.st4.c0
  have s1 := S5.out.bx.st4.c1
  have s2 := S5.out.bx.st4.c2
  have s3 := S5.out.bx.st4.c3
  go_wp2_with fail
  refine (BE.out _ _ _).mono ?_
  rintro e w6 ⟨rfl, b6⟩
  have E6 := hide (E5.out.below b6)
  have R6 := hide (R5.out.below b6)
  clear E5 S5 R5 b6 BE s0 s1 s2 s3
  have X2 := (R6.out.bx.set4 (.int .i64 (n1 : Int)) (.int .u64 (V : Int)) (.int .i64 (a' : Int)) (.int .i64 (b' : Int))).st4
  have FIN := hide (E6.out.but (but_set4 w6 (w.heap.size + 1) (.int .i64 (n1 : Int)) (.int .u64 (V : Int)) (.int .i64 (a' : Int)) (.int .i64 (b' : Int))) (by omega) R6.out.nf)
  obtain ⟨p0, p1, p2, p3, p4, p5, p6, p7, p8, p9, p10⟩ := R6.out.bx.st4
  have o0 := X2.c0
  have o1 := X2.c1
  have o2 := X2.c2
  have o3 := X2.c3
  clear X2
  go_wp2_with fail
  refine bodyPost_ret (v := .tuple #[.agg #[.int .i64 (n1 : Int), .int .u64 (V : Int), .int .i64 (a' : Int), .int .i64 (b' : Int)], .int .i64 0]) (by simp [results, Tryd.f12, go_sem, o0, o1, o2, o3]) rfl ?_
  exact ⟨rfl, v5, FIN.out.wr, FIN.out.d⟩

theorem putXi {w : World} {base p A n0 : Nat} {v : Value} (h : Wr w base p v A n0) (ht : Tab w) (hb0 : 0 < base) {n L a b V a' b' X Y : Nat} {ni Li ai bi Vi ni' ai' bi' : Int} (hs : OkS n a b) (hL : L < 18446744073709551616) (hV : V < 18446744073709551616) (hroom : n0 + 78 ≤ 524288)
    (e1 : (n : Int) = ni) (e2 : (L : Int) = Li) (e3 : (a : Int) = ai) (e4 : (b : Int) = bi) (e5 : (V : Int) = Vi) (e6 : ((n + 1 : Nat) : Int) = ni') (hA : cA n L a b V = a') (e7 : (a' : Int) = ai') (hB : cB n L a b V = b') (e8 : (b' : Int) = bi') (hY : cN n L a b V = Y) (hX : cX n L a b V = X) :
    Calls Tryd.prog 12 #[.pointer (some ⟨p, 0, none⟩), .agg #[.int .i64 ni, .int .u64 Li, .int .i64 ai, .int .i64 bi], .int .u64 Vi] w fun e w' =>
      e = .returned (.tuple #[.agg #[.int .i64 ni', .int .u64 Vi, .int .i64 ai', .int .i64 bi'], .int .i64 0]) ∧ ∃ v', Wr w' base p v' (A * 2 ^ Y + X) (n0 + Y) ∧ Did w w' base p v v' := by
  subst e1 e2 e3 e4 e5 e6 hA e7 hB e8 hY hX
  exact putX h ht hb0 hs hL hV hroom

set_option maxRecDepth 100000 in
set_option maxHeartbeats 4000000 in
theorem putX_no {w : World} {base p A n0 : Nat} {v : Value} (h : Wr w base p v A n0) (ht : Tab w) (hb0 : 0 < base) {n L a b V : Int} (hno : okSI n a b = false) (ha : a ≤ 9223372036854775807) (hb : b ≤ 9223372036854775807) (hroom : n0 + 78 ≤ 524288) :
    Calls Tryd.prog 12 #[.pointer (some ⟨p, 0, none⟩), .agg #[.int .i64 n, .int .u64 L, .int .i64 a, .int .i64 b], .int .u64 V] w fun e w' =>
      e = .returned (.tuple #[.agg #[.int .i64 0, .int .u64 0, .int .i64 0, .int .i64 0], .int .i64 2]) ∧ ∃ v', Wr w' base p v' A n0 ∧ Did w w' base p v v' := by
  have E0 := WS.start h ht hb0
  have hz := zero24
  have S1 := (Kx.new h 24 #[.int .i64 n, .int .u64 L, .int .i64 a, .int .i64 b]).alloc (.cells #[.int .i64 0, .int .u64 0, .int .i64 0, .int .i64 0] 24)
  have E1 := E0.alloc (.cells #[.int .i64 n, .int .u64 L, .int .i64 a, .int .i64 b] 24)
  have R1 := hide (Kx.new_at E1.wr (g := w.heap.size + 1) (by simp) 24 #[.int .i64 0, .int .u64 0, .int .i64 0, .int .i64 0])
  have E2 := hide (E1.alloc (.cells #[.int .i64 0, .int .u64 0, .int .i64 0, .int .i64 0] 24))
  replace S1 := hide S1
  have P1 := hide (putWr E2.out.wr 0 0 (by decide) (by decide) (by omega))
  have M := hide (fun w => mayBe_any n L a b w ha hb)
  rw [hno] at M
  clear E0 E1 h ht hno
  replace hroom := hide hroom
  replace hb0 := hide hb0
  go_enter Tryd.func12, Tryd.ntmps12
  go_wp2_with fail
  refine P1.out.mono ?_
  rintro e w2 ⟨rfl, v2, W2, D2⟩
  simp only [Nat.pow_zero, Nat.mul_one, Nat.mod_one, Nat.add_zero] at W2
  have E3 := hide (E2.out.put D2 W2)
  have S3 := hide (S1.out.did D2)
  have R3 := hide (R1.out.did D2)
  clear P1 E2 S1 R1 W2 D2
  have s0 := S3.out.bx.st4.c0
  have s1 := S3.out.bx.st4.c1
  have s2 := S3.out.bx.st4.c2
  have s3 := S3.out.bx.st4.c3
  go_wp2_with fail
  refine (M.out _).mono ?_
  rintro e w6 ⟨rfl, b3⟩
  have E6 := hide (E3.out.below b3)
  have R6 := hide (R3.out.below b3)
  clear E3 S3 R3 b3 M s0 s1 s2 s3
  have X2 := (R6.out.bx.set4 (.int .i64 0) (.int .u64 0) (.int .i64 0) (.int .i64 0)).st4
  have FIN := hide (E6.out.but (but_set4 w6 (w.heap.size + 1) (.int .i64 0) (.int .u64 0) (.int .i64 0) (.int .i64 0)) (by omega) R6.out.nf)
  obtain ⟨p0, p1, p2, p3, p4, p5, p6, p7, p8, p9, p10⟩ := R6.out.bx.st4
  have o0 := X2.c0
  have o1 := X2.c1
  have o2 := X2.c2
  have o3 := X2.c3
  clear X2
  go_wp2_with fail
  refine bodyPost_ret (v := .tuple #[.agg #[.int .i64 0, .int .u64 0, .int .i64 0, .int .i64 0], .int .i64 2]) (by simp [results, Tryd.f12, go_sem, o0, o1, o2, o3]) rfl ?_
  exact ⟨rfl, v2, FIN.out.wr, FIN.out.d⟩
end Go.Proofs.YtmddkinecplooaaDoor
