/-
  The reference of xor.Put.
-/
import Derived.Test.YtmjjedbdedemcaaGreatDoorRB
import Derived.Test.YtmjjedbdedemcaaGreatDoorXH
namespace Go.Proofs.YtmjjedbdedemcaaGreatDoor
open Go.RowKit
set_option linter.unusedVariables false

set_option linter.unusedSimpArgs false

set_option maxRecDepth 100000 in
set_option maxHeartbeats 1000000 in
theorem right_anyX (n L a b : Int) (w : World) : Calls Tryz.prog 44 #[.agg #[.int .i64 n, .int .u64 L, .int .i64 a, .int .i64 b]] w fun e w' => e = .returned (.bool (okSIX n a b)) ∧ Below w.heap.size w w' := by
  have B0 : Hid (Below w.heap.size w (w.alloc (.cells #[.int .i64 n, .int .u64 L, .int .i64 a, .int .i64 b] 51))) := (Below.refl _ w).alloc (Nat.le_refl _) _
  unfold okSIX isCnt isWin
  by_cases h1 : n < 0
  · go_enter Tryz.func44, Tryz.ntmps44
    go_wp2
    go_ret
    exact ⟨ret_bool (by first | (simp; omega) | (simp; done) | omega | (rw [Bool.eq_iff_iff]; simp; omega)), B0.out⟩
  · by_cases h2 : 4096 < n
    · go_enter Tryz.func44, Tryz.ntmps44
      go_wp2
      go_ret
      exact ⟨ret_bool (by first | (simp; omega) | (simp; done) | omega | (rw [Bool.eq_iff_iff]; simp; omega)), B0.out⟩
    · by_cases h3 : a = 64
      · subst h3
        by_cases h4 : b = 0
        · subst h4
          go_enter Tryz.func44, Tryz.ntmps44
          go_wp2
          go_ret
          exact ⟨ret_bool (by first | (simp; omega) | (simp; done) | omega | (rw [Bool.eq_iff_iff]; simp; omega)), B0.out⟩
        · go_enter Tryz.func44, Tryz.ntmps44
          go_wp2
          go_ret
          exact ⟨ret_bool (by first | (simp; omega) | (simp; done) | omega | (rw [Bool.eq_iff_iff]; simp; omega)), B0.out⟩
      · by_cases h4 : 0 ≤ a
        · by_cases h5 : a ≤ 63
          · by_cases h6 : 0 ≤ b
            · by_cases h7 : b ≤ 63
              · by_cases h8 : a + b ≤ 63
                · go_enter Tryz.func44, Tryz.ntmps44
                  go_wp2
                  go_ret
                  exact ⟨ret_bool (by first | (simp; omega) | (simp; done) | omega | (rw [Bool.eq_iff_iff]; simp; omega)), B0.out⟩
                · go_enter Tryz.func44, Tryz.ntmps44
                  go_wp2
                  go_ret
                  exact ⟨ret_bool (by first | (simp; omega) | (simp; done) | omega | (rw [Bool.eq_iff_iff]; simp; omega)), B0.out⟩
              · go_enter Tryz.func44, Tryz.ntmps44
                go_wp2
                go_ret
                exact ⟨ret_bool (by first | (simp; omega) | (simp; done) | omega | (rw [Bool.eq_iff_iff]; simp; omega)), B0.out⟩
            · go_enter Tryz.func44, Tryz.ntmps44
              go_wp2
              go_ret
              exact ⟨ret_bool (by first | (simp; omega) | (simp; done) | omega | (rw [Bool.eq_iff_iff]; simp; omega)), B0.out⟩
          · go_enter Tryz.func44, Tryz.ntmps44
            go_wp2
            go_ret
            exact ⟨ret_bool (by first | (simp; omega) | (simp; done) | omega | (rw [Bool.eq_iff_iff]; simp; omega)), B0.out⟩
        · go_enter Tryz.func44, Tryz.ntmps44
          go_wp2
          go_ret
          exact ⟨ret_bool (by first | (simp; omega) | (simp; done) | omega | (rw [Bool.eq_iff_iff]; simp; omega)), B0.out⟩

theorem lead_lt {x k : Nat} (h0 : 0 < x) (hx : x < 18446744073709551616) (hk : k < lz x) : x * 2 ^ k < 9223372036854775808 := by
  have h1 := lz_hi h0 hx
  have h2 := lz_le x
  have h3 : x * 2 ^ k < 2 ^ (64 - lz x) * 2 ^ k := (Nat.mul_lt_mul_right (Nat.two_pow_pos k)).2 h1
  rw [← Nat.pow_add] at h3
  have h4 : 2 ^ (64 - lz x + k) ≤ 2 ^ 63 := Nat.pow_le_pow_right (by decide) (by omega)
  omega
theorem lead_ge {x : Nat} (h0 : 0 < x) (hx : x < 18446744073709551616) : 9223372036854775808 ≤ x * 2 ^ lz x := by
  have h1 := lz_lo h0 hx
  have h2 := lz_le x
  have h3 : 2 ^ (63 - lz x) * 2 ^ lz x ≤ x * 2 ^ lz x := Nat.mul_le_mul_right _ h1
  rw [← Nat.pow_add, show 63 - lz x + lz x = 63 by omega] at h3
  exact h3
theorem trail_even {x k : Nat} (h0 : 0 < x) (hx : x < 18446744073709551616) (hk : k < tz x) : x / 2 ^ k % 2 = 0 := by
  obtain ⟨m, h1, h2⟩ := tz_spec h0 hx
  have e : x = 2 ^ k * (2 * (2 ^ (tz x - k - 1) * (2 * m + 1))) := by
    rw [← Nat.mul_assoc, ← Nat.mul_assoc, ← Nat.pow_succ, ← Nat.pow_add, show k + 1 + (tz x - k - 1) = tz x by omega]
    exact h1
  rw [e, Nat.mul_div_cancel_left _ (Nat.two_pow_pos k)]
  omega
theorem trail_odd {x : Nat} (h0 : 0 < x) (hx : x < 18446744073709551616) : x / 2 ^ tz x % 2 = 1 := by
  obtain ⟨m, h1, h2⟩ := tz_spec h0 hx
  have e : x / 2 ^ tz x = 2 * m + 1 := by
    have : x / 2 ^ tz x = 2 ^ tz x * (2 * m + 1) / 2 ^ tz x := by rw [← h1]
    rw [this, Nat.mul_div_cancel_left _ (Nat.two_pow_pos _)]
  omega

set_option maxHeartbeats 2000000 in
theorem ends_any (x : Nat) (w : World) (h0 : 0 < x) (hx : x < 18446744073709551616) : Calls Tryz.prog 45 #[.int .u64 (x : Int)] w fun e w' => e = .returned (.tuple #[.int .i64 ((lz x : Nat) : Int), .int .i64 ((tz x : Nat) : Int)]) ∧ w' = w := by
  have hl := hide (fun k => lead_lt (k := k) h0 hx)
  have hg := hide (lead_ge h0 hx)
  have he := hide (fun k => trail_even (k := k) h0 hx)
  have ho := hide (trail_odd h0 hx)
  have hlz := lz_le x
  have htz := hide (show tz x ≤ 63 by have := lz_tz h0 hx; omega)
  replace h0 := hide h0
  replace hx := hide hx
  generalize lz x = A at *
  generalize tz x = B at *
  go_enter Tryz.func45, Tryz.ntmps45
  go_wp2_with fail
  go_loopw [4, 6] (fun lv yv wr => ∃ (k y : Nat), k ≤ A ∧ lv = .int .i64 (k : Int) ∧ yv = .int .u64 (y : Int) ∧ Hid (y = x * 2 ^ k) ∧ wr = w) (fun lv _ _ => A - (intOf lv).toNat)
  case atStart => exact ⟨0, x, Nat.zero_le _, rfl, rfl, by show _ = _; simp, rfl⟩
  case round =>
    obtain ⟨k, y, hk, rfl, rfl, hy, rfl⟩ := hrel
    by_cases hlt : k < A
    · have h1 := hl.out k hlt
      rw [← hy.out] at h1
      have i1 : (y : Int) < 9223372036854775808 := by omega
      have i2 : (k : Int) ≤ 63 := by omega
      have hy2 : Hid (2 * y = x * 2 ^ (k + 1)) := by show _ = _; rw [hy.out, Nat.pow_succ, Nat.mul_comm 2 (x * 2 ^ k), Nat.mul_assoc]
      have e2 : (2 : Int) * (y : Int) = ((2 * y : Nat) : Int) := by omega
      generalize 2 * y = y' at *
      have i3 : (y' : Int) < 18446744073709551616 := by omega
      replace h1 := hide h1
      go_wp2_with fail
      go_roundw
      case rel => exact ⟨k + 1, y', by omega, by go_num, rfl, hy2, trivial⟩
      case measure => simp [intOf]; omega
    · obtain rfl : k = A := by omega
      have h1 := hg.out
      rw [← hy.out] at h1
      have i1 : ¬ (y : Int) < 9223372036854775808 := by omega
      replace h1 := hide h1
      clear hl hg
      go_wp2_with fail
      go_loopw [5, 7] (fun tv zv w2 => ∃ (j z : Nat), j ≤ B ∧ tv = .int .i64 (j : Int) ∧ zv = .int .u64 (z : Int) ∧ Hid (z = x / 2 ^ j) ∧ w2 = wr) (fun tv _ _ => B - (intOf tv).toNat)
      case atStart => exact ⟨0, x, Nat.zero_le _, rfl, rfl, by show _ = _; simp, rfl⟩
      case round =>
        obtain ⟨j, z, hj, rfl, rfl, hz, rfl⟩ := hrel
        by_cases hlt2 : j < B
        · have h2 := he.out j hlt2
          rw [← hz.out] at h2
          have i4 : (z : Int) % 2 = 0 := by omega
          have i5 : (j : Int) ≤ 63 := by have := htz.out; omega
          have hz2 : Hid (z / 2 = x / 2 ^ (j + 1)) := by show _ = _; rw [hz.out, Nat.pow_succ, Nat.div_div_eq_div_mul]
          have e2 : (z : Int) / 2 = ((z / 2 : Nat) : Int) := by omega
          have hzx : z / 2 ≤ x := by rw [hz.out]; exact Nat.le_trans (Nat.div_le_self _ _) (Nat.div_le_self _ _)
          have hxx := hx.out
          have i6 : ((z / 2 : Nat) : Int) < 18446744073709551616 := by omega
          replace hzx := hide hzx
          replace hxx := hide hxx
          generalize z / 2 = z' at *
          replace h2 := hide h2
          go_wp2_with fail
          go_roundw
          case rel => exact ⟨j + 1, z', by omega, by go_num, rfl, hz2, trivial⟩
          case measure => simp [intOf]; omega
        · obtain rfl : j = B := by omega
          have h2 := ho.out
          rw [← hz.out] at h2
          have i4 : ¬ (z : Int) % 2 = 0 := by omega
          replace h2 := hide h2
          go_wp2_with fail
          go_ret2
          exact ⟨rfl, rfl⟩
set_option linter.unusedSimpArgs false

theorem Kx.newR {w : World} {base p : Nat} {v : Value} {M : List Bool} (h : RW w base p v M) (t : TypeId) (xs : Array Value) : Kx (w.alloc (.cells xs t)) p v w.heap.size t xs := ⟨Bx.new w t xs, h.not (Nat.le_refl _)⟩
theorem Kx.newR_at {w : World} {base p : Nat} {v : Value} {M : List Bool} (h : RW w base p v M) {g : Nat} (hg : g = w.heap.size) (t : TypeId) (xs : Array Value) : Kx (w.alloc (.cells xs t)) p v g t xs := by subst hg; exact Kx.newR h t xs
/-- The reference's writer on its way from w0 to w. -/
structure RWS (w0 w : World) (base p : Nat) (v0 v : Value) (M : List Bool) : Prop where
  rw : RW w base p v M
  d : Did w0 w base p v0 v
  bw : base ≤ w0.heap.size
section
variable {w0 w w' : World} {base p : Nat} {v0 v v' : Value} {M M' : List Bool}
theorem RWS.start (h : RW w base p v M) : RWS w w base p v v M := ⟨h, Did.refl _ _ _ _, by have := h.lt; have := h.ge; omega⟩
theorem RWS.below (h : RWS w0 w base p v0 v M) (hb : Below w.heap.size w w') : RWS w0 w' base p v0 v M :=
  ⟨h.rw.below hb (Nat.le_refl _), h.d.post hb (by have := h.rw.lt; have := h.rw.ge; omega), h.bw⟩
theorem RWS.alloc (h : RWS w0 w base p v0 v M) (o : Obj) : RWS w0 (w.alloc o) base p v0 v M := h.below ((Below.refl _ _).alloc (Nat.le_refl _) _)
theorem RWS.put (h : RWS w0 w base p v0 v M) (d : Did w w' base p v v') (hw : RW w' base p v' M') : RWS w0 w' base p v0 v' M' := ⟨hw, h.d.trans d, h.bw⟩
theorem RWS.drew (h : RWS w0 w base p v0 v M) : RWS w0 w.drew base p v0 v M := ⟨h.rw.drew, h.d.drew, h.bw⟩
theorem RWS.but (h : RWS w0 w base p v0 v M) {g : Nat} (hb : But (fun i => i = g) w w') (hg : w0.heap.size ≤ g) (hn : ¬ fp p v g) : RWS w0 w' base p v0 v M := by
  have hbw := h.bw
  have hlt := h.rw.lt
  have hge := h.rw.ge
  have hbel : Below base w w' := hb.below (by omega) (fun i hi => by omega)
  exact ⟨h.rw.kept hb (fun i hi => by rw [hi]; exact hn), ⟨h.d.bel.trans hbel, h.d.but.trans hb (fun i hi e => by omega), h.d.own⟩, h.bw⟩
end
theorem two_puts (M c k y s : Nat) : (M * 2 ^ k + c) * 2 ^ s + y = M * 2 ^ (k + s) + (c * 2 ^ s + y) := by
  rw [Nat.pow_add, Nat.add_mul, Nat.mul_assoc, Nat.add_assoc]

set_option maxRecDepth 100000 in
set_option maxHeartbeats 4000000 in
theorem rput0 {w : World} {base p : Nat} {v : Value} {M : List Bool} (h : RW w base p v M) {L a b V : Nat} (hs : OkSX 0 a b) (hV : V < 18446744073709551616) (hroom : M.length + 78 ≤ 524288) :
    Calls Tryz.prog 20 #[.pointer (some ⟨p, 0, none⟩), .agg #[.int .i64 0, .int .u64 (L : Int), .int .i64 (a : Int), .int .i64 (b : Int)], .int .u64 (V : Int)] w fun e w' =>
      e = .returned (.tuple #[.agg #[.int .i64 1, .int .u64 (V : Int), .int .i64 (a : Int), .int .i64 (b : Int)], .int .i64 0]) ∧ ∃ v' M', RW w' base p v' M' ∧ numB M' = numB M * 2 ^ 64 + V ∧ M'.length = M.length + 64 ∧ Did w w' base p v v' := by
  have E0 := RWS.start h
  have hz := zero36
  have S1 := (Kx.newR h 51 #[.int .i64 0, .int .u64 (L : Int), .int .i64 (a : Int), .int .i64 (b : Int)]).alloc (.cells #[.int .i64 0, .int .u64 0, .int .i64 0, .int .i64 0] 51)
  have E1 := E0.alloc (.cells #[.int .i64 0, .int .u64 (L : Int), .int .i64 (a : Int), .int .i64 (b : Int)] 51)
  have R1 := hide (Kx.newR_at E1.rw (g := w.heap.size + 1) (by simp) 51 #[.int .i64 0, .int .u64 0, .int .i64 0, .int .i64 0])
  have E2 := hide (E1.alloc (.cells #[.int .i64 0, .int .u64 0, .int .i64 0, .int .i64 0] 51))
  replace S1 := hide S1
  have RI := hide (right_anyX 0 (L : Int) (a : Int) (b : Int))
  rw [show okSIX 0 (a : Int) (b : Int) = true from okSI_ofX hs] at RI
  have hmod := hide (Nat.mod_eq_of_lt (show V < 2 ^ 64 from hV))
  replace hV := hide hV
  replace hroom := hide hroom
  clear E0 E1 h hs
  go_enter Tryz.func20, Tryz.ntmps20
  go_wp2_with fail
  refine (RI.out _).mono ?_
  rintro e w2 ⟨rfl, b2⟩
  have E3' := E2.out.below b2
  have O3 := hide (Kx.newR E3'.rw 51 #[.int .i64 1, .int .u64 (V : Int), .int .i64 (a : Int), .int .i64 (b : Int)])
  have E3 := hide (E3'.alloc (.cells #[.int .i64 1, .int .u64 (V : Int), .int .i64 (a : Int), .int .i64 (b : Int)] 51))
  have S3 := hide ((S1.out.below b2).alloc (.cells #[.int .i64 1, .int .u64 (V : Int), .int .i64 (a : Int), .int .i64 (b : Int)] 51))
  have R3 := hide ((R1.out.below b2).alloc (.cells #[.int .i64 1, .int .u64 (V : Int), .int .i64 (a : Int), .int .i64 (b : Int)] 51))
  have sb := S1.out.bx.below b2
  have s0 := sb.st4.c0
  have s1 := sb.st4.c1
  have s2 := sb.st4.c2
  have s3 := sb.st4.c3
  have hgO : Hid (w2.heap.size ≠ w.heap.size + 1 ∧ w.heap.size ≤ w2.heap.size) := by have := (R1.out.below b2).bx.lt; show _ ∧ _; omega
  have t0 := S3.out.bx.st4.c0
  have t1 := S3.out.bx.st4.c1
  have t2 := S3.out.bx.st4.c2
  have t3 := S3.out.bx.st4.c3
  clear E2 S1 R1 b2 RI E3' sb
  have P := hide (putRW E3.out.rw V 64 (xi := (V : Int)) (ni := 64) rfl rfl hV.out (by decide) (by have := hroom.out; omega))
  rw [hmod.out] at P
  go_wp2_with fail
  refine P.out.mono ?_
  rintro e w6 ⟨rfl, v6, M6, W6, n6, l6, D6⟩
  have E6 := hide (E3.out.put D6 W6)
  have R6 := hide (R3.out.did D6)
  have O6 := hide (O3.out.did D6)
  replace n6 := hide n6
  replace l6 := hide l6
  clear E3 R3 O3 S3 P W6 D6 s0 s1 s2 s3 t0 t1 t2 t3
  have y0 := O6.out.bx.st4.c0
  have y1 := O6.out.bx.st4.c1
  have y2 := O6.out.bx.st4.c2
  have y3 := O6.out.bx.st4.c3
  have X2 := (R6.out.bx.set4 (.int .i64 1) (.int .u64 (V : Int)) (.int .i64 (a : Int)) (.int .i64 (b : Int))).st4
  have FIN := hide (E6.out.but (but_set4 w6 (w.heap.size + 1) (.int .i64 1) (.int .u64 (V : Int)) (.int .i64 (a : Int)) (.int .i64 (b : Int))) (by omega) R6.out.nf)
  obtain ⟨p0, p1, p2, p3, p4, p5, p6, p7, p8, p9, p10⟩ := R6.out.bx.st4
  have z0 := X2.c0
  have z1 := X2.c1
  have z2 := X2.c2
  have z3 := X2.c3
  clear X2
  go_wp2_with fail
  refine bodyPost_ret (v := .tuple #[.agg #[.int .i64 1, .int .u64 (V : Int), .int .i64 (a : Int), .int .i64 (b : Int)], .int .i64 0]) (by simp [results, Tryz.f20, go_sem, z0, z1, z2, z3]) rfl ?_
  exact ⟨rfl, v6, M6, FIN.out.rw, n6.out, l6.out, FIN.out.d⟩

set_option maxRecDepth 100000 in
set_option maxHeartbeats 4000000 in
theorem rput1z {w : World} {base p : Nat} {v : Value} {M : List Bool} (h : RW w base p v M) {n L a b V : Nat} (hn : n ≠ 0) (hs : OkSX n a b) (hL : L < 18446744073709551616) (hV : V < 18446744073709551616) (hx0 : V ^^^ L = 0) (hroom : M.length + 78 ≤ 524288) :
    Calls Tryz.prog 20 #[.pointer (some ⟨p, 0, none⟩), .agg #[.int .i64 (n : Int), .int .u64 (L : Int), .int .i64 (a : Int), .int .i64 (b : Int)], .int .u64 (V : Int)] w fun e w' =>
      e = .returned (.tuple #[.agg #[.int .i64 ((n : Int) + 1), .int .u64 (V : Int), .int .i64 (a : Int), .int .i64 (b : Int)], .int .i64 0]) ∧ ∃ v' M', RW w' base p v' M' ∧ numB M' = numB M * 2 ^ 1 + 0 ∧ M'.length = M.length + 1 ∧ Did w w' base p v v' := by
  have E0 := RWS.start h
  have hz := zero36
  have S1 := (Kx.newR h 51 #[.int .i64 (n : Int), .int .u64 (L : Int), .int .i64 (a : Int), .int .i64 (b : Int)]).alloc (.cells #[.int .i64 0, .int .u64 0, .int .i64 0, .int .i64 0] 51)
  have E1 := E0.alloc (.cells #[.int .i64 (n : Int), .int .u64 (L : Int), .int .i64 (a : Int), .int .i64 (b : Int)] 51)
  have R1 := hide (Kx.newR_at E1.rw (g := w.heap.size + 1) (by simp) 51 #[.int .i64 0, .int .u64 0, .int .i64 0, .int .i64 0])
  have E2 := hide (E1.alloc (.cells #[.int .i64 0, .int .u64 0, .int .i64 0, .int .i64 0] 51))
  replace S1 := hide S1
  have RI := hide (right_anyX (n : Int) (L : Int) (a : Int) (b : Int))
  rw [okSI_ofX hs] at RI
  have hxor := u64_xor_nat V L hV hL
  rw [hx0, show ((0 : Nat) : Int) = 0 from rfl] at hxor
  have i0 : ¬ (n : Int) = 0 := by omega
  have i1 : (n : Int) ≤ 4096 := by have := hs.n; omega
  have i2 : 0 ≤ (n : Int) := by omega
  replace hroom := hide hroom
  clear E0 E1 h hs hx0 hV hL hn
  go_enter Tryz.func20, Tryz.ntmps20
  go_wp2_with fail
  refine (RI.out _).mono ?_
  rintro e w2 ⟨rfl, b2⟩
  have E3' := E2.out.below b2
  have O3 := hide (Kx.newR E3'.rw 51 #[.int .i64 ((n : Int) + 1), .int .u64 (V : Int), .int .i64 (a : Int), .int .i64 (b : Int)])
  have E3 := hide (E3'.alloc (.cells #[.int .i64 ((n : Int) + 1), .int .u64 (V : Int), .int .i64 (a : Int), .int .i64 (b : Int)] 51))
  have S3 := hide ((S1.out.below b2).alloc (.cells #[.int .i64 ((n : Int) + 1), .int .u64 (V : Int), .int .i64 (a : Int), .int .i64 (b : Int)] 51))
  have R3 := hide ((R1.out.below b2).alloc (.cells #[.int .i64 ((n : Int) + 1), .int .u64 (V : Int), .int .i64 (a : Int), .int .i64 (b : Int)] 51))
  have sb := S1.out.bx.below b2
  have s0 := sb.st4.c0
  have s1 := sb.st4.c1
  have s2 := sb.st4.c2
  have s3 := sb.st4.c3
  have hgO : Hid (w2.heap.size ≠ w.heap.size + 1 ∧ w.heap.size ≤ w2.heap.size) := by have := (R1.out.below b2).bx.lt; show _ ∧ _; omega
  have t0 := S3.out.bx.st4.c0
  have t1 := S3.out.bx.st4.c1
  have t2 := S3.out.bx.st4.c2
  have t3 := S3.out.bx.st4.c3
  clear E2 S1 R1 b2 RI E3' sb
  have P := hide (putRW E3.out.rw 0 1 (xi := 0) (ni := 1) rfl rfl (by decide) (by decide) (by have := hroom.out; omega))
  go_wp2_with fail
  refine P.out.mono ?_
  rintro e w6 ⟨rfl, v6, M6, W6, n6, l6, D6⟩
  have E6 := hide (E3.out.put D6 W6)
  have R6 := hide (R3.out.did D6)
  have O6 := hide (O3.out.did D6)
  replace n6 := hide n6
  replace l6 := hide l6
  clear E3 R3 O3 S3 P W6 D6 s0 s1 s2 s3 t0 t1 t2 t3
  have y0 := O6.out.bx.st4.c0
  have y1 := O6.out.bx.st4.c1
  have y2 := O6.out.bx.st4.c2
  have y3 := O6.out.bx.st4.c3
  have X2 := (R6.out.bx.set4 (.int .i64 ((n : Int) + 1)) (.int .u64 (V : Int)) (.int .i64 (a : Int)) (.int .i64 (b : Int))).st4
  have FIN := hide (E6.out.but (but_set4 w6 (w.heap.size + 1) (.int .i64 ((n : Int) + 1)) (.int .u64 (V : Int)) (.int .i64 (a : Int)) (.int .i64 (b : Int))) (by omega) R6.out.nf)
  obtain ⟨p0, p1, p2, p3, p4, p5, p6, p7, p8, p9, p10⟩ := R6.out.bx.st4
  have z0 := X2.c0
  have z1 := X2.c1
  have z2 := X2.c2
  have z3 := X2.c3
  clear X2
  go_wp2_with fail
  refine bodyPost_ret (v := .tuple #[.agg #[.int .i64 ((n : Int) + 1), .int .u64 (V : Int), .int .i64 (a : Int), .int .i64 (b : Int)], .int .i64 0]) (by simp [results, Tryz.f20, go_sem, z0, z1, z2, z3]) rfl ?_
  exact ⟨rfl, v6, M6, FIN.out.rw, n6.out, l6.out, FIN.out.d⟩

set_option maxRecDepth 100000 in
set_option maxHeartbeats 4000000 in
theorem rput1i {w : World} {base p : Nat} {v : Value} {M : List Bool} (h : RW w base p v M) {n L a b V x s y : Nat} (hn : n ≠ 0) (hs : OkSX n a b) (hL : L < 18446744073709551616) (hV : V < 18446744073709551616) (hxe : V ^^^ L = x) (hx0 : x ≠ 0) (hin : inW a b x) (hss : s = 64 - a - b) (hs64 : s ≤ 64) (hyx : x / 2 ^ b = y) (hys : y < 2 ^ s) (hab : a + b ≤ 63) (hroom : M.length + 78 ≤ 524288) :
    Calls Tryz.prog 20 #[.pointer (some ⟨p, 0, none⟩), .agg #[.int .i64 (n : Int), .int .u64 (L : Int), .int .i64 (a : Int), .int .i64 (b : Int)], .int .u64 (V : Int)] w fun e w' =>
      e = .returned (.tuple #[.agg #[.int .i64 ((n : Int) + 1), .int .u64 (V : Int), .int .i64 (a : Int), .int .i64 (b : Int)], .int .i64 0]) ∧ ∃ v' M', RW w' base p v' M' ∧ numB M' = numB M * 2 ^ (2 + s) + (2 * 2 ^ s + y) ∧ M'.length = M.length + (2 + s) ∧ Did w w' base p v v' := by
  have E0 := RWS.start h
  have hz := zero36
  have S1 := (Kx.newR h 51 #[.int .i64 (n : Int), .int .u64 (L : Int), .int .i64 (a : Int), .int .i64 (b : Int)]).alloc (.cells #[.int .i64 0, .int .u64 0, .int .i64 0, .int .i64 0] 51)
  have E1 := E0.alloc (.cells #[.int .i64 (n : Int), .int .u64 (L : Int), .int .i64 (a : Int), .int .i64 (b : Int)] 51)
  have R1 := hide (Kx.newR_at E1.rw (g := w.heap.size + 1) (by simp) 51 #[.int .i64 0, .int .u64 0, .int .i64 0, .int .i64 0])
  have E2 := hide (E1.alloc (.cells #[.int .i64 0, .int .u64 0, .int .i64 0, .int .i64 0] 51))
  replace S1 := hide S1
  have RI := hide (right_anyX (n : Int) (L : Int) (a : Int) (b : Int))
  rw [okSI_ofX hs] at RI
  have hxor := u64_xor_nat V L hV hL
  have hx := xor64 hV hL
  rw [hxe] at hxor hx
  have EN := hide (fun w => ends_any x w (by omega) hx)
  have i0 : ¬ (n : Int) = 0 := by omega
  have i1 : (n : Int) ≤ 4096 := by have := hs.n; omega
  have i2 : 0 ≤ (n : Int) := by omega
  have i3 : ¬ (x : Int) = 0 := by omega
  obtain ⟨hi1, hi2⟩ := hin
  have hlz := lz_le x
  generalize lz x = A at *
  generalize tz x = B at *
  have i4 : (a : Int) < 64 := by omega
  have i5 : (a : Int) ≤ (A : Int) := by omega
  have i6 : (b : Int) ≤ (B : Int) := by omega
  have ha63 := hide (show a ≤ 63 by omega)
  have hb63 := hide (show b ≤ 63 by omega)
  replace hroom := hide hroom
  replace hx := hide hx
  replace hss := hide hss
  replace hs64 := hide hs64
  replace hyx := hide hyx
  replace hys := hide hys
  replace hab := hide hab
  clear E0 E1 h hs hx0 hV hL hn hxe
  go_enter Tryz.func20, Tryz.ntmps20
  go_wp2_with fail
  refine (RI.out _).mono ?_
  rintro e w2 ⟨rfl, b2⟩
  have E3' := E2.out.below b2
  have O3 := hide (Kx.newR E3'.rw 51 #[.int .i64 ((n : Int) + 1), .int .u64 (V : Int), .int .i64 (a : Int), .int .i64 (b : Int)])
  have E3 := hide (E3'.alloc (.cells #[.int .i64 ((n : Int) + 1), .int .u64 (V : Int), .int .i64 (a : Int), .int .i64 (b : Int)] 51))
  have S3 := hide ((S1.out.below b2).alloc (.cells #[.int .i64 ((n : Int) + 1), .int .u64 (V : Int), .int .i64 (a : Int), .int .i64 (b : Int)] 51))
  have R3 := hide ((R1.out.below b2).alloc (.cells #[.int .i64 ((n : Int) + 1), .int .u64 (V : Int), .int .i64 (a : Int), .int .i64 (b : Int)] 51))
  have sb := S1.out.bx.below b2
  have s0 := sb.st4.c0
  have s1 := sb.st4.c1
  have s2 := sb.st4.c2
  have s3 := sb.st4.c3
  have hgO : Hid (w2.heap.size ≠ w.heap.size + 1 ∧ w.heap.size ≤ w2.heap.size) := by have := (R1.out.below b2).bx.lt; show _ ∧ _; omega
  have t0 := S3.out.bx.st4.c0
  have t1 := S3.out.bx.st4.c1
  have t2 := S3.out.bx.st4.c2
  have t3 := S3.out.bx.st4.c3
  clear E2 S1 R1 b2 RI E3' sb
  go_wp2_with fail
  refine (EN.out _).mono ?_
  rintro e wq ⟨rfl, hwq⟩
  rw [hwq]
  clear hwq wq EN s0 s1 s2 s3 t0 t1 t2 t3
  have s0 := S3.out.bx.st4.c0
  have s1 := S3.out.bx.st4.c1
  have s2 := S3.out.bx.st4.c2
  have s3 := S3.out.bx.st4.c3
  have P := hide (putRW E3.out.rw 2 2 (xi := 2) (ni := 2) rfl rfl (by decide) (by decide) (by have := hroom.out; omega))
  go_wp2_with fail
  refine P.out.mono ?_
  rintro e w4 ⟨rfl, v4, M4, W4, n4, l4, D4⟩
  have E4 := hide (E3.out.put D4 W4)
  have R4 := hide (R3.out.did D4)
  have O4 := hide (O3.out.did D4)
  replace n4 := hide n4
  replace l4 := hide l4
  clear E3 R3 O3 S3 P W4 D4 s0 s1 s2 s3
  have y0 := O4.out.bx.st4.c0
  have y1 := O4.out.bx.st4.c1
  have y2 := O4.out.bx.st4.c2
  have y3 := O4.out.bx.st4.c3
  go_wp2_with fail
  go_loopw [10, 15] (fun xv kv wr => ∃ (k z : Nat), k ≤ b ∧ kv = .int .i64 (k : Int) ∧ xv = .int .u64 (z : Int) ∧ Hid (z = x / 2 ^ k) ∧ wr = w4) (fun _ kv _ => b - (intOf kv).toNat)
  case atStart => exact ⟨0, x, Nat.zero_le _, rfl, rfl, by show _ = _; simp, rfl⟩
  case round =>
    obtain ⟨k, z, hk, rfl, rfl, hzz, hwr⟩ := hrel
    subst hwr
    have hzx : z ≤ x := by rw [hzz.out]; exact Nat.div_le_self _ _
    have hxx := hx.out
    have i7 : (z : Int) < 18446744073709551616 := by omega
    replace hzx := hide hzx
    by_cases hlt : k < b
    · have i8 : (k : Int) < (b : Int) := by omega
      have i9 : (k : Int) ≤ 63 := by have := hb63.out; omega
      have hz2 : Hid (z / 2 = x / 2 ^ (k + 1)) := by show _ = _; rw [hzz.out, Nat.pow_succ, Nat.div_div_eq_div_mul]
      have e2 : (z : Int) / 2 = ((z / 2 : Nat) : Int) := by omega
      have i10 : ((z / 2 : Nat) : Int) < 18446744073709551616 := by omega
      generalize z / 2 = z' at *
      replace hxx := hide hxx
      go_wp2_with fail
      go_roundw
      case rel => exact ⟨k + 1, z', by omega, by go_num, rfl, hz2, trivial⟩
      case measure => simp [intOf]; omega
    · obtain rfl : k = b := by omega
      have hy : z = y := by rw [hzz.out]; exact hyx.out
      subst hy
      have es : (64 : Int) - (a : Int) - (k : Int) = (s : Int) := by have := hss.out; have := hab.out; omega
      have ia : (a : Int) ≤ 63 := by have := ha63.out; omega
      have ib : (k : Int) ≤ 63 := by have := hb63.out; omega
      have P := hide (putRW E4.out.rw z s (xi := (z : Int)) (ni := (s : Int)) rfl rfl (by omega) (by have := hs64.out; omega) (by have := hroom.out; have := l4.out; have := hs64.out; omega))
      replace hxx := hide hxx
      go_wp2_with fail
      refine P.out.mono ?_
      rintro e w6 ⟨rfl, v6, M6, W6, n6, l6, D6⟩
      have E6 := hide (E4.out.put D6 W6)
      have R6 := hide (R4.out.did D6)
      have O6 := hide (O4.out.did D6)
      replace n6 := hide n6
      replace l6 := hide l6
      clear E4 R4 O4 P W6 D6 y0 y1 y2 y3
      have y0 := O6.out.bx.st4.c0
      have y1 := O6.out.bx.st4.c1
      have y2 := O6.out.bx.st4.c2
      have y3 := O6.out.bx.st4.c3
      have X2 := (R6.out.bx.set4 (.int .i64 ((n : Int) + 1)) (.int .u64 (V : Int)) (.int .i64 (a : Int)) (.int .i64 (k : Int))).st4
      have FIN := hide (E6.out.but (but_set4 w6 (w.heap.size + 1) (.int .i64 ((n : Int) + 1)) (.int .u64 (V : Int)) (.int .i64 (a : Int)) (.int .i64 (k : Int))) (by omega) R6.out.nf)
      obtain ⟨p0, p1, p2, p3, p4, p5, p6, p7, p8, p9, p10⟩ := R6.out.bx.st4
      have z0 := X2.c0
      have z1 := X2.c1
      have z2 := X2.c2
      have z3 := X2.c3
      clear X2
      go_wp2_with fail
      refine bodyPost_ret (v := .tuple #[.agg #[.int .i64 ((n : Int) + 1), .int .u64 (V : Int), .int .i64 (a : Int), .int .i64 (k : Int)], .int .i64 0]) (by simp [results, Tryz.f20, go_sem, z0, z1, z2, z3]) rfl ?_
      refine ⟨rfl, v6, M6, FIN.out.rw, ?_, ?_, FIN.out.d⟩
      · rw [n6.out, n4.out, Nat.mod_eq_of_lt hys.out, show 2 % 2 ^ 2 = 2 from rfl, two_puts]
      · rw [l6.out, l4.out]; omega

set_option maxRecDepth 100000 in
set_option maxHeartbeats 4000000 in
theorem rput1o {w : World} {base p : Nat} {v : Value} {M : List Bool} (h : RW w base p v M) {n L a b V x s y A B c : Nat} (hn : n ≠ 0) (hs : OkSX n a b) (hL : L < 18446744073709551616) (hV : V < 18446744073709551616) (hxe : V ^^^ L = x) (hx0 : x ≠ 0) (hin : ¬ inW a b x) (hA : lz x = A) (hB : tz x = B) (hc : c = 12288 + 64 * A + (s - 1)) (hss : s = 64 - A - B) (hs64 : s ≤ 64) (hyx : x / 2 ^ B = y) (hys : y < 2 ^ s) (hab : A + B ≤ 63) (hroom : M.length + 78 ≤ 524288) :
    Calls Tryz.prog 20 #[.pointer (some ⟨p, 0, none⟩), .agg #[.int .i64 (n : Int), .int .u64 (L : Int), .int .i64 (a : Int), .int .i64 (b : Int)], .int .u64 (V : Int)] w fun e w' =>
      e = .returned (.tuple #[.agg #[.int .i64 ((n : Int) + 1), .int .u64 (V : Int), .int .i64 (A : Int), .int .i64 (B : Int)], .int .i64 0]) ∧ ∃ v' M', RW w' base p v' M' ∧ numB M' = numB M * 2 ^ (14 + s) + (c * 2 ^ s + y) ∧ M'.length = M.length + (14 + s) ∧ Did w w' base p v v' := by
  have E0 := RWS.start h
  have hz := zero36
  have S1 := (Kx.newR h 51 #[.int .i64 (n : Int), .int .u64 (L : Int), .int .i64 (a : Int), .int .i64 (b : Int)]).alloc (.cells #[.int .i64 0, .int .u64 0, .int .i64 0, .int .i64 0] 51)
  have E1 := E0.alloc (.cells #[.int .i64 (n : Int), .int .u64 (L : Int), .int .i64 (a : Int), .int .i64 (b : Int)] 51)
  have R1 := hide (Kx.newR_at E1.rw (g := w.heap.size + 1) (by simp) 51 #[.int .i64 0, .int .u64 0, .int .i64 0, .int .i64 0])
  have E2 := hide (E1.alloc (.cells #[.int .i64 0, .int .u64 0, .int .i64 0, .int .i64 0] 51))
  replace S1 := hide S1
  have RI := hide (right_anyX (n : Int) (L : Int) (a : Int) (b : Int))
  rw [okSI_ofX hs] at RI
  have hxor := u64_xor_nat V L hV hL
  have hx := xor64 hV hL
  rw [hxe] at hxor hx
  have EN := hide (fun w => ends_any x w (by omega) hx)
  rw [hA, hB] at EN
  have i0 : ¬ (n : Int) = 0 := by omega
  have i1 : (n : Int) ≤ 4096 := by have := hs.n; omega
  have i2 : 0 ≤ (n : Int) := by omega
  have i3 : ¬ (x : Int) = 0 := by omega
  have hin2 : ¬ a < 64 ∨ (a < 64 ∧ ¬ a ≤ A) ∨ (a < 64 ∧ a ≤ A ∧ ¬ b ≤ B) := by unfold inW at hin; omega
  have hec : (12288 : Int) + 64 * (A : Int) + 64 - (A : Int) - (B : Int) - 1 = (c : Int) := by omega
  have hc14 := hide (show c < 2 ^ 14 by simp; omega)
  have iA : (A : Int) ≤ 63 := by omega
  have iB : (B : Int) ≤ 63 := by omega
  have ic : (c : Int) ≤ 16383 := by omega
  have ha63 := hide (show A ≤ 63 by omega)
  have hb63 := hide (show B ≤ 63 by omega)
  replace hroom := hide hroom
  replace hx := hide hx
  replace hss := hide hss
  replace hs64 := hide hs64
  replace hyx := hide hyx
  replace hys := hide hys
  replace hab := hide hab
  clear E0 E1 h hs hx0 hV hL hn hxe hin hA hB hc
  rcases hin2 with hq | ⟨hq1, hq2⟩ | ⟨hq1, hq2, hq3⟩
  · have i4 : ¬ (a : Int) < 64 := by omega
    go_enter Tryz.func20, Tryz.ntmps20
    go_wp2_with fail
    refine (RI.out _).mono ?_
    rintro e w2 ⟨rfl, b2⟩
    have E3' := E2.out.below b2
    have O3 := hide (Kx.newR E3'.rw 51 #[.int .i64 ((n : Int) + 1), .int .u64 (V : Int), .int .i64 (a : Int), .int .i64 (b : Int)])
    have E3 := hide (E3'.alloc (.cells #[.int .i64 ((n : Int) + 1), .int .u64 (V : Int), .int .i64 (a : Int), .int .i64 (b : Int)] 51))
    have S3 := hide ((S1.out.below b2).alloc (.cells #[.int .i64 ((n : Int) + 1), .int .u64 (V : Int), .int .i64 (a : Int), .int .i64 (b : Int)] 51))
    have R3 := hide ((R1.out.below b2).alloc (.cells #[.int .i64 ((n : Int) + 1), .int .u64 (V : Int), .int .i64 (a : Int), .int .i64 (b : Int)] 51))
    have sb := S1.out.bx.below b2
    have s0 := sb.st4.c0
    have s1 := sb.st4.c1
    have s2 := sb.st4.c2
    have s3 := sb.st4.c3
    have hgO : Hid (w2.heap.size ≠ w.heap.size + 1 ∧ w.heap.size ≤ w2.heap.size) := by have := (R1.out.below b2).bx.lt; show _ ∧ _; omega
    have t0 := S3.out.bx.st4.c0
    have t1 := S3.out.bx.st4.c1
    have t2 := S3.out.bx.st4.c2
    have t3 := S3.out.bx.st4.c3
    clear E2 S1 R1 b2 RI E3' sb
    go_wp2_with fail
    refine (EN.out _).mono ?_
    rintro e wq ⟨rfl, hwq⟩
    rw [hwq]
    clear hwq wq EN s0 s1 s2 s3 t0 t1 t2 t3
    have s0 := S3.out.bx.st4.c0
    have s1 := S3.out.bx.st4.c1
    have s2 := S3.out.bx.st4.c2
    have s3 := S3.out.bx.st4.c3
    have P := hide (fun xi (e1 : xi = (c : Int)) => putRW E3.out.rw c 14 (xi := xi) (ni := 14) e1 rfl (by have := hc14.out; omega) (by decide) (by have := hroom.out; omega))
    go_wp2_with fail
    refine (P.out _ (by first | exact hec | (simp only [IntKind.wrap_u64]; omega) | omega)).mono ?_
    rintro e w3 ⟨rfl, v4, M4, W4, n4, l4, D4⟩
    rw [Nat.mod_eq_of_lt hc14.out] at n4
    have E5 := hide (E3.out.put D4 W4)
    have R5 := hide (R3.out.did D4)
    have O5 := hide (O3.out.did D4)
    replace n4 := hide n4
    replace l4 := hide l4
    clear E3 R3 O3 S3 P W4 D4 s0 s1 s2 s3
    obtain ⟨f0, f1, f2, f3, f4, f5, f6, f7, -, -, -⟩ := O5.out.bx.st4
    have bt : But (fun i => i = w2.heap.size) w3 ((w3.setCell ⟨w2.heap.size, 2, none⟩ (.int .i64 (A : Int))).setCell ⟨w2.heap.size, 3, none⟩ (.int .i64 (B : Int))) :=
      ((But.refl (fun i => i = w2.heap.size) w3).setCell (p := ⟨w2.heap.size, 2, none⟩) (fun _ => rfl) _).setCell (p := ⟨w2.heap.size, 3, none⟩) (fun _ => rfl) _
    have E4 := hide (E5.out.but bt hgO.out.2 O5.out.nf)
    have R4 := hide (R5.out.but bt (fun e => hgO.out.1 e.symm))
    have O4 : Hid (Kx ((w3.setCell ⟨w2.heap.size, 2, none⟩ (.int .i64 (A : Int))).setCell ⟨w2.heap.size, 3, none⟩ (.int .i64 (B : Int))) p v4 w2.heap.size 51 #[.int .i64 ((n : Int) + 1), .int .u64 (V : Int), .int .i64 (A : Int), .int .i64 (B : Int)]) := ⟨(O5.out.bx.set1 2 (.int .i64 (A : Int))).set1 3 (.int .i64 (B : Int)), O5.out.nf⟩
    have f8 : ∀ u, (w3.setCell ⟨w2.heap.size, 2, none⟩ u).cell? ⟨w2.heap.size, 3, none⟩ = some (.int .i64 (b : Int)) := fun u => by rw [cell_of_row _ w2.heap.size 3 _ 51 (0, 0) (O5.out.bx.set1 2 u)]; rfl
    obtain ⟨w4, hw4⟩ : ∃ w4, w4 = ((w3.setCell ⟨w2.heap.size, 2, none⟩ (.int .i64 (A : Int))).setCell ⟨w2.heap.size, 3, none⟩ (.int .i64 (B : Int))) := ⟨_, rfl⟩
    rw [← hw4] at E4 R4 O4
    clear bt
    go_wp2_with fail
    simp only [← hw4]
    have y0 := O4.out.bx.st4.c0
    have y1 := O4.out.bx.st4.c1
    have y2 := O4.out.bx.st4.c2
    have y3 := O4.out.bx.st4.c3
    clear hw4 E5 R5 O5 f0 f1 f2 f3 f4 f5 f6 f7 f8
    go_loopw [10, 15] (fun xv kv wr => ∃ (k z : Nat), k ≤ B ∧ kv = .int .i64 (k : Int) ∧ xv = .int .u64 (z : Int) ∧ Hid (z = x / 2 ^ k) ∧ wr = w4) (fun _ kv _ => B - (intOf kv).toNat)
    case atStart => exact ⟨0, x, Nat.zero_le _, rfl, rfl, by show _ = _; simp, rfl⟩
    case round =>
      obtain ⟨k, z, hk, rfl, rfl, hzz, hwr⟩ := hrel
      subst hwr
      have hzx : z ≤ x := by rw [hzz.out]; exact Nat.div_le_self _ _
      have hxx := hx.out
      have i7 : (z : Int) < 18446744073709551616 := by omega
      replace hzx := hide hzx
      by_cases hlt : k < B
      · have i8 : (k : Int) < (B : Int) := by omega
        have i9 : (k : Int) ≤ 63 := by have := hb63.out; omega
        have hz2 : Hid (z / 2 = x / 2 ^ (k + 1)) := by show _ = _; rw [hzz.out, Nat.pow_succ, Nat.div_div_eq_div_mul]
        have e2 : (z : Int) / 2 = ((z / 2 : Nat) : Int) := by omega
        have i10 : ((z / 2 : Nat) : Int) < 18446744073709551616 := by omega
        generalize z / 2 = z' at *
        replace hxx := hide hxx
        go_wp2_with fail
        go_roundw
        case rel => exact ⟨k + 1, z', by omega, by go_num, rfl, hz2, trivial⟩
        case measure => simp [intOf]; omega
      · obtain rfl : k = B := by omega
        have hy : z = y := by rw [hzz.out]; exact hyx.out
        subst hy
        have es : (64 : Int) - (A : Int) - (k : Int) = (s : Int) := by have := hss.out; have := hab.out; omega
        have ia : (A : Int) ≤ 63 := by have := ha63.out; omega
        have ib : (k : Int) ≤ 63 := by have := hb63.out; omega
        have P := hide (putRW E4.out.rw z s (xi := (z : Int)) (ni := (s : Int)) rfl rfl (by omega) (by have := hs64.out; omega) (by have := hroom.out; have := l4.out; have := hs64.out; omega))
        replace hxx := hide hxx
        go_wp2_with fail
        refine P.out.mono ?_
        rintro e w6 ⟨rfl, v6, M6, W6, n6, l6, D6⟩
        have E6 := hide (E4.out.put D6 W6)
        have R6 := hide (R4.out.did D6)
        have O6 := hide (O4.out.did D6)
        replace n6 := hide n6
        replace l6 := hide l6
        clear E4 R4 O4 P W6 D6 y0 y1 y2 y3
        have y0 := O6.out.bx.st4.c0
        have y1 := O6.out.bx.st4.c1
        have y2 := O6.out.bx.st4.c2
        have y3 := O6.out.bx.st4.c3
        have X2 := (R6.out.bx.set4 (.int .i64 ((n : Int) + 1)) (.int .u64 (V : Int)) (.int .i64 (A : Int)) (.int .i64 (k : Int))).st4
        have FIN := hide (E6.out.but (but_set4 w6 (w.heap.size + 1) (.int .i64 ((n : Int) + 1)) (.int .u64 (V : Int)) (.int .i64 (A : Int)) (.int .i64 (k : Int))) (by omega) R6.out.nf)
        obtain ⟨p0, p1, p2, p3, p4, p5, p6, p7, p8, p9, p10⟩ := R6.out.bx.st4
        have z0 := X2.c0
        have z1 := X2.c1
        have z2 := X2.c2
        have z3 := X2.c3
        clear X2
        go_wp2_with fail
        refine bodyPost_ret (v := .tuple #[.agg #[.int .i64 ((n : Int) + 1), .int .u64 (V : Int), .int .i64 (A : Int), .int .i64 (k : Int)], .int .i64 0]) (by simp [results, Tryz.f20, go_sem, z0, z1, z2, z3]) rfl ?_
        refine ⟨rfl, v6, M6, FIN.out.rw, ?_, ?_, FIN.out.d⟩
        · rw [n6.out, n4.out, Nat.mod_eq_of_lt hys.out, two_puts]
        · rw [l6.out, l4.out]; omega
  · have i4 : (a : Int) < 64 := by omega
    have i5 : ¬ (a : Int) ≤ (A : Int) := by omega
    go_enter Tryz.func20, Tryz.ntmps20
    go_wp2_with fail
    refine (RI.out _).mono ?_
    rintro e w2 ⟨rfl, b2⟩
    have E3' := E2.out.below b2
    have O3 := hide (Kx.newR E3'.rw 51 #[.int .i64 ((n : Int) + 1), .int .u64 (V : Int), .int .i64 (a : Int), .int .i64 (b : Int)])
    have E3 := hide (E3'.alloc (.cells #[.int .i64 ((n : Int) + 1), .int .u64 (V : Int), .int .i64 (a : Int), .int .i64 (b : Int)] 51))
    have S3 := hide ((S1.out.below b2).alloc (.cells #[.int .i64 ((n : Int) + 1), .int .u64 (V : Int), .int .i64 (a : Int), .int .i64 (b : Int)] 51))
    have R3 := hide ((R1.out.below b2).alloc (.cells #[.int .i64 ((n : Int) + 1), .int .u64 (V : Int), .int .i64 (a : Int), .int .i64 (b : Int)] 51))
    have sb := S1.out.bx.below b2
    have s0 := sb.st4.c0
    have s1 := sb.st4.c1
    have s2 := sb.st4.c2
    have s3 := sb.st4.c3
    have hgO : Hid (w2.heap.size ≠ w.heap.size + 1 ∧ w.heap.size ≤ w2.heap.size) := by have := (R1.out.below b2).bx.lt; show _ ∧ _; omega
    have t0 := S3.out.bx.st4.c0
    have t1 := S3.out.bx.st4.c1
    have t2 := S3.out.bx.st4.c2
    have t3 := S3.out.bx.st4.c3
    clear E2 S1 R1 b2 RI E3' sb
    go_wp2_with fail
    refine (EN.out _).mono ?_
    rintro e wq ⟨rfl, hwq⟩
    rw [hwq]
    clear hwq wq EN s0 s1 s2 s3 t0 t1 t2 t3
    have s0 := S3.out.bx.st4.c0
    have s1 := S3.out.bx.st4.c1
    have s2 := S3.out.bx.st4.c2
    have s3 := S3.out.bx.st4.c3
    have P := hide (fun xi (e1 : xi = (c : Int)) => putRW E3.out.rw c 14 (xi := xi) (ni := 14) e1 rfl (by have := hc14.out; omega) (by decide) (by have := hroom.out; omega))
    go_wp2_with fail
    refine (P.out _ (by first | exact hec | (simp only [IntKind.wrap_u64]; omega) | omega)).mono ?_
    rintro e w3 ⟨rfl, v4, M4, W4, n4, l4, D4⟩
    rw [Nat.mod_eq_of_lt hc14.out] at n4
    have E5 := hide (E3.out.put D4 W4)
    have R5 := hide (R3.out.did D4)
    have O5 := hide (O3.out.did D4)
    replace n4 := hide n4
    replace l4 := hide l4
    clear E3 R3 O3 S3 P W4 D4 s0 s1 s2 s3
    obtain ⟨f0, f1, f2, f3, f4, f5, f6, f7, -, -, -⟩ := O5.out.bx.st4
    have bt : But (fun i => i = w2.heap.size) w3 ((w3.setCell ⟨w2.heap.size, 2, none⟩ (.int .i64 (A : Int))).setCell ⟨w2.heap.size, 3, none⟩ (.int .i64 (B : Int))) :=
      ((But.refl (fun i => i = w2.heap.size) w3).setCell (p := ⟨w2.heap.size, 2, none⟩) (fun _ => rfl) _).setCell (p := ⟨w2.heap.size, 3, none⟩) (fun _ => rfl) _
    have E4 := hide (E5.out.but bt hgO.out.2 O5.out.nf)
    have R4 := hide (R5.out.but bt (fun e => hgO.out.1 e.symm))
    have O4 : Hid (Kx ((w3.setCell ⟨w2.heap.size, 2, none⟩ (.int .i64 (A : Int))).setCell ⟨w2.heap.size, 3, none⟩ (.int .i64 (B : Int))) p v4 w2.heap.size 51 #[.int .i64 ((n : Int) + 1), .int .u64 (V : Int), .int .i64 (A : Int), .int .i64 (B : Int)]) := ⟨(O5.out.bx.set1 2 (.int .i64 (A : Int))).set1 3 (.int .i64 (B : Int)), O5.out.nf⟩
    have f8 : ∀ u, (w3.setCell ⟨w2.heap.size, 2, none⟩ u).cell? ⟨w2.heap.size, 3, none⟩ = some (.int .i64 (b : Int)) := fun u => by rw [cell_of_row _ w2.heap.size 3 _ 51 (0, 0) (O5.out.bx.set1 2 u)]; rfl
    obtain ⟨w4, hw4⟩ : ∃ w4, w4 = ((w3.setCell ⟨w2.heap.size, 2, none⟩ (.int .i64 (A : Int))).setCell ⟨w2.heap.size, 3, none⟩ (.int .i64 (B : Int))) := ⟨_, rfl⟩
    rw [← hw4] at E4 R4 O4
    clear bt
    go_wp2_with fail
    simp only [← hw4]
    have y0 := O4.out.bx.st4.c0
    have y1 := O4.out.bx.st4.c1
    have y2 := O4.out.bx.st4.c2
    have y3 := O4.out.bx.st4.c3
    clear hw4 E5 R5 O5 f0 f1 f2 f3 f4 f5 f6 f7 f8
    go_loopw [10, 15] (fun xv kv wr => ∃ (k z : Nat), k ≤ B ∧ kv = .int .i64 (k : Int) ∧ xv = .int .u64 (z : Int) ∧ Hid (z = x / 2 ^ k) ∧ wr = w4) (fun _ kv _ => B - (intOf kv).toNat)
    case atStart => exact ⟨0, x, Nat.zero_le _, rfl, rfl, by show _ = _; simp, rfl⟩
    case round =>
      obtain ⟨k, z, hk, rfl, rfl, hzz, hwr⟩ := hrel
      subst hwr
      have hzx : z ≤ x := by rw [hzz.out]; exact Nat.div_le_self _ _
      have hxx := hx.out
      have i7 : (z : Int) < 18446744073709551616 := by omega
      replace hzx := hide hzx
      by_cases hlt : k < B
      · have i8 : (k : Int) < (B : Int) := by omega
        have i9 : (k : Int) ≤ 63 := by have := hb63.out; omega
        have hz2 : Hid (z / 2 = x / 2 ^ (k + 1)) := by show _ = _; rw [hzz.out, Nat.pow_succ, Nat.div_div_eq_div_mul]
        have e2 : (z : Int) / 2 = ((z / 2 : Nat) : Int) := by omega
        have i10 : ((z / 2 : Nat) : Int) < 18446744073709551616 := by omega
        generalize z / 2 = z' at *
        replace hxx := hide hxx
        go_wp2_with fail
        go_roundw
        case rel => exact ⟨k + 1, z', by omega, by go_num, rfl, hz2, trivial⟩
        case measure => simp [intOf]; omega
      · obtain rfl : k = B := by omega
        have hy : z = y := by rw [hzz.out]; exact hyx.out
        subst hy
        have es : (64 : Int) - (A : Int) - (k : Int) = (s : Int) := by have := hss.out; have := hab.out; omega
        have ia : (A : Int) ≤ 63 := by have := ha63.out; omega
        have ib : (k : Int) ≤ 63 := by have := hb63.out; omega
        have P := hide (putRW E4.out.rw z s (xi := (z : Int)) (ni := (s : Int)) rfl rfl (by omega) (by have := hs64.out; omega) (by have := hroom.out; have := l4.out; have := hs64.out; omega))
        replace hxx := hide hxx
        go_wp2_with fail
        refine P.out.mono ?_
        rintro e w6 ⟨rfl, v6, M6, W6, n6, l6, D6⟩
        have E6 := hide (E4.out.put D6 W6)
        have R6 := hide (R4.out.did D6)
        have O6 := hide (O4.out.did D6)
        replace n6 := hide n6
        replace l6 := hide l6
        clear E4 R4 O4 P W6 D6 y0 y1 y2 y3
        have y0 := O6.out.bx.st4.c0
        have y1 := O6.out.bx.st4.c1
        have y2 := O6.out.bx.st4.c2
        have y3 := O6.out.bx.st4.c3
        have X2 := (R6.out.bx.set4 (.int .i64 ((n : Int) + 1)) (.int .u64 (V : Int)) (.int .i64 (A : Int)) (.int .i64 (k : Int))).st4
        have FIN := hide (E6.out.but (but_set4 w6 (w.heap.size + 1) (.int .i64 ((n : Int) + 1)) (.int .u64 (V : Int)) (.int .i64 (A : Int)) (.int .i64 (k : Int))) (by omega) R6.out.nf)
        obtain ⟨p0, p1, p2, p3, p4, p5, p6, p7, p8, p9, p10⟩ := R6.out.bx.st4
        have z0 := X2.c0
        have z1 := X2.c1
        have z2 := X2.c2
        have z3 := X2.c3
        clear X2
        go_wp2_with fail
        refine bodyPost_ret (v := .tuple #[.agg #[.int .i64 ((n : Int) + 1), .int .u64 (V : Int), .int .i64 (A : Int), .int .i64 (k : Int)], .int .i64 0]) (by simp [results, Tryz.f20, go_sem, z0, z1, z2, z3]) rfl ?_
        refine ⟨rfl, v6, M6, FIN.out.rw, ?_, ?_, FIN.out.d⟩
        · rw [n6.out, n4.out, Nat.mod_eq_of_lt hys.out, two_puts]
        · rw [l6.out, l4.out]; omega
  · have i4 : (a : Int) < 64 := by omega
    have i5 : (a : Int) ≤ (A : Int) := by omega
    have i6 : ¬ (b : Int) ≤ (B : Int) := by omega
    go_enter Tryz.func20, Tryz.ntmps20
    go_wp2_with fail
    refine (RI.out _).mono ?_
    rintro e w2 ⟨rfl, b2⟩
    have E3' := E2.out.below b2
    have O3 := hide (Kx.newR E3'.rw 51 #[.int .i64 ((n : Int) + 1), .int .u64 (V : Int), .int .i64 (a : Int), .int .i64 (b : Int)])
    have E3 := hide (E3'.alloc (.cells #[.int .i64 ((n : Int) + 1), .int .u64 (V : Int), .int .i64 (a : Int), .int .i64 (b : Int)] 51))
    have S3 := hide ((S1.out.below b2).alloc (.cells #[.int .i64 ((n : Int) + 1), .int .u64 (V : Int), .int .i64 (a : Int), .int .i64 (b : Int)] 51))
    have R3 := hide ((R1.out.below b2).alloc (.cells #[.int .i64 ((n : Int) + 1), .int .u64 (V : Int), .int .i64 (a : Int), .int .i64 (b : Int)] 51))
    have sb := S1.out.bx.below b2
    have s0 := sb.st4.c0
    have s1 := sb.st4.c1
    have s2 := sb.st4.c2
    have s3 := sb.st4.c3
    have hgO : Hid (w2.heap.size ≠ w.heap.size + 1 ∧ w.heap.size ≤ w2.heap.size) := by have := (R1.out.below b2).bx.lt; show _ ∧ _; omega
    have t0 := S3.out.bx.st4.c0
    have t1 := S3.out.bx.st4.c1
    have t2 := S3.out.bx.st4.c2
    have t3 := S3.out.bx.st4.c3
    clear E2 S1 R1 b2 RI E3' sb
    go_wp2_with fail
    refine (EN.out _).mono ?_
    rintro e wq ⟨rfl, hwq⟩
    rw [hwq]
    clear hwq wq EN s0 s1 s2 s3 t0 t1 t2 t3
    have s0 := S3.out.bx.st4.c0
    have s1 := S3.out.bx.st4.c1
    have s2 := S3.out.bx.st4.c2
    have s3 := S3.out.bx.st4.c3
    have P := hide (fun xi (e1 : xi = (c : Int)) => putRW E3.out.rw c 14 (xi := xi) (ni := 14) e1 rfl (by have := hc14.out; omega) (by decide) (by have := hroom.out; omega))
    go_wp2_with fail
    refine (P.out _ (by first | exact hec | (simp only [IntKind.wrap_u64]; omega) | omega)).mono ?_
    rintro e w3 ⟨rfl, v4, M4, W4, n4, l4, D4⟩
    rw [Nat.mod_eq_of_lt hc14.out] at n4
    have E5 := hide (E3.out.put D4 W4)
    have R5 := hide (R3.out.did D4)
    have O5 := hide (O3.out.did D4)
    replace n4 := hide n4
    replace l4 := hide l4
    clear E3 R3 O3 S3 P W4 D4 s0 s1 s2 s3
    obtain ⟨f0, f1, f2, f3, f4, f5, f6, f7, -, -, -⟩ := O5.out.bx.st4
    have bt : But (fun i => i = w2.heap.size) w3 ((w3.setCell ⟨w2.heap.size, 2, none⟩ (.int .i64 (A : Int))).setCell ⟨w2.heap.size, 3, none⟩ (.int .i64 (B : Int))) :=
      ((But.refl (fun i => i = w2.heap.size) w3).setCell (p := ⟨w2.heap.size, 2, none⟩) (fun _ => rfl) _).setCell (p := ⟨w2.heap.size, 3, none⟩) (fun _ => rfl) _
    have E4 := hide (E5.out.but bt hgO.out.2 O5.out.nf)
    have R4 := hide (R5.out.but bt (fun e => hgO.out.1 e.symm))
    have O4 : Hid (Kx ((w3.setCell ⟨w2.heap.size, 2, none⟩ (.int .i64 (A : Int))).setCell ⟨w2.heap.size, 3, none⟩ (.int .i64 (B : Int))) p v4 w2.heap.size 51 #[.int .i64 ((n : Int) + 1), .int .u64 (V : Int), .int .i64 (A : Int), .int .i64 (B : Int)]) := ⟨(O5.out.bx.set1 2 (.int .i64 (A : Int))).set1 3 (.int .i64 (B : Int)), O5.out.nf⟩
    have f8 : ∀ u, (w3.setCell ⟨w2.heap.size, 2, none⟩ u).cell? ⟨w2.heap.size, 3, none⟩ = some (.int .i64 (b : Int)) := fun u => by rw [cell_of_row _ w2.heap.size 3 _ 51 (0, 0) (O5.out.bx.set1 2 u)]; rfl
    obtain ⟨w4, hw4⟩ : ∃ w4, w4 = ((w3.setCell ⟨w2.heap.size, 2, none⟩ (.int .i64 (A : Int))).setCell ⟨w2.heap.size, 3, none⟩ (.int .i64 (B : Int))) := ⟨_, rfl⟩
    rw [← hw4] at E4 R4 O4
    clear bt
    go_wp2_with fail
    simp only [← hw4]
    have y0 := O4.out.bx.st4.c0
    have y1 := O4.out.bx.st4.c1
    have y2 := O4.out.bx.st4.c2
    have y3 := O4.out.bx.st4.c3
    clear hw4 E5 R5 O5 f0 f1 f2 f3 f4 f5 f6 f7 f8
    go_loopw [10, 15] (fun xv kv wr => ∃ (k z : Nat), k ≤ B ∧ kv = .int .i64 (k : Int) ∧ xv = .int .u64 (z : Int) ∧ Hid (z = x / 2 ^ k) ∧ wr = w4) (fun _ kv _ => B - (intOf kv).toNat)
    case atStart => exact ⟨0, x, Nat.zero_le _, rfl, rfl, by show _ = _; simp, rfl⟩
    case round =>
      obtain ⟨k, z, hk, rfl, rfl, hzz, hwr⟩ := hrel
      subst hwr
      have hzx : z ≤ x := by rw [hzz.out]; exact Nat.div_le_self _ _
      have hxx := hx.out
      have i7 : (z : Int) < 18446744073709551616 := by omega
      replace hzx := hide hzx
      by_cases hlt : k < B
      · have i8 : (k : Int) < (B : Int) := by omega
        have i9 : (k : Int) ≤ 63 := by have := hb63.out; omega
        have hz2 : Hid (z / 2 = x / 2 ^ (k + 1)) := by show _ = _; rw [hzz.out, Nat.pow_succ, Nat.div_div_eq_div_mul]
        have e2 : (z : Int) / 2 = ((z / 2 : Nat) : Int) := by omega
        have i10 : ((z / 2 : Nat) : Int) < 18446744073709551616 := by omega
        generalize z / 2 = z' at *
        replace hxx := hide hxx
        go_wp2_with fail
        go_roundw
        case rel => exact ⟨k + 1, z', by omega, by go_num, rfl, hz2, trivial⟩
        case measure => simp [intOf]; omega
      · obtain rfl : k = B := by omega
        have hy : z = y := by rw [hzz.out]; exact hyx.out
        subst hy
        have es : (64 : Int) - (A : Int) - (k : Int) = (s : Int) := by have := hss.out; have := hab.out; omega
        have ia : (A : Int) ≤ 63 := by have := ha63.out; omega
        have ib : (k : Int) ≤ 63 := by have := hb63.out; omega
        have P := hide (putRW E4.out.rw z s (xi := (z : Int)) (ni := (s : Int)) rfl rfl (by omega) (by have := hs64.out; omega) (by have := hroom.out; have := l4.out; have := hs64.out; omega))
        replace hxx := hide hxx
        go_wp2_with fail
        refine P.out.mono ?_
        rintro e w6 ⟨rfl, v6, M6, W6, n6, l6, D6⟩
        have E6 := hide (E4.out.put D6 W6)
        have R6 := hide (R4.out.did D6)
        have O6 := hide (O4.out.did D6)
        replace n6 := hide n6
        replace l6 := hide l6
        clear E4 R4 O4 P W6 D6 y0 y1 y2 y3
        have y0 := O6.out.bx.st4.c0
        have y1 := O6.out.bx.st4.c1
        have y2 := O6.out.bx.st4.c2
        have y3 := O6.out.bx.st4.c3
        have X2 := (R6.out.bx.set4 (.int .i64 ((n : Int) + 1)) (.int .u64 (V : Int)) (.int .i64 (A : Int)) (.int .i64 (k : Int))).st4
        have FIN := hide (E6.out.but (but_set4 w6 (w.heap.size + 1) (.int .i64 ((n : Int) + 1)) (.int .u64 (V : Int)) (.int .i64 (A : Int)) (.int .i64 (k : Int))) (by omega) R6.out.nf)
        obtain ⟨p0, p1, p2, p3, p4, p5, p6, p7, p8, p9, p10⟩ := R6.out.bx.st4
        have z0 := X2.c0
        have z1 := X2.c1
        have z2 := X2.c2
        have z3 := X2.c3
        clear X2
        go_wp2_with fail
        refine bodyPost_ret (v := .tuple #[.agg #[.int .i64 ((n : Int) + 1), .int .u64 (V : Int), .int .i64 (A : Int), .int .i64 (k : Int)], .int .i64 0]) (by simp [results, Tryz.f20, go_sem, z0, z1, z2, z3]) rfl ?_
        refine ⟨rfl, v6, M6, FIN.out.rw, ?_, ?_, FIN.out.d⟩
        · rw [n6.out, n4.out, Nat.mod_eq_of_lt hys.out, two_puts]
        · rw [l6.out, l4.out]; omega

end Go.Proofs.YtmjjedbdedemcaaGreatDoor
