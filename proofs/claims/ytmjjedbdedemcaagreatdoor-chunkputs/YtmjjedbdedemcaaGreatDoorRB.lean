/-
  The reference of stamp.Put.
-/
import Derived.Test.YtmjjedbdedemcaaGreatDoorRA
import Derived.Test.YtmjjedbdedemcaaGreatDoorSB
namespace Go.Proofs.YtmjjedbdedemcaaGreatDoor
open Go.RowKit
set_option linter.unusedVariables false

set_option linter.unusedSimpArgs false

theorem putRW {w : World} {base p : Nat} {v : Value} {L : List Bool} (h : RW w base p v L) (x n : Nat) {xi ni : Int} (e1 : xi = (x : Int)) (e2 : ni = (n : Int)) (hx : x < 18446744073709551616) (hn : n ≤ 64) (hroom : L.length + n ≤ 524288) :
    Calls Tryz.prog 42 #[.pointer (some ⟨p, 0, none⟩), .int .u64 xi, .int .i64 ni] w fun e w' => e = .returned (.int .i64 0) ∧ ∃ v' L', RW w' base p v' L' ∧ numB L' = numB L * 2 ^ n + x % 2 ^ n ∧ L'.length = L.length + n ∧ Did w w' base p v v' := by
  subst e1 e2
  refine (rput_ok h x n hx hn hroom).mono ?_
  rintro e w' ⟨he, v', L', h1, h2, h3, h4, h5⟩
  exact ⟨he, v', L', h1, h2, h3, h.bel h4, h4, h5⟩
theorem RW.not {w : World} {base p g : Nat} {v : Value} {L : List Bool} (h : RW w base p v L) (hg : w.heap.size ≤ g) : ¬ fp p v g := fun hf => by
  have := (h.fplt g hf).2
  omega

/-- How things stand within the reference's Put. -/
structure RS (w0 w : World) (base p g : Nat) (v0 v : Value) (L : List Bool) (a b c : Value) : Prop where
  s : Box3 w g a b c
  r : Box3 w (g + 1) (.int .i64 0) (.int .i64 0) (.int .i64 0)
  wr : RW w base p v L
  d : Did w0 w base p v0 v
  ns : ¬ fp p v g
  nr : ¬ fp p v (g + 1)
  bw : base ≤ w0.heap.size
theorem RS.below {w0 w w' : World} {base p g : Nat} {v0 v : Value} {L : List Bool} {a b c : Value} (h : RS w0 w base p g v0 v L a b c) (hb : Below w.heap.size w w') : RS w0 w' base p g v0 v L a b c :=
  ⟨h.s.kept hb h.s.lt, h.r.kept hb h.r.lt, h.wr.below hb (Nat.le_refl _), h.d.post hb (by have := h.wr.lt; have := h.wr.ge; omega), h.ns, h.nr, h.bw⟩
theorem RS.put {w0 w w' : World} {base p g : Nat} {v0 v v' : Value} {L L' : List Bool} {a b c : Value} (h : RS w0 w base p g v0 v L a b c) (d : Did w w' base p v v') (hw : RW w' base p v' L') : RS w0 w' base p g v0 v' L' a b c :=
  ⟨h.s.did d h.ns, h.r.did d h.nr, hw, h.d.trans d, d.not h.s.lt h.ns, d.not h.r.lt h.nr, h.bw⟩
theorem RS.start {w : World} {base p : Nat} {v : Value} {L : List Bool} (h : RW w base p v L) (a b c : Value) : RS w ((w.alloc (.cells #[a, b, c] 49)).alloc (.cells #[.int .i64 0, .int .i64 0, .int .i64 0] 49)) base p w.heap.size v v L a b c := by
  have B0 : Below w.heap.size w (w.alloc (.cells #[a, b, c] 49)) := (Below.refl _ w).alloc (Nat.le_refl _) _
  have B1 : Below w.heap.size w ((w.alloc (.cells #[a, b, c] 49)).alloc (.cells #[.int .i64 0, .int .i64 0, .int .i64 0] 49)) := B0.alloc B0.size _
  have h1 := h.lt; have h2 := h.ge
  exact ⟨(Box3.new w _ _ _ 49).kept ((Below.refl (w.heap.size + 1) _).alloc (by simp) _) (by omega), Box3.new_at (by simp) _ _ _ 49, h.below B1 (Nat.le_refl _),
    Did.pre B1 ⟨Below.refl _ _, But.refl _ _, fun _ _ h => h⟩ (by omega), h.not (Nat.le_refl _), h.not (by omega), by omega⟩
theorem rdone3 {w0 w : World} {base p g : Nat} {v0 v a b c : Value} {L : List Bool} (h : RS w0 w base p g v0 v L a b c) (hg : w0.heap.size ≤ g) (x y z : Value) :
    RW (((w.setCell ⟨g + 1, 0, none⟩ x).setCell ⟨g + 1, 1, none⟩ y).setCell ⟨g + 1, 2, none⟩ z) base p v L ∧ Did w0 (((w.setCell ⟨g + 1, 0, none⟩ x).setCell ⟨g + 1, 1, none⟩ y).setCell ⟨g + 1, 2, none⟩ z) base p v0 v := by
  have hbt := but3 w (g + 1) x y z
  refine ⟨h.wr.kept hbt (fun i hi => by rw [hi]; exact h.nr), ?_⟩
  have hlt := h.wr.lt; have hge := h.wr.ge
  exact ⟨h.d.bel.trans (hbt.below (by omega) (fun i hi => by have := h.bw; rw [hi]; omega)), h.d.but.trans hbt (fun i hi e => by omega), h.d.own⟩

/-- What the ones, the nought and the number come to. -/
theorem ones_lt {A B c : Nat} (h : B = A * 2 ^ c + (2 ^ c - 1)) : B * 2 ^ 1 + 1 % 2 ^ 1 = A * 2 ^ (c + 1) + (2 ^ (c + 1) - 1) := by
  have := Nat.two_pow_pos c
  rw [h, Nat.pow_one, Nat.pow_add, Nat.pow_one, ← Nat.mul_assoc]
  generalize A * 2 ^ c = M
  generalize 2 ^ c = q at *
  omega
theorem come_to {A B z c : Nat} (hc : c ≤ 4) (hz : z < 2 ^ cSize c) (h : B = A * 2 ^ c + (2 ^ c - 1)) :
    (c < 4 → (B * 2 ^ 1 + 0 % 2 ^ 1) * 2 ^ cSize c + z % 2 ^ cSize c = A * 2 ^ (cAhead c + cSize c) + (cMark c * 2 ^ cSize c + z)) ∧ (c = 4 → B * 2 ^ cSize c + z % 2 ^ cSize c = A * 2 ^ (cAhead c + cSize c) + (cMark c * 2 ^ cSize c + z)) := by
  rw [Nat.mod_eq_of_lt hz, h]
  rcases five hc with rfl | rfl | rfl | rfl | rfl <;> simp [cAhead, cMark, cSize] <;> omega
theorem ahead_of {c : Nat} (hc : c ≤ 4) : (c < 4 → cAhead c = c + 1) ∧ (c = 4 → cAhead c = c) := by
  rcases five hc with rfl | rfl | rfl | rfl | rfl <;> simp [cAhead]
theorem zero36S : (Tryz.prog.info? 49).map (·.zero) = some (some (.agg #[.int .i64 0, .int .i64 0, .int .i64 0])) := by kernel_rfl
set_option maxHeartbeats 2000000 in
theorem rputS0 {w : World} {base p : Nat} {v : Value} {M : List Bool} (h : RW w base p v M) {L D t : Nat} (hs : OkS 0 L D) (ht : OkT 0 L (t : Int)) (hroom : M.length + 52 ≤ 524288) :
    Calls Tryz.prog 19 #[.pointer (some ⟨p, 0, none⟩), .agg #[.int .i64 0, .int .i64 (L : Int), .int .i64 (D : Int)], .int .i64 (t : Int)] w fun e w' =>
      e = .returned (.tuple #[.agg #[.int .i64 1, .int .i64 (t : Int), .int .i64 0], .int .i64 0]) ∧ ∃ v' M', RW w' base p v' M' ∧ numB M' = numB M * 2 ^ 46 + t ∧ M'.length = M.length + 46 ∧ Did w w' base p v v' := by
  have E1 := hide (RS.start h (.int .i64 0) (.int .i64 (L : Int)) (.int .i64 (D : Int)))
  have hsi := hide (okSI_of hs)
  have htl := ht.le
  have i1 : (t : Int) ≤ 35184372088832 := by omega
  have R := hide (fun w => right_any 0 (L : Int) (D : Int) w)
  rw [show okSI 0 (L : Int) (D : Int) = true from hsi.out] at R
  have s0 := E1.out.s.c0
  have s1 := E1.out.s.c1
  have s2 := E1.out.s.c2
  clear h hs ht
  replace hroom := hide hroom
  go_enter Tryz.func19, Tryz.ntmps19
  go_wp2_with fail
  refine (R.out _).mono ?_
  rintro e w2 ⟨rfl, b2⟩
  have E2 := hide (E1.out.below b2)
  clear s0 s1 s2 E1 R b2
  have s0 := E2.out.s.c0
  have s1 := E2.out.s.c1
  have s2 := E2.out.s.c2
  have P := hide (putRW E2.out.wr t 46 (xi := (t : Int)) (ni := 46) rfl rfl (by omega) (by decide) (by have := hroom.out; omega))
  rw [Nat.mod_eq_of_lt (show t < 2 ^ 46 by omega)] at P
  go_wp2_with fail
  refine P.out.mono ?_
  rintro e w3 ⟨rfl, v3, M3, W3, n3, l3, D3⟩
  have E3 := hide (E2.out.put D3 W3)
  clear s0 s1 s2 E2 P W3 D3
  replace n3 := hide n3
  replace l3 := hide l3
  have X2 := hide (E3.out.r.set (.int .i64 1) (.int .i64 (t : Int)) (.int .i64 0))
  have FIN := hide (rdone3 E3.out (Nat.le_refl _) (.int .i64 1) (.int .i64 (t : Int)) (.int .i64 0))
  obtain ⟨r0, r1, r2, r3, r4, r5, r6⟩ := E3.out.r
  have r7 := E3.out.r.o1
  have r8 := E3.out.r.o2
  have o0 := X2.out.c0
  have o1 := X2.out.c1
  have o2 := X2.out.c2
  go_wp2_with fail
  refine bodyPost_ret (v := .tuple #[.agg #[.int .i64 1, .int .i64 (t : Int), .int .i64 0], .int .i64 0]) (by simp [results, Tryz.f19, go_sem, o0, o1, o2]) rfl ?_
  exact ⟨rfl, v3, M3, FIN.out.1, n3.out, l3.out, FIN.out.2⟩

set_option maxHeartbeats 4000000 in
theorem rputS1 {w : World} {base p : Nat} {v : Value} {M : List Bool} (h : RW w base p v M) {n L D t : Nat} (hn : n ≠ 0) (hs : OkS n L D) (ht : OkT n L (t : Int)) (hroom : M.length + 52 ≤ 524288) :
    Calls Tryz.prog 19 #[.pointer (some ⟨p, 0, none⟩), .agg #[.int .i64 (n : Int), .int .i64 (L : Int), .int .i64 (D : Int)], .int .i64 (t : Int)] w fun e w' =>
      e = .returned (.tuple #[.agg #[.int .i64 ((n : Int) + 1), .int .i64 (t : Int), .int .i64 ((t - L : Nat) : Int)], .int .i64 0]) ∧ ∃ v' M', RW w' base p v' M' ∧ numB M' = numB M * 2 ^ cdN n L D t + cdX n L D t ∧ M'.length = M.length + cdN n L D t ∧ Did w w' base p v v' := by
  have E1 := hide (RS.start h (.int .i64 (n : Int)) (.int .i64 (L : Int)) (.int .i64 (D : Int)))
  have hsi := hide (okSI_of hs)
  have htl := ht.le
  have hup : L < t := by rcases ht.up with h | h <;> omega
  have hsl := hs.l
  have hsd := hs.d
  have hsn := hs.n
  obtain ⟨z, hz⟩ : ∃ z, zz L D t = z := ⟨_, rfl⟩
  have hzl := zz_lt hs (show t ≤ 35184372088832 by omega)
  have hcN : cdN n L D t = cAhead (cls z) + cSize (cls z) := by rw [← hz]; unfold cdN; rw [if_neg hn]
  have hcX : cdX n L D t = cMark (cls z) * 2 ^ cSize (cls z) + z := by rw [← hz]; unfold cdX; rw [if_neg hn]
  rw [hcN, hcX]
  rw [hz] at hzl
  have hro := cls_room hzl
  have hzv : (0 ≤ (t : Int) - (L : Int) - (D : Int) → IntKind.u64.wrap (2 * ((t : Int) - (L : Int) - (D : Int))) = (z : Int)) ∧ ((t : Int) - (L : Int) - (D : Int) < 0 → IntKind.u64.wrap (-2 * ((t : Int) - (L : Int) - (D : Int)) - 1) = (z : Int)) := by
    rw [← hz]; unfold zz zigS
    constructor
    · intro hp; rw [if_pos hp, IntKind.wrap_u64]; omega
    · intro hp; rw [if_neg (by omega), IntKind.wrap_u64]; omega
  have C := hide (class_any z)
  have hc4 := cls_le z
  have hah := ahead_of hc4
  have hcm := fun (A B : Nat) => come_to (A := A) (B := B) (z := z) hc4 hro
  have hsz := cSize_le (cls z)
  generalize cls z = c at *
  obtain ⟨q, hq⟩ : ∃ q, t - L = q := ⟨_, rfl⟩
  rw [hq]
  obtain ⟨dd, hdd⟩ : ∃ dd : Int, (q : Int) - (D : Int) = dd := ⟨_, rfl⟩
  rw [show (t : Int) - (L : Int) - (D : Int) = dd by omega] at hzv
  have e1 : (t : Int) - (L : Int) = (q : Int) := by omega
  have i1 : (t : Int) ≤ 35184372088832 := by omega
  have i2 : (L : Int) ≤ 35184372088832 := by omega
  have i3 : (D : Int) ≤ 35184372088832 := by omega
  have i4 : (n : Int) ≤ 4096 := by omega
  have i5 : (0 : Int) < (n : Int) := by omega
  have i6 : (L : Int) < (t : Int) := by omega
  have i7 : ¬ (n : Int) = 0 := by omega
  have i8 : -35184372088832 ≤ dd ∧ dd ≤ 35184372088832 := by omega
  have i9 := i8.1
  have i10 := i8.2
  have i11 : (q : Int) ≤ 35184372088832 := by omega
  have i12 : (c : Int) ≤ 4 := by omega
  have R := hide (fun w => right_any (n : Int) (L : Int) (D : Int) w)
  rw [hsi.out] at R
  have s0 := E1.out.s.c0
  have s1 := E1.out.s.c1
  have s2 := E1.out.s.c2
  replace hzv := hide hzv
  replace hah := hide hah
  replace hcm := hide hcm
  clear h hs ht hz hcN hcX hq hn hup hsl hsd hsn htl i8
  replace hroom := hide hroom
  replace hro := hide hro
  go_enter Tryz.func19, Tryz.ntmps19
  go_wp2_with fail
  refine (R.out _).mono ?_
  rintro e w2 ⟨rfl, b2⟩
  have E2 := hide (E1.out.below b2)
  clear s0 s1 s2 E1 R b2
  have s0 := E2.out.s.c0
  have s1 := E2.out.s.c1
  have s2 := E2.out.s.c2
  by_cases hd0 : dd < 0
  · have hzw := hzv.out.2 hd0
    go_wp2_with (go_at_call 43; refine (C.out _).mono ?_; rintro e wq ⟨rfl, rfl⟩)
    go_loopw [14] (fun iv wr => ∃ (i : Nat) (v' : Value) (M' : List Bool), i ≤ c ∧ iv = .int .i64 (i : Int) ∧ Hid (RS w wr base p w.heap.size v v' M' (.int .i64 (n : Int)) (.int .i64 (L : Int)) (.int .i64 (D : Int))) ∧ Hid (numB M' = numB M * 2 ^ i + (2 ^ i - 1)) ∧ Hid (M'.length = M.length + i)) (fun iv _ => c - (intOf iv).toNat)
    case atStart => exact ⟨0, v, M, Nat.zero_le _, rfl, E2, (by simp : numB M = numB M * 2 ^ 0 + (2 ^ 0 - 1)), rfl⟩
    case round =>
      clear s0 s1 s2 E2
      obtain ⟨i, v', M', hi, rfl, E, hN, hl⟩ := hrel
      by_cases hlt : i < c
      · have j1 : (i : Int) < (c : Int) := by omega
        have P := hide (putRW E.out.wr 1 1 (xi := 1) (ni := 1) rfl rfl (by decide) (by decide) (by have := hroom.out; have := hl.out; omega))
        go_wp2_with fail
        refine P.out.mono ?_
        rintro e w3 ⟨rfl, v3, M3, W3, n3, l3, D3⟩
        have E3 := hide (E.out.put D3 W3)
        have hN3 : Hid (numB M3 = numB M * 2 ^ (i + 1) + (2 ^ (i + 1) - 1)) := n3.trans (ones_lt hN.out)
        have hl3 : Hid (M3.length = M.length + (i + 1)) := by have := hl.out; show _ = _; omega
        clear P W3 D3 n3 l3
        go_wp2_with fail
        go_roundw
        case rel => exact ⟨i + 1, v3, M3, by omega, by go_num, E3, hN3, hl3⟩
        case measure => simp [intOf]; omega
      · obtain rfl : i = c := by omega
        by_cases hc3 : i < 4
        · have j1 : (i : Int) < 4 := by omega
          have P := hide (putRW E.out.wr 0 1 (xi := 0) (ni := 1) rfl rfl (by decide) (by decide) (by have := hroom.out; have := hl.out; omega))
          go_wp2_with fail
          refine P.out.mono ?_
          rintro e w3 ⟨rfl, v3, M3, W3, n3, l3, D3⟩
          have E3 := hide (E.out.put D3 W3)
          replace n3 := hide n3
          replace l3 := hide l3
          have P3 := hide (putRW E3.out.wr z (cSize i) (xi := (z : Int)) (ni := ((cSize i : Nat) : Int)) rfl rfl (by omega) (by omega) (by have := hroom.out; have := hl.out; have := l3.out; omega))
          clear P W3 D3 E
          go_wp2_with fail
          refine P3.out.mono ?_
          rintro e w4 ⟨rfl, v4, M4, W4, n4, l4, D4⟩
          have E4 := hide (E3.out.put D4 W4)
          clear P3 W4 D4 E3
          have hNN : Hid (numB M4 = numB M * 2 ^ (cAhead i + cSize i) + (cMark i * 2 ^ cSize i + z)) := by
            show _ = _
            rw [n4, n3.out]; exact (hcm.out _ _ hN.out).1 hc3
          have hLL : Hid (M4.length = M.length + (cAhead i + cSize i)) := by
            have := hl.out; have := l3.out; have := hah.out.1 hc3; show _ = _; omega
          clear n4 l4
          have s0 := E4.out.s.c0
          have s1 := E4.out.s.c1
          have s2 := E4.out.s.c2
          have X2 := hide (E4.out.r.set (.int .i64 ((n : Int) + 1)) (.int .i64 (t : Int)) (.int .i64 (q : Int)))
          have FIN := hide (rdone3 E4.out (Nat.le_refl _) (.int .i64 ((n : Int) + 1)) (.int .i64 (t : Int)) (.int .i64 (q : Int)))
          obtain ⟨r0, r1, r2, r3, r4, r5, r6⟩ := E4.out.r
          have r7 := E4.out.r.o1
          have r8 := E4.out.r.o2
          have o0 := X2.out.c0
          have o1 := X2.out.c1
          have o2 := X2.out.c2
          go_wp2_with fail
          refine bodyPost_ret (v := .tuple #[.agg #[.int .i64 ((n : Int) + 1), .int .i64 (t : Int), .int .i64 (q : Int)], .int .i64 0]) (by simp [results, Tryz.f19, go_sem, o0, o1, o2]) rfl ?_
          exact ⟨rfl, v4, M4, FIN.out.1, hNN.out, hLL.out, FIN.out.2⟩
        · have hc5 : i = 4 := by omega
          have j1 : ¬ (i : Int) < 4 := by omega
          have P3 := hide (putRW E.out.wr z (cSize i) (xi := (z : Int)) (ni := ((cSize i : Nat) : Int)) rfl rfl (by omega) (by omega) (by have := hroom.out; have := hl.out; omega))
          replace hc5 := hide hc5
          go_wp2_with fail
          refine P3.out.mono ?_
          rintro e w4 ⟨rfl, v4, M4, W4, n4, l4, D4⟩
          have E4 := hide (E.out.put D4 W4)
          clear P3 W4 D4 E
          have hNN : Hid (numB M4 = numB M * 2 ^ (cAhead i + cSize i) + (cMark i * 2 ^ cSize i + z)) := by
            show _ = _
            rw [n4]; exact (hcm.out _ _ hN.out).2 hc5.out
          have hLL : Hid (M4.length = M.length + (cAhead i + cSize i)) := by
            have := hl.out; have := hah.out.2 hc5.out; show _ = _; omega
          clear n4 l4
          have s0 := E4.out.s.c0
          have s1 := E4.out.s.c1
          have s2 := E4.out.s.c2
          have X2 := hide (E4.out.r.set (.int .i64 ((n : Int) + 1)) (.int .i64 (t : Int)) (.int .i64 (q : Int)))
          have FIN := hide (rdone3 E4.out (Nat.le_refl _) (.int .i64 ((n : Int) + 1)) (.int .i64 (t : Int)) (.int .i64 (q : Int)))
          obtain ⟨r0, r1, r2, r3, r4, r5, r6⟩ := E4.out.r
          have r7 := E4.out.r.o1
          have r8 := E4.out.r.o2
          have o0 := X2.out.c0
          have o1 := X2.out.c1
          have o2 := X2.out.c2
          go_wp2_with fail
          refine bodyPost_ret (v := .tuple #[.agg #[.int .i64 ((n : Int) + 1), .int .i64 (t : Int), .int .i64 (q : Int)], .int .i64 0]) (by simp [results, Tryz.f19, go_sem, o0, o1, o2]) rfl ?_
          exact ⟨rfl, v4, M4, FIN.out.1, hNN.out, hLL.out, FIN.out.2⟩
  · have hzw := hzv.out.1 (by omega)
    go_wp2_with (go_at_call 43; refine (C.out _).mono ?_; rintro e wq ⟨rfl, rfl⟩)
    go_loopw [14] (fun iv wr => ∃ (i : Nat) (v' : Value) (M' : List Bool), i ≤ c ∧ iv = .int .i64 (i : Int) ∧ Hid (RS w wr base p w.heap.size v v' M' (.int .i64 (n : Int)) (.int .i64 (L : Int)) (.int .i64 (D : Int))) ∧ Hid (numB M' = numB M * 2 ^ i + (2 ^ i - 1)) ∧ Hid (M'.length = M.length + i)) (fun iv _ => c - (intOf iv).toNat)
    case atStart => exact ⟨0, v, M, Nat.zero_le _, rfl, E2, (by simp : numB M = numB M * 2 ^ 0 + (2 ^ 0 - 1)), rfl⟩
    case round =>
      clear s0 s1 s2 E2
      obtain ⟨i, v', M', hi, rfl, E, hN, hl⟩ := hrel
      by_cases hlt : i < c
      · have j1 : (i : Int) < (c : Int) := by omega
        have P := hide (putRW E.out.wr 1 1 (xi := 1) (ni := 1) rfl rfl (by decide) (by decide) (by have := hroom.out; have := hl.out; omega))
        go_wp2_with fail
        refine P.out.mono ?_
        rintro e w3 ⟨rfl, v3, M3, W3, n3, l3, D3⟩
        have E3 := hide (E.out.put D3 W3)
        have hN3 : Hid (numB M3 = numB M * 2 ^ (i + 1) + (2 ^ (i + 1) - 1)) := n3.trans (ones_lt hN.out)
        have hl3 : Hid (M3.length = M.length + (i + 1)) := by have := hl.out; show _ = _; omega
        clear P W3 D3 n3 l3
        go_wp2_with fail
        go_roundw
        case rel => exact ⟨i + 1, v3, M3, by omega, by go_num, E3, hN3, hl3⟩
        case measure => simp [intOf]; omega
      · obtain rfl : i = c := by omega
        by_cases hc3 : i < 4
        · have j1 : (i : Int) < 4 := by omega
          have P := hide (putRW E.out.wr 0 1 (xi := 0) (ni := 1) rfl rfl (by decide) (by decide) (by have := hroom.out; have := hl.out; omega))
          go_wp2_with fail
          refine P.out.mono ?_
          rintro e w3 ⟨rfl, v3, M3, W3, n3, l3, D3⟩
          have E3 := hide (E.out.put D3 W3)
          replace n3 := hide n3
          replace l3 := hide l3
          have P3 := hide (putRW E3.out.wr z (cSize i) (xi := (z : Int)) (ni := ((cSize i : Nat) : Int)) rfl rfl (by omega) (by omega) (by have := hroom.out; have := hl.out; have := l3.out; omega))
          clear P W3 D3 E
          go_wp2_with fail
          refine P3.out.mono ?_
          rintro e w4 ⟨rfl, v4, M4, W4, n4, l4, D4⟩
          have E4 := hide (E3.out.put D4 W4)
          clear P3 W4 D4 E3
          have hNN : Hid (numB M4 = numB M * 2 ^ (cAhead i + cSize i) + (cMark i * 2 ^ cSize i + z)) := by
            show _ = _
            rw [n4, n3.out]; exact (hcm.out _ _ hN.out).1 hc3
          have hLL : Hid (M4.length = M.length + (cAhead i + cSize i)) := by
            have := hl.out; have := l3.out; have := hah.out.1 hc3; show _ = _; omega
          clear n4 l4
          have s0 := E4.out.s.c0
          have s1 := E4.out.s.c1
          have s2 := E4.out.s.c2
          have X2 := hide (E4.out.r.set (.int .i64 ((n : Int) + 1)) (.int .i64 (t : Int)) (.int .i64 (q : Int)))
          have FIN := hide (rdone3 E4.out (Nat.le_refl _) (.int .i64 ((n : Int) + 1)) (.int .i64 (t : Int)) (.int .i64 (q : Int)))
          obtain ⟨r0, r1, r2, r3, r4, r5, r6⟩ := E4.out.r
          have r7 := E4.out.r.o1
          have r8 := E4.out.r.o2
          have o0 := X2.out.c0
          have o1 := X2.out.c1
          have o2 := X2.out.c2
          go_wp2_with fail
          refine bodyPost_ret (v := .tuple #[.agg #[.int .i64 ((n : Int) + 1), .int .i64 (t : Int), .int .i64 (q : Int)], .int .i64 0]) (by simp [results, Tryz.f19, go_sem, o0, o1, o2]) rfl ?_
          exact ⟨rfl, v4, M4, FIN.out.1, hNN.out, hLL.out, FIN.out.2⟩
        · have hc5 : i = 4 := by omega
          have j1 : ¬ (i : Int) < 4 := by omega
          have P3 := hide (putRW E.out.wr z (cSize i) (xi := (z : Int)) (ni := ((cSize i : Nat) : Int)) rfl rfl (by omega) (by omega) (by have := hroom.out; have := hl.out; omega))
          replace hc5 := hide hc5
          go_wp2_with fail
          refine P3.out.mono ?_
          rintro e w4 ⟨rfl, v4, M4, W4, n4, l4, D4⟩
          have E4 := hide (E.out.put D4 W4)
          clear P3 W4 D4 E
          have hNN : Hid (numB M4 = numB M * 2 ^ (cAhead i + cSize i) + (cMark i * 2 ^ cSize i + z)) := by
            show _ = _
            rw [n4]; exact (hcm.out _ _ hN.out).2 hc5.out
          have hLL : Hid (M4.length = M.length + (cAhead i + cSize i)) := by
            have := hl.out; have := hah.out.2 hc5.out; show _ = _; omega
          clear n4 l4
          have s0 := E4.out.s.c0
          have s1 := E4.out.s.c1
          have s2 := E4.out.s.c2
          have X2 := hide (E4.out.r.set (.int .i64 ((n : Int) + 1)) (.int .i64 (t : Int)) (.int .i64 (q : Int)))
          have FIN := hide (rdone3 E4.out (Nat.le_refl _) (.int .i64 ((n : Int) + 1)) (.int .i64 (t : Int)) (.int .i64 (q : Int)))
          obtain ⟨r0, r1, r2, r3, r4, r5, r6⟩ := E4.out.r
          have r7 := E4.out.r.o1
          have r8 := E4.out.r.o2
          have o0 := X2.out.c0
          have o1 := X2.out.c1
          have o2 := X2.out.c2
          go_wp2_with fail
          refine bodyPost_ret (v := .tuple #[.agg #[.int .i64 ((n : Int) + 1), .int .i64 (t : Int), .int .i64 (q : Int)], .int .i64 0]) (by simp [results, Tryz.f19, go_sem, o0, o1, o2]) rfl ?_
          exact ⟨rfl, v4, M4, FIN.out.1, hNN.out, hLL.out, FIN.out.2⟩
set_option linter.unusedSimpArgs false

theorem rputS {w : World} {base p : Nat} {v : Value} {M : List Bool} (h : RW w base p v M) {n L D t : Nat} (hs : OkS n L D) (ht : OkT n L (t : Int)) (hroom : M.length + 52 ≤ 524288) :
    Calls Tryz.prog 19 #[.pointer (some ⟨p, 0, none⟩), .agg #[.int .i64 (n : Int), .int .i64 (L : Int), .int .i64 (D : Int)], .int .i64 (t : Int)] w fun e w' =>
      e = .returned (.tuple #[.agg #[.int .i64 ((n + 1 : Nat) : Int), .int .i64 (t : Int), .int .i64 ((dl n L t : Nat) : Int)], .int .i64 0]) ∧ ∃ v' M', RW w' base p v' M' ∧ numB M' = numB M * 2 ^ cdN n L D t + cdX n L D t ∧ M'.length = M.length + cdN n L D t ∧ Did w w' base p v v' := by
  by_cases hn : n = 0
  · subst hn
    exact rputS0 h hs ht hroom
  · have := rputS1 h hn hs ht hroom
    rw [show dl n L t = t - L by unfold dl; rw [if_neg hn]]
    exact this

set_option maxHeartbeats 2000000 in
theorem rputS_no {w : World} {base p : Nat} {v : Value} {M : List Bool} (h : RW w base p v M) (n l d t : Int) (hno : (okSI n l d && okTI n l t) = false) :
    Calls Tryz.prog 19 #[.pointer (some ⟨p, 0, none⟩), .agg #[.int .i64 n, .int .i64 l, .int .i64 d], .int .i64 t] w fun e w' =>
      e = .returned (.tuple #[.agg #[.int .i64 0, .int .i64 0, .int .i64 0], .int .i64 60]) ∧ ∃ v', RW w' base p v' M ∧ Did w w' base p v v' := by
  have E1 := hide (RS.start h (.int .i64 n) (.int .i64 l) (.int .i64 d))
  have R := hide (fun w => right_any n l d w)
  have hz36 := zero36S
  have s0 := E1.out.s.c0
  have s1 := E1.out.s.c1
  have s2 := E1.out.s.c2
  clear h
  cases hsi : okSI n l d <;> rw [hsi] at R hno
  · go_enter Tryz.func19, Tryz.ntmps19
    go_wp2_with fail
    refine (R.out _).mono ?_
    rintro e w2 ⟨rfl, b2⟩
    have E2 := hide (E1.out.below b2)
    clear s0 s1 s2 E1 R b2
    have X2 := hide (E2.out.r.set (.int .i64 0) (.int .i64 0) (.int .i64 0))
    have FIN := hide (rdone3 E2.out (Nat.le_refl _) (.int .i64 0) (.int .i64 0) (.int .i64 0))
    obtain ⟨r0, r1, r2, r3, r4, r5, r6⟩ := E2.out.r
    have r7 := E2.out.r.o1
    have r8 := E2.out.r.o2
    have o0 := X2.out.c0
    have o1 := X2.out.c1
    have o2 := X2.out.c2
    go_wp2_with fail
    refine bodyPost_ret (v := .tuple #[.agg #[.int .i64 0, .int .i64 0, .int .i64 0], .int .i64 60]) (by simp [results, Tryz.f19, go_sem, o0, o1, o2]) rfl ?_
    exact ⟨rfl, v, FIN.out.1, FIN.out.2⟩
  · have hcs : t < 0 ∨ (¬ t < 0 ∧ 35184372088832 < t) ∨ (¬ t < 0 ∧ ¬ 35184372088832 < t ∧ 0 < n ∧ t ≤ l) := by
      simp [okSI, isCnt, isTim] at hsi
      simp [okTI, isTim] at hno
      omega
    clear hsi hno
    rcases hcs with k1 | ⟨k1, k2⟩ | ⟨k1, k2, k3, k4⟩
    · go_enter Tryz.func19, Tryz.ntmps19
      go_wp2_with fail
      refine (R.out _).mono ?_
      rintro e w2 ⟨rfl, b2⟩
      have E2 := hide (E1.out.below b2)
      clear s0 s1 s2 E1 R b2
      have s0 := E2.out.s.c0
      have s1 := E2.out.s.c1
      have s2 := E2.out.s.c2
      have X2 := hide (E2.out.r.set (.int .i64 0) (.int .i64 0) (.int .i64 0))
      have FIN := hide (rdone3 E2.out (Nat.le_refl _) (.int .i64 0) (.int .i64 0) (.int .i64 0))
      obtain ⟨r0, r1, r2, r3, r4, r5, r6⟩ := E2.out.r
      have r7 := E2.out.r.o1
      have r8 := E2.out.r.o2
      have o0 := X2.out.c0
      have o1 := X2.out.c1
      have o2 := X2.out.c2
      go_wp2_with fail
      refine bodyPost_ret (v := .tuple #[.agg #[.int .i64 0, .int .i64 0, .int .i64 0], .int .i64 60]) (by simp [results, Tryz.f19, go_sem, o0, o1, o2]) rfl ?_
      exact ⟨rfl, v, FIN.out.1, FIN.out.2⟩
    · go_enter Tryz.func19, Tryz.ntmps19
      go_wp2_with fail
      refine (R.out _).mono ?_
      rintro e w2 ⟨rfl, b2⟩
      have E2 := hide (E1.out.below b2)
      clear s0 s1 s2 E1 R b2
      have s0 := E2.out.s.c0
      have s1 := E2.out.s.c1
      have s2 := E2.out.s.c2
      have X2 := hide (E2.out.r.set (.int .i64 0) (.int .i64 0) (.int .i64 0))
      have FIN := hide (rdone3 E2.out (Nat.le_refl _) (.int .i64 0) (.int .i64 0) (.int .i64 0))
      obtain ⟨r0, r1, r2, r3, r4, r5, r6⟩ := E2.out.r
      have r7 := E2.out.r.o1
      have r8 := E2.out.r.o2
      have o0 := X2.out.c0
      have o1 := X2.out.c1
      have o2 := X2.out.c2
      go_wp2_with fail
      refine bodyPost_ret (v := .tuple #[.agg #[.int .i64 0, .int .i64 0, .int .i64 0], .int .i64 60]) (by simp [results, Tryz.f19, go_sem, o0, o1, o2]) rfl ?_
      exact ⟨rfl, v, FIN.out.1, FIN.out.2⟩
    · go_enter Tryz.func19, Tryz.ntmps19
      go_wp2_with fail
      refine (R.out _).mono ?_
      rintro e w2 ⟨rfl, b2⟩
      have E2 := hide (E1.out.below b2)
      clear s0 s1 s2 E1 R b2
      have s0 := E2.out.s.c0
      have s1 := E2.out.s.c1
      have s2 := E2.out.s.c2
      have X2 := hide (E2.out.r.set (.int .i64 0) (.int .i64 0) (.int .i64 0))
      have FIN := hide (rdone3 E2.out (Nat.le_refl _) (.int .i64 0) (.int .i64 0) (.int .i64 0))
      obtain ⟨r0, r1, r2, r3, r4, r5, r6⟩ := E2.out.r
      have r7 := E2.out.r.o1
      have r8 := E2.out.r.o2
      have o0 := X2.out.c0
      have o1 := X2.out.c1
      have o2 := X2.out.c2
      go_wp2_with fail
      refine bodyPost_ret (v := .tuple #[.agg #[.int .i64 0, .int .i64 0, .int .i64 0], .int .i64 60]) (by simp [results, Tryz.f19, go_sem, o0, o1, o2]) rfl ?_
      exact ⟨rfl, v, FIN.out.1, FIN.out.2⟩

end Go.Proofs.YtmjjedbdedemcaaGreatDoor
