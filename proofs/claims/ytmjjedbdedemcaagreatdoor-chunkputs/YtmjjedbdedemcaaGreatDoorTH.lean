/-
  A sample is read: states.get; what is left of a reader.
-/
import Derived.Test.YtmjjedbdedemcaaGreatDoorTF
import Derived.Test.YtmjjedbdedemcaaGreatDoorXP
namespace Go.Proofs.YtmjjedbdedemcaaGreatDoor
open Go.RowKit
set_option linter.unusedVariables false
set_option linter.unusedSimpArgs false

set_option maxHeartbeats 400000 in
theorem leftRd {w : World} {base p n : Nat} {v : Value} {l : List Int} (h : Rd w base p v l n) : Calls Tryz.prog 79 #[.pointer (some ⟨p, 0, none⟩)] w fun e w' => e = .returned (.int .i64 ((8 * l.length - n : Nat) : Int)) ∧ ∃ k, w' = w.drewN k := by
  have H := hide (left_any h.1 h.2.2.2 h.2.2.1)
  clear h
  go_enter Tryz.func79, Tryz.ntmps79
  go_wp2_with fail
  refine H.out.mono ?_
  rintro e w' ⟨rfl, k, rfl⟩
  go_wp2_with fail
  go_ret
  exact ⟨rfl, k, rfl⟩
theorem but_did {w w' : World} {base p : Nat} (d : Did w w' base p nul nul) : But (fun k => k = p) w w' := d.but.mono (fun k hk => fp_nul hk)
theorem but_drewN (S : Nat → Prop) (w : World) (k : Nat) : But S w (w.drewN k) := but_of_below (below_drewN (Below.refl w.heap.size w) k) S (fun i h1 h2 => by omega)
set_option maxHeartbeats 1000000 in
set_option maxRecDepth 100000 in
theorem filled_any {w : World} {base p m : Nat} {v : Value} {l : List Int} (h : Rd w base p v l m) :
    Calls Tryz.prog 59 #[.pointer (some ⟨p, 0, none⟩)] w fun e w' => e = .returned (.bool (decide (8 * l.length < m + 8 ∧ rd (num l) l.length m (8 * l.length - m) = 0))) ∧ But (fun k => k = p) w w' := by
  have hm := h.2.2.2
  have hl := h.2.2.1
  obtain ⟨r, hr⟩ : ∃ r, 8 * l.length - m = r := ⟨_, rfl⟩
  have LF := hide (leftRd h)
  rw [hr] at LF ⊢
  by_cases h8 : r < 8
  · have i1 : (r : Int) < 8 := by omega
    have LF2 := hide (fun k => leftRd (h.drewN k))
    rw [hr] at LF2
    obtain ⟨x, hx⟩ : ∃ x, rd (num l) l.length m r = x := ⟨_, rfl⟩
    have GG := hide (fun k => getG (h.drewN k) r rfl hx rfl (by omega) (by omega))
    rw [hx]
    have hb : Hid (8 * l.length < m + 8) := by show _ < _; omega
    replace hr := hide hr
    clear h hm hl hx
    go_enter Tryz.func59, Tryz.ntmps59
    go_wp2_with fail
    refine LF.out.mono ?_
    rintro e w1 ⟨rfl, k1, rfl⟩
    go_wp2_with fail
    refine (LF2.out k1).mono ?_
    rintro e w1 ⟨rfl, k2, rfl⟩
    rw [World.drewN_drewN]
    go_wp2_with fail
    refine (GG.out _).mono ?_
    rintro e w3 ⟨rfl, R3, D3⟩
    have b3 := hide ((but_drewN (fun k => k = p) w (k1 + k2)).trans (but_did D3) (fun i _ h => h))
    clear LF LF2 GG R3 D3
    by_cases hx0 : x = 0
    · subst hx0
      simp only [show ((0 : Nat) : Int) = 0 from rfl]
      go_wp2_with fail
      go_ret
      exact ⟨ret_bool (by simp [hb.out]), b3.out⟩
    · have hx1 : ¬ ((x : Int) = 0) := by omega
      have hx2 : ((x : Int) == 0) = false := by simpa using hx1
      go_wp2_with fail
      go_ret
      exact ⟨ret_bool (by simp [hx0]), b3.out⟩
  · have i1 : (8 : Int) ≤ (r : Int) := by omega
    have hb : Hid (¬ 8 * l.length < m + 8) := by show ¬ _ < _; omega
    replace hr := hide hr
    clear h hm hl
    go_enter Tryz.func59, Tryz.ntmps59
    go_wp2_with fail
    refine LF.out.mono ?_
    rintro e w1 ⟨rfl, k1, rfl⟩
    go_wp2_with fail
    go_ret
    exact ⟨ret_bool (by simp [hb.out]), but_drewN _ _ _⟩

/-- A reader on its way from w0 to w. -/
structure GC (w0 w : World) (base p : Nat) (v : Value) (l : List Int) (m : Nat) : Prop where
  rd : Rd w base p v l m
  but : But (fun k => k = p) w0 w
  t : Tabs w
  b0 : 2 < base
  bw : base ≤ p ∧ p < w0.heap.size
section
variable {w0 w w' : World} {base p m m' : Nat} {v : Value} {l : List Int}
theorem tabs_but (h : Tabs w) (hb : But (fun k => k = p) w w') (h2 : 2 < p) (hp : p < w.heap.size) : Tabs w' := h.kept (hb.below (B := p) (by omega) (fun k hk => by omega)) h2
theorem GC.start (h : Rd w base p v l m) (ht : Tabs w) (hb : 2 < base) : GC w w base p v l m := ⟨h, But.refl _ _, ht, hb, h.lt⟩
theorem GC.below (h : GC w0 w base p v l m) (hb : Below w.heap.size w w') : GC w0 w' base p v l m :=
  ⟨h.rd.below hb (Nat.le_refl _), h.but.trans (but_below hb) (fun _ _ h => h), h.t.below hb, h.b0, h.bw⟩
theorem GC.alloc (h : GC w0 w base p v l m) (o : Obj) : GC w0 (w.alloc o) base p v l m := h.below ((Below.refl _ _).alloc (Nat.le_refl _) _)
theorem GC.get (h : GC w0 w base p v l m) (hb : But (fun k => k = p) w w') (hr : Rd w' base p v l m') : GC w0 w' base p v l m' :=
  ⟨hr, h.but.trans hb (fun _ _ h => h), tabs_but h.t hb (by have := h.b0; have := h.bw; omega) (h.rd.lt.2), h.b0, h.bw⟩
theorem GC.not (h : GC w0 w base p v l m) {g : Nat} (hg : w.heap.size ≤ g) : ¬ fp p v g := h.rd.not hg
theorem GC.other (h : GC w0 w base p v l m) {g : Nat} (hb : But (fun i => i = g) w w') (hg : w0.heap.size ≤ g) (hn : ¬ fp p v g) : GC w0 w' base p v l m := by
  have h1 := h.bw
  have h2 := h.b0
  refine ⟨⟨h.rd.1.kept hb (fun i hi => by rw [hi]; exact hn), h.rd.2⟩, h.but.trans hb (fun i hi e => by omega), h.t.kept (hb.below (B := base) (by have := h.rd.lt; omega) (fun k hk => by omega)) h2, h2, h1⟩
end
theorem sizeSmp : (Tryz.prog.info? 33).map (·.size) = some 2 := by kernel_rfl
theorem zeroSmp : (Tryz.prog.info? 33).map (·.zero) = some (some (.agg #[.int .i64 0, .int .u64 0])) := by kernel_rfl
/-- A sample is stored. -/
theorem wpList_storeP {ops : Array Oper} {rest : List Oper} {o : Oper} {a : Act} {w : World} {Q : Exit → Act → World → Prop} (hgd : o.guard = none) (x y : Operand) (ho : o.op = .store 33 x y)
    (g : Nat) (a0 a1 : Int) (hx : a.eval x = .pointer (some ⟨g, 0, none⟩)) (hy : a.eval y = .agg #[.int .i64 a0, .int .u64 a1])
    (t : TypeId) (b0 b1 : Value) (hg : Bx w g t #[b0, b1])
    (h : wpList Tryz.prog ops Q rest (a.put o.dst undef) (w.setRow g #[.int .i64 a0, .int .u64 a1])) : wpList Tryz.prog ops Q (o :: rest) a w :=
  wpList_store_row hgd 33 x y ho g _ hx hy t _ hg (by rw [sizeSmp]; rfl) rfl (by simp [Value.oneCell']) h

/-- The results of get are stored. -/
theorem get_end {w0 w : World} {base p m g : Nat} {v : Value} {l : List Int} (E : GC w0 w base p v l m) (hg : w0.heap.size ≤ g) {r0 r1 r2 r3 r4 r5 r6 q0 q1 : Value} (R : Bx w g 63 #[r0, r1, r2, r3, r4, r5, r6]) (S : Bx w (g + 1) 33 #[q0, q1]) (n1 : ¬ fp p v g) (n2 : ¬ fp p v (g + 1)) (cs ds : Array Value) :
    GC w0 ((w.setRow g cs).setRow (g + 1) ds) base p v l m ∧ Bx (w.setRow g cs) (g + 1) 33 #[q0, q1] ∧ Bx ((w.setRow g cs).setRow (g + 1) ds) g 63 cs ∧ Bx ((w.setRow g cs).setRow (g + 1) ds) (g + 1) 33 ds := by
  have b1 := but_setRow w g cs
  have S1 := S.but b1 (by omega)
  have b2 := but_setRow (w.setRow g cs) (g + 1) ds
  exact ⟨(E.other b1 hg n1).other b2 (by omega) n2, S1, (R.setRow cs).but b2 (by omega), S1.setRow ds⟩

set_option maxHeartbeats 4000000 in
set_option maxRecDepth 100000 in
theorem cget_ok {w : World} {base p m m' : Nat} {v : Value} {l : List Int} (h : Rd w base p v l m) (hT : Tabs w) (hb0 : 2 < base) {z : Z} {s : Sm} (hz : OkZ z) (hr : rd1 z (num l) l.length m = some (s, m')) :
    Calls Tryz.prog 78 #[.agg (zA z), .pointer (some ⟨p, 0, none⟩)] w fun e w' =>
      e = .returned (.tuple #[.agg (zA (nxt z s)), .agg #[.int .i64 (s.1 : Int), .int .u64 (s.2 : Int)], .int .i64 0]) ∧ Rd w' base p v l m' ∧ But (fun k => k = p) w w' := by
  obtain ⟨n, L, D, U, a, b⟩ := z
  obtain ⟨t, x⟩ := s
  obtain ⟨hz1, hz2, hz3⟩ := hz
  simp only at hz1 hz2 hz3
  unfold rd1 at hr
  simp only at hr
  split at hr
  · rename_i t' k ht
    split at hr
    · rename_i x' j a' b' hv
      simp only [Option.some.injEq, Prod.mk.injEq] at hr
      obtain ⟨⟨rfl, rfl⟩, rfl⟩ := hr
      obtain ⟨-, -, hA, hB, -, -⟩ := gX_ok hz2.w hz3 hv
      unfold nxt zA
      simp only
      rw [← hA, ← hB]
      clear hA hB
      have E0 := GC.start h hT hb0
      have K1 := Bx.new w 63 #[.int .i64 (n : Int), .int .i64 (L : Int), .int .i64 (D : Int), .int .i64 (n : Int), .int .u64 (U : Int), .int .i64 (a : Int), .int .i64 (b : Int)]
      have E1 := E0.alloc (.cells #[.int .i64 (n : Int), .int .i64 (L : Int), .int .i64 (D : Int), .int .i64 (n : Int), .int .u64 (U : Int), .int .i64 (a : Int), .int .i64 (b : Int)] 63)
      have R1 := Bx.new_at (w := w.alloc (.cells #[.int .i64 (n : Int), .int .i64 (L : Int), .int .i64 (D : Int), .int .i64 (n : Int), .int .u64 (U : Int), .int .i64 (a : Int), .int .i64 (b : Int)] 63)) (g := w.heap.size + 1) (by simp) 63 #[.int .i64 0, .int .i64 0, .int .i64 0, .int .i64 0, .int .u64 0, .int .i64 0, .int .i64 0]
      have nR := hide (E1.not (g := w.heap.size + 1) (by simp))
      have E2 := E1.alloc (.cells #[.int .i64 0, .int .i64 0, .int .i64 0, .int .i64 0, .int .u64 0, .int .i64 0, .int .i64 0] 63)
      have nS := hide (E2.not (g := w.heap.size + 1 + 1) (by simp))
      have S1 := hide (Bx.new_at (w := (w.alloc (.cells #[.int .i64 (n : Int), .int .i64 (L : Int), .int .i64 (D : Int), .int .i64 (n : Int), .int .u64 (U : Int), .int .i64 (a : Int), .int .i64 (b : Int)] 63)).alloc (.cells #[.int .i64 0, .int .i64 0, .int .i64 0, .int .i64 0, .int .u64 0, .int .i64 0, .int .i64 0] 63)) (g := w.heap.size + 1 + 1) (by simp) 33 #[.int .i64 0, .int .u64 0])
      have E3 := hide (E2.alloc (.cells #[.int .i64 0, .int .u64 0] 33))
      replace K1 := hide ((K1.alloc (.cells #[.int .i64 0, .int .i64 0, .int .i64 0, .int .i64 0, .int .u64 0, .int .i64 0, .int .i64 0] 63)).alloc (.cells #[.int .i64 0, .int .u64 0] 33))
      replace R1 := hide (R1.alloc (.cells #[.int .i64 0, .int .u64 0] 33))
      clear E0 E1 E2
      have hpw := hide h.lt.2
      have P1 := getS E3.out.rd E3.out.t.s (by omega) hz1
      have P2 := hide (fun w h ht => getX_ok (w := w) (base := base) (p := p) (m := m + k) (v := v) (l := l) h ht hb0 hz2 hz3 hv)
      have hzz := zeroSts
      have hzs := zeroSmp
      replace P1 := hide P1
      replace hb0 := hide hb0
      replace ht := hide ht
      clear h hT hz1 hz2 hz3 hv
      obtain ⟨k0, k1, k2, -, -, -, -⟩ := K1.out.seven
      go_enter Tryz.func78, Tryz.ntmps78
      go_wp2_with fail
      refine P1.out.mono ?_
      rintro e w4 ⟨er, t2, k2', hg, -, hok, -, b4⟩
      rw [ht.out] at hg
      simp only [Prod.mk.injEq] at hg
      obtain ⟨rfl, rfl, rfl⟩ := hg
      obtain ⟨rfl, R4⟩ := hok rfl
      obtain ⟨n1, hn1⟩ : ∃ m, n + 1 = m := ⟨_, rfl⟩
      obtain ⟨q, hq⟩ : ∃ q, dl n L t' = q := ⟨_, rfl⟩
      rw [hn1, hq]
      clear P1 k0 k1 k2 hok
      have E4 := hide ((E3.out.get b4 R4).alloc (.cells #[.int .i64 (n1 : Int), .int .i64 (t' : Int), .int .i64 (q : Int)] 60))
      have T4 := hide (Bx.new w4 60 #[.int .i64 (n1 : Int), .int .i64 (t' : Int), .int .i64 (q : Int)])
      have K4 := hide ((K1.out.but b4 (by have := hpw.out; omega)).alloc (.cells #[.int .i64 (n1 : Int), .int .i64 (t' : Int), .int .i64 (q : Int)] 60))
      have R5 := hide ((R1.out.but b4 (by have := hpw.out; omega)).alloc (.cells #[.int .i64 (n1 : Int), .int .i64 (t' : Int), .int .i64 (q : Int)] 60))
      have S4 := hide ((S1.out.but b4 (by have := hpw.out; omega)).alloc (.cells #[.int .i64 (n1 : Int), .int .i64 (t' : Int), .int .i64 (q : Int)] 60))
      have hp4 : Hid (p < w4.heap.size) := Nat.lt_of_lt_of_le hpw.out (by have := E3.out.but.size; have := b4.size; simp at this; omega)
      clear E3 K1 R1 S1 R4 b4
      obtain ⟨-, -, -, k3, k4, k5, k6⟩ := K4.out.seven
      replace hn1 := hide hn1
      replace hq := hide hq
      go_wp2_with fail
      refine (P2.out _ E4.out.rd E4.out.t.x).mono ?_
      rintro e w6 ⟨rfl, R6, D6⟩
      rw [hn1.out]
      have b6 := but_did D6
      clear P2 k3 k4 k5 k6 K4
      have E6 := hide ((E4.out.get b6 R6).alloc (.cells #[.int .i64 (n1 : Int), .int .u64 (x' : Int), .int .i64 (a' : Int), .int .i64 (b' : Int)] 61))
      have X6 := hide (Bx.new w6 61 #[.int .i64 (n1 : Int), .int .u64 (x' : Int), .int .i64 (a' : Int), .int .i64 (b' : Int)])
      have T6 := hide ((T4.out.but b6 (by have := hp4.out; omega)).alloc (.cells #[.int .i64 (n1 : Int), .int .u64 (x' : Int), .int .i64 (a' : Int), .int .i64 (b' : Int)] 61))
      have R7 := hide ((R5.out.but b6 (by have := hpw.out; omega)).alloc (.cells #[.int .i64 (n1 : Int), .int .u64 (x' : Int), .int .i64 (a' : Int), .int .i64 (b' : Int)] 61))
      have S7 := hide ((S4.out.but b6 (by have := hpw.out; omega)).alloc (.cells #[.int .i64 (n1 : Int), .int .u64 (x' : Int), .int .i64 (a' : Int), .int .i64 (b' : Int)] 61))
      clear E4 T4 R5 S4 R6 D6 b6
      have t0 := T6.out.cell 0
      have t1 := T6.out.cell 1
      have t2 := T6.out.cell 2
      have x0 := X6.out.cell 0
      have x1 := X6.out.cell 1
      have x2 := X6.out.cell 2
      have x3 := X6.out.cell 3
      simp only [List.getElem?_toArray, List.getElem?_cons_zero, List.getElem?_cons_succ] at t0 t1 t2 x0 x1 x2 x3
      have FF := hide (get_end E6.out (g := w.heap.size + 1) (by omega) R7.out S7.out nR.out nS.out #[.int .i64 (n1 : Int), .int .i64 (t' : Int), .int .i64 (q : Int), .int .i64 (n1 : Int), .int .u64 (x' : Int), .int .i64 (a' : Int), .int .i64 (b' : Int)] #[.int .i64 (t' : Int), .int .u64 (x' : Int)])
      go_wp2_with (first
        | (refine wpList_storeZ rfl (.tmp 4) (.tmp 40) rfl (w.heap.size + 1) _ _ _ _ _ _ _ rfl rfl 63 _ _ _ _ _ _ _ R7.out ?_)
        | (refine wpList_storeP rfl (.tmp 5) (.tmp 43) rfl (w.heap.size + 1 + 1) _ _ rfl rfl 33 _ _ FF.out.2.1 ?_))
      obtain ⟨o0, o1, o2, o3, o4, o5, o6⟩ := FF.out.2.2.1.seven
      obtain ⟨u0, u1⟩ := FF.out.2.2.2.two
      refine bodyPost_ret (v := .tuple #[.agg #[.int .i64 (n1 : Int), .int .i64 (t' : Int), .int .i64 (q : Int), .int .i64 (n1 : Int), .int .u64 (x' : Int), .int .i64 (a' : Int), .int .i64 (b' : Int)], .agg #[.int .i64 (t' : Int), .int .u64 (x' : Int)], .int .i64 0]) (by simp [results, Tryz.f78, go_sem, o0, o1, o2, o3, o4, o5, o6, u0, u1]) rfl ?_
      exact ⟨by rw [hn1.out, hq.out], FF.out.1.rd, FF.out.1.but⟩
    · cases hr
  · cases hr
theorem get_endN {w0 w : World} {p g : Nat} (E : But (fun k => k = p) w0 w) (hg : w0.heap.size ≤ g) {r0 r1 r2 r3 r4 r5 r6 q0 q1 : Value} (R : Bx w g 63 #[r0, r1, r2, r3, r4, r5, r6]) (S : Bx w (g + 1) 33 #[q0, q1]) (cs ds : Array Value) :
    But (fun k => k = p) w0 ((w.setRow g cs).setRow (g + 1) ds) ∧ Bx (w.setRow g cs) (g + 1) 33 #[q0, q1] ∧ Bx ((w.setRow g cs).setRow (g + 1) ds) g 63 cs ∧ Bx ((w.setRow g cs).setRow (g + 1) ds) (g + 1) 33 ds := by
  have b1 := but_setRow w g cs
  have S1 := S.but b1 (by omega)
  have b2 := but_setRow (w.setRow g cs) (g + 1) ds
  exact ⟨(E.trans b1 (fun i hi e => by omega)).trans b2 (fun i hi e => by omega), S1, (R.setRow cs).but b2 (by omega), S1.setRow ds⟩
set_option maxHeartbeats 4000000 in
set_option maxRecDepth 100000 in
theorem cget_no1 {w : World} {base p m : Nat} {v : Value} {l : List Int} (h : Rd w base p v l m) (hT : Tabs w) (hb0 : 2 < base) {n L D U a b er : Nat} (hz1 : OkS n L D) (her : er = 50 ∨ er = 60) (ht : gtm n L D (num l) l.length m = (er, 0, 0)) :
    Calls Tryz.prog 78 #[.agg #[.int .i64 (n : Int), .int .i64 (L : Int), .int .i64 (D : Int), .int .i64 (n : Int), .int .u64 (U : Int), .int .i64 (a : Int), .int .i64 (b : Int)], .pointer (some ⟨p, 0, none⟩)] w fun e w' =>
      e = .returned (.tuple #[.agg z7, .agg #[.int .i64 0, .int .u64 0], .int .i64 (er : Int)]) ∧ But (fun k => k = p) w w' := by
  unfold z7
  have E0 := GC.start h hT hb0
  have K1 := Bx.new w 63 #[.int .i64 (n : Int), .int .i64 (L : Int), .int .i64 (D : Int), .int .i64 (n : Int), .int .u64 (U : Int), .int .i64 (a : Int), .int .i64 (b : Int)]
  have E1 := E0.alloc (.cells #[.int .i64 (n : Int), .int .i64 (L : Int), .int .i64 (D : Int), .int .i64 (n : Int), .int .u64 (U : Int), .int .i64 (a : Int), .int .i64 (b : Int)] 63)
  have R1 := Bx.new_at (w := w.alloc (.cells #[.int .i64 (n : Int), .int .i64 (L : Int), .int .i64 (D : Int), .int .i64 (n : Int), .int .u64 (U : Int), .int .i64 (a : Int), .int .i64 (b : Int)] 63)) (g := w.heap.size + 1) (by simp) 63 #[.int .i64 0, .int .i64 0, .int .i64 0, .int .i64 0, .int .u64 0, .int .i64 0, .int .i64 0]
  have nR := hide (E1.not (g := w.heap.size + 1) (by simp))
  have E2 := E1.alloc (.cells #[.int .i64 0, .int .i64 0, .int .i64 0, .int .i64 0, .int .u64 0, .int .i64 0, .int .i64 0] 63)
  have nS := hide (E2.not (g := w.heap.size + 1 + 1) (by simp))
  have S1 := hide (Bx.new_at (w := (w.alloc (.cells #[.int .i64 (n : Int), .int .i64 (L : Int), .int .i64 (D : Int), .int .i64 (n : Int), .int .u64 (U : Int), .int .i64 (a : Int), .int .i64 (b : Int)] 63)).alloc (.cells #[.int .i64 0, .int .i64 0, .int .i64 0, .int .i64 0, .int .u64 0, .int .i64 0, .int .i64 0] 63)) (g := w.heap.size + 1 + 1) (by simp) 33 #[.int .i64 0, .int .u64 0])
  have E3 := hide (E2.alloc (.cells #[.int .i64 0, .int .u64 0] 33))
  replace K1 := hide ((K1.alloc (.cells #[.int .i64 0, .int .i64 0, .int .i64 0, .int .i64 0, .int .u64 0, .int .i64 0, .int .i64 0] 63)).alloc (.cells #[.int .i64 0, .int .u64 0] 33))
  replace R1 := hide (R1.alloc (.cells #[.int .i64 0, .int .u64 0] 33))
  clear E0 E1 E2
  have hpw := hide h.lt.2
  have P1 := hide (getS E3.out.rd E3.out.t.s (by omega) hz1)
  have hzz := zeroSts
  have hzs := zeroSmp
  have hne : ¬ ((er : Int) = 0) := by omega
  have hne2 : Hid (er ≠ 0) := by show er ≠ 0; omega
  replace hb0 := hide hb0
  replace ht := hide ht
  clear h hT hz1 her
  obtain ⟨k0, k1, k2, -, -, -, -⟩ := K1.out.seven
  go_enter Tryz.func78, Tryz.ntmps78
  go_wp2_with fail
  refine P1.out.mono ?_
  rintro e w4 ⟨er', t2, k2', hg, -, -, hno, b4⟩
  rw [ht.out] at hg
  simp only [Prod.mk.injEq] at hg
  obtain ⟨rfl, rfl, rfl⟩ := hg
  obtain ⟨rfl, R4⟩ := hno hne2.out
  clear P1 k0 k1 k2 hno
  have E4 := hide ((E3.out.get b4 R4).alloc (.cells #[.int .i64 0, .int .i64 0, .int .i64 0] 60))
  have R5 := hide ((R1.out.but b4 (by have := hpw.out; omega)).alloc (.cells #[.int .i64 0, .int .i64 0, .int .i64 0] 60))
  have S4 := hide ((S1.out.but b4 (by have := hpw.out; omega)).alloc (.cells #[.int .i64 0, .int .i64 0, .int .i64 0] 60))
  clear E3 K1 R1 S1 R4 b4
  have FF := hide (get_end E4.out (g := w.heap.size + 1) (by omega) R5.out S4.out nR.out nS.out #[.int .i64 0, .int .i64 0, .int .i64 0, .int .i64 0, .int .u64 0, .int .i64 0, .int .i64 0] #[.int .i64 0, .int .u64 0])
  go_wp2_with (first
    | (refine wpList_storeZ rfl (.tmp 4) (.tmp 22) rfl (w.heap.size + 1) _ _ _ _ _ _ _ rfl rfl 63 _ _ _ _ _ _ _ R5.out ?_)
    | (refine wpList_storeP rfl (.tmp 5) (.tmp 23) rfl (w.heap.size + 1 + 1) _ _ rfl rfl 33 _ _ FF.out.2.1 ?_))
  obtain ⟨o0, o1, o2, o3, o4, o5, o6⟩ := FF.out.2.2.1.seven
  obtain ⟨u0, u1⟩ := FF.out.2.2.2.two
  refine bodyPost_ret (v := .tuple #[.agg #[.int .i64 0, .int .i64 0, .int .i64 0, .int .i64 0, .int .u64 0, .int .i64 0, .int .i64 0], .agg #[.int .i64 0, .int .u64 0], .int .i64 (er : Int)]) (by simp [results, Tryz.f78, go_sem, o0, o1, o2, o3, o4, o5, o6, u0, u1]) rfl ?_
  exact ⟨rfl, FF.out.1.but⟩
set_option maxHeartbeats 4000000 in
set_option maxRecDepth 100000 in
theorem cget_no2 {w : World} {base p m : Nat} {v : Value} {l : List Int} (h : Rd w base p v l m) (hT : Tabs w) (hb0 : 2 < base) {n L D U a b t' k : Nat} (hz1 : OkS n L D) (hz2 : OkSX n a b) (ht : gtm n L D (num l) l.length m = (0, t', k)) (hv : gX n U a b (num l) l.length (m + k) = none) :
    Calls Tryz.prog 78 #[.agg #[.int .i64 (n : Int), .int .i64 (L : Int), .int .i64 (D : Int), .int .i64 (n : Int), .int .u64 (U : Int), .int .i64 (a : Int), .int .i64 (b : Int)], .pointer (some ⟨p, 0, none⟩)] w fun e w' =>
      e = .returned (.tuple #[.agg z7, .agg #[.int .i64 0, .int .u64 0], .int .i64 50]) ∧ But (fun k => k = p) w w' := by
  unfold z7
  have E0 := GC.start h hT hb0
  have K1 := Bx.new w 63 #[.int .i64 (n : Int), .int .i64 (L : Int), .int .i64 (D : Int), .int .i64 (n : Int), .int .u64 (U : Int), .int .i64 (a : Int), .int .i64 (b : Int)]
  have E1 := E0.alloc (.cells #[.int .i64 (n : Int), .int .i64 (L : Int), .int .i64 (D : Int), .int .i64 (n : Int), .int .u64 (U : Int), .int .i64 (a : Int), .int .i64 (b : Int)] 63)
  have R1 := Bx.new_at (w := w.alloc (.cells #[.int .i64 (n : Int), .int .i64 (L : Int), .int .i64 (D : Int), .int .i64 (n : Int), .int .u64 (U : Int), .int .i64 (a : Int), .int .i64 (b : Int)] 63)) (g := w.heap.size + 1) (by simp) 63 #[.int .i64 0, .int .i64 0, .int .i64 0, .int .i64 0, .int .u64 0, .int .i64 0, .int .i64 0]
  have nR := hide (E1.not (g := w.heap.size + 1) (by simp))
  have E2 := E1.alloc (.cells #[.int .i64 0, .int .i64 0, .int .i64 0, .int .i64 0, .int .u64 0, .int .i64 0, .int .i64 0] 63)
  have nS := hide (E2.not (g := w.heap.size + 1 + 1) (by simp))
  have S1 := hide (Bx.new_at (w := (w.alloc (.cells #[.int .i64 (n : Int), .int .i64 (L : Int), .int .i64 (D : Int), .int .i64 (n : Int), .int .u64 (U : Int), .int .i64 (a : Int), .int .i64 (b : Int)] 63)).alloc (.cells #[.int .i64 0, .int .i64 0, .int .i64 0, .int .i64 0, .int .u64 0, .int .i64 0, .int .i64 0] 63)) (g := w.heap.size + 1 + 1) (by simp) 33 #[.int .i64 0, .int .u64 0])
  have E3 := hide (E2.alloc (.cells #[.int .i64 0, .int .u64 0] 33))
  replace K1 := hide ((K1.alloc (.cells #[.int .i64 0, .int .i64 0, .int .i64 0, .int .i64 0, .int .u64 0, .int .i64 0, .int .i64 0] 63)).alloc (.cells #[.int .i64 0, .int .u64 0] 33))
  replace R1 := hide (R1.alloc (.cells #[.int .i64 0, .int .u64 0] 33))
  clear E0 E1 E2
  have hpw := hide h.lt.2
  have P1 := hide (getS E3.out.rd E3.out.t.s (by omega) hz1)
  have P2 := hide (fun w h ht => getX_no (w := w) (base := base) (p := p) (m := m + k) (v := v) (l := l) h ht hb0 (L := U) hz2 hv)
  have hzz := zeroSts
  have hzs := zeroSmp
  replace hb0 := hide hb0
  replace ht := hide ht
  clear h hT hz1 hz2 hv
  obtain ⟨k0, k1, k2, -, -, -, -⟩ := K1.out.seven
  go_enter Tryz.func78, Tryz.ntmps78
  go_wp2_with fail
  refine P1.out.mono ?_
  rintro e w4 ⟨er, t2, k2', hg, -, hok, -, b4⟩
  rw [ht.out] at hg
  simp only [Prod.mk.injEq] at hg
  obtain ⟨rfl, rfl, rfl⟩ := hg
  obtain ⟨rfl, R4⟩ := hok rfl
  obtain ⟨n1, hn1⟩ : ∃ m, n + 1 = m := ⟨_, rfl⟩
  obtain ⟨q, hq⟩ : ∃ q, dl n L t' = q := ⟨_, rfl⟩
  rw [hn1, hq]
  clear P1 k0 k1 k2 hok
  have E4 := hide ((E3.out.get b4 R4).alloc (.cells #[.int .i64 (n1 : Int), .int .i64 (t' : Int), .int .i64 (q : Int)] 60))
  have K4 := hide ((K1.out.but b4 (by have := hpw.out; omega)).alloc (.cells #[.int .i64 (n1 : Int), .int .i64 (t' : Int), .int .i64 (q : Int)] 60))
  have R5 := hide ((R1.out.but b4 (by have := hpw.out; omega)).alloc (.cells #[.int .i64 (n1 : Int), .int .i64 (t' : Int), .int .i64 (q : Int)] 60))
  have S4 := hide ((S1.out.but b4 (by have := hpw.out; omega)).alloc (.cells #[.int .i64 (n1 : Int), .int .i64 (t' : Int), .int .i64 (q : Int)] 60))
  clear E3 K1 R1 S1 R4 b4
  obtain ⟨-, -, -, k3, k4, k5, k6⟩ := K4.out.seven
  replace hn1 := hide hn1
  replace hq := hide hq
  have hE := hide E4.out.rd
  go_wp2_with fail
  refine (P2.out _ E4.out.rd E4.out.t.x).mono ?_
  rintro e w6 ⟨rfl, D6⟩
  have b6 := but_did D6
  clear P2 k3 k4 k5 k6 K4
  have hbb := hide ((E4.out.but.trans b6 (fun _ _ h => h)).trans (but_below ((Below.refl _ w6).alloc (Nat.le_refl _) (.cells #[.int .i64 0, .int .u64 0, .int .i64 0, .int .i64 0] 61))) (fun _ _ h => h))
  have R7 := hide ((R5.out.but b6 (by have := hpw.out; omega)).alloc (.cells #[.int .i64 0, .int .u64 0, .int .i64 0, .int .i64 0] 61))
  have S7 := hide ((S4.out.but b6 (by have := hpw.out; omega)).alloc (.cells #[.int .i64 0, .int .u64 0, .int .i64 0, .int .i64 0] 61))
  clear E4 R5 S4 D6 b6 hE
  have FF := hide (get_endN hbb.out (g := w.heap.size + 1) (by omega) R7.out S7.out #[.int .i64 0, .int .i64 0, .int .i64 0, .int .i64 0, .int .u64 0, .int .i64 0, .int .i64 0] #[.int .i64 0, .int .u64 0])
  go_wp2_with (first
    | (refine wpList_storeZ rfl (.tmp 4) (.tmp 35) rfl (w.heap.size + 1) _ _ _ _ _ _ _ rfl rfl 63 _ _ _ _ _ _ _ R7.out ?_)
    | (refine wpList_storeP rfl (.tmp 5) (.tmp 36) rfl (w.heap.size + 1 + 1) _ _ rfl rfl 33 _ _ FF.out.2.1 ?_))
  obtain ⟨o0, o1, o2, o3, o4, o5, o6⟩ := FF.out.2.2.1.seven
  obtain ⟨u0, u1⟩ := FF.out.2.2.2.two
  refine bodyPost_ret (v := .tuple #[.agg #[.int .i64 0, .int .i64 0, .int .i64 0, .int .i64 0, .int .u64 0, .int .i64 0, .int .i64 0], .agg #[.int .i64 0, .int .u64 0], .int .i64 50]) (by simp [results, Tryz.f78, go_sem, o0, o1, o2, o3, o4, o5, o6, u0, u1]) rfl ?_
  exact ⟨rfl, FF.out.1⟩
/-- Bits that are read otherwise are refused. -/
theorem cget_no {w : World} {base p m : Nat} {v : Value} {l : List Int} (h : Rd w base p v l m) (hT : Tabs w) (hb0 : 2 < base) {z : Z} (hz : OkZ z) (hr : rd1 z (num l) l.length m = none) :
    Calls Tryz.prog 78 #[.agg (zA z), .pointer (some ⟨p, 0, none⟩)] w fun e w' =>
      (∃ er : Int, er ≠ 0 ∧ e = .returned (.tuple #[.agg z7, .agg #[.int .i64 0, .int .u64 0], .int .i64 er])) ∧ But (fun k => k = p) w w' := by
  rcases gtm_err z.n z.L z.D (num l) l.length m with h0 | h1 | h1
  · unfold rd1 at hr
    obtain ⟨er, t, k, hg⟩ : ∃ er t k, gtm z.n z.L z.D (num l) l.length m = (er, t, k) := ⟨_, _, _, rfl⟩
    rw [hg] at h0 hr
    simp only at h0
    subst h0
    simp only at hr
    split at hr
    · cases hr
    · rename_i hv
      refine (cget_no2 (U := z.U) h hT hb0 hz.s hz.x hg hv).mono ?_
      rintro e w' ⟨rfl, b⟩
      exact ⟨⟨50, by decide, rfl⟩, b⟩
  · refine (cget_no1 (U := z.U) (a := z.a) (b := z.b) h hT hb0 hz.s (.inl rfl) h1).mono ?_
    rintro e w' ⟨rfl, b⟩
    exact ⟨⟨50, by decide, rfl⟩, b⟩
  · refine (cget_no1 (U := z.U) (a := z.a) (b := z.b) h hT hb0 hz.s (.inr rfl) h1).mono ?_
    rintro e w' ⟨rfl, b⟩
    exact ⟨⟨60, by decide, rfl⟩, b⟩
end Go.Proofs.YtmjjedbdedemcaaGreatDoor
