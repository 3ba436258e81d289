/-
  Check, by the reference, of any instructions.
-/
import Derived.Test.YtkgegjnkkbgghaaDoorDR
namespace Go.Proofs.YtkgegjnkkbgghaaDoor
open Go.RowKit Go.Shelf Go.Lib
set_option linter.unusedVariables false
set_option linter.unusedSimpArgs false

section
variable {S : Nat → Prop} {w0 w w' : World} {L : List Ent} {ops : Array Oper} {rest : List Oper} {a : Act} {Q : Exit → Act → World → Prop} {dst : Option Nat} {x y : Operand} {ty : TypeId} {pos : String} {after : Array Edge}
theorem wl_allocI (H : St S w0 w L) (h : ∀ g w', St S w0 w' ((true, g, 45, insA ins0) :: L) → w0.heap.size ≤ g → w.heap.size ≤ g → wpList Tryd.prog ops Q rest (a.put dst (.pointer (some ⟨g, 0, none⟩))) w') : wpList Tryd.prog ops Q (⟨dst, .alloc 45, ty, pos, after, none⟩ :: rest) a w :=
  wl_alloc 45 _ H (fun w => run_allocI _ _ _ _ _ w) h
theorem wl_storeI (i : Nat) (H : St S w0 w L) {g : Nat} {p q : Ins} (h : L[i]? = some (true, g, 45, insA p)) (hx : a.eval x = .pointer (some ⟨g, 0, none⟩)) (hy : a.eval y = insV q)
    (k : ∀ w', St S w0 w' (L.set i (true, g, 45, insA q)) → wpList Tryd.prog ops Q rest a w') : wpList Tryd.prog ops Q (⟨none, .store 45 x y, ty, pos, after, none⟩ :: rest) a w :=
  wl_store i 45 H h hx hy sizeI rfl (insA_all q) k
end
theorem chk_bad {L : List Ins} {k : Nat} {i : Ins} (h : L[k]? = some i) (hf : fitI i L.length = false) : chkI L = 110 := by
  unfold chkI
  split
  · rfl
  · rw [if_neg]
    intro ha
    rw [List.all_eq_true] at ha
    rw [ha i (List.mem_of_getElem? h)] at hf
    cases hf
theorem chk_good {L : List Ins} (h1 : 1 ≤ L.length) (h2 : L.length ≤ 2048) (h : ∀ k i, k < L.length → L[k]? = some i → fitI i L.length = true) : chkI L = 0 := by
  unfold chkI
  rw [if_neg (by omega), if_pos]
  rw [List.all_eq_true]
  intro i hi
  obtain ⟨k, hk⟩ := List.getElem?_of_mem hi
  exact h k i (List.getElem?_eq_some_iff.1 hk).1 hk
theorem fit_no {i : Ins} {n : Nat} (h : i.op < 1 ∨ 4 < i.op) : fitI i n = false := by
  unfold fitI
  have h1 : (i.op == 1) = false := by simp; omega
  have h2 : (i.op == 2) = false := by simp; omega
  have h3 : (i.op == 3) = false := by simp; omega
  have h4 : (i.op == 4) = false := by simp; omega
  rw [h1, h2, h3, h4]
  rfl
theorem fit1 (s : S4) (x y : Int) (n : Nat) : fitI ⟨1, s, x, y⟩ n = (inB x (n : Int) && inB y 1) := by simp [fitI, fm, bnd]
theorem fit2 (s : S4) (x y : Int) (n : Nat) : fitI ⟨2, s, x, y⟩ n = (eqS s noSet && (inB x (n : Int) && inB y (n : Int))) := by simp [fitI, fm, bnd]
theorem fit3 (s : S4) (x y : Int) (n : Nat) : fitI ⟨3, s, x, y⟩ n = (eqS s noSet && (inB x 1 && inB y 1)) := by simp [fitI, fm, bnd]
theorem fit4 (s : S4) (x y : Int) (n : Nat) : fitI ⟨4, s, x, y⟩ n = (eqS s noSet && (inB x (n : Int) && inB y 1)) := by simp [fitI, fm, bnd]
theorem inB1 {z : Int} (h : ¬ z = 0) : inB z 1 = false := by simp [inB]; omega
set_option maxHeartbeats 4000000 in
set_option maxRecDepth 100000 in
theorem rchk_any (ad : Option Addr) (c : Nat) (L : List Ins) (w : World) (hL : HsI w (fun k => k < w.heap.size) ad L) (hm : L.length ≤ maxLen) : Calls Tryd.prog 18 #[.slice ad L.length c] w fun e w' => e = .returned (.int .i64 (chkI L)) ∧ Below w.heap.size w w' := by
  unfold maxLen at hm
  rcases Nat.eq_zero_or_pos L.length with h0 | hpos
  · have e : chkI L = 110 := by unfold chkI; rw [if_pos (.inl h0)]
    rw [e, h0]
    go_enter Tryd.func18, Tryd.ntmps18
    go_wp2
    go_ret
    exact ⟨rfl, Below.refl _ _⟩
  by_cases hbig : 2048 < L.length
  · have e : chkI L = 110 := by unfold chkI; rw [if_pos (.inr hbig)]
    rw [e]
    have i1 : (2048 : Int) < (L.length : Int) := by omega
    have i2 : ((L.length : Int) == 0) = false := beq_eq_false_iff_ne.2 (by omega)
    have i3 : ¬ ((L.length : Int) = 0) := by omega
    have i4 : ¬ (L.length = 0) := by omega
    go_enter Tryd.func18, Tryd.ntmps18
    go_wp2_with fail
    go_ret
    exact ⟨rfl, Below.refl _ _⟩
  have i1 : ¬ ((2048 : Int) < (L.length : Int)) := by omega
  have i2 : ((L.length : Int) == 0) = false := beq_eq_false_iff_ne.2 (by omega)
  have i3 : ¬ ((L.length : Int) = 0) := by omega
  have i4 : ¬ (L.length = 0) := by omega
  obtain ⟨E, hE⟩ : ∃ E, E = chkI L := ⟨_, rfl⟩
  rw [← hE]
  replace hE := hide hE
  replace hL := hide hL
  have kg := guard24
  go_enter Tryd.func18, Tryd.ntmps18
  go_wp2_with fail
  go_loopw [3] (fun b wr => ∃ k : Nat, k ≤ L.length ∧ b = .int .i64 (k : Int) ∧ Hid (∀ j i, j < k → L[j]? = some i → fitI i L.length = true) ∧ Hid (Below w.heap.size w wr)) (fun b _ => L.length - (RowKit.intOf b).toNat)
  case atStart => exact ⟨0, Nat.zero_le _, rfl, (fun j i h => by omega), Below.refl _ _⟩
  case round =>
    obtain ⟨k, hk, rfl, hfit, Fr⟩ := hrel
    by_cases hlt : k < L.length
    · have i5 : (k : Int) < (L.length : Int) := Int.ofNat_lt.2 hlt
      obtain ⟨i, hi⟩ : ∃ i, L[k]? = some i := ⟨_, List.getElem?_eq_getElem hlt⟩
      obtain ⟨b, off, rfl, hld⟩ := hL.out.load (fun k hk hl => Fr.out.block k hk) hi
      have hrel : Hid (fitI i L.length = true → ∃ k' : Nat, k' ≤ L.length ∧ k' = k + 1 ∧ ∀ j i, j < k' → L[j]? = some i → fitI i L.length = true) := fun hf => ⟨k + 1, hlt, rfl, fun j i' hj hji => by
        rcases Nat.lt_or_ge j k with h | h
        · exact hfit.out j i' h hji
        · obtain rfl : j = k := by omega
          rw [hi] at hji
          cases hji
          exact hf⟩
      have hbad : Hid (fitI i L.length = false → E = 110) := fun hf => by rw [hE.out]; exact chk_bad hi hf
      have H := St.start Nope wr
      have hltH := hide hlt
      replace hi := hide hi
      clear hfit hlt hk
      obtain ⟨op, s, x, y⟩ := i
      have kn : ∀ v, eqS s noSet = v → ∀ w, (binOp .neq 24 (.agg #[.int .u64 s.a, .int .u64 s.b, .int .u64 s.c, .int .u64 s.d]) (.agg #[.int .u64 0, .int .u64 0, .int .u64 0, .int .u64 0])).run Tryd.prog w = .ok (.bool !v) w := fun v hv w => by have := run_neq24 s noSet w; rw [hv] at this; exact this
      replace kn := hide kn
      by_cases o1 : op < 1
      · have o1b : decide (op < 1) = true := by simpa using o1
        have hE2 := hbad.out (fit_no (.inl o1))
        replace hE2 := hE2.symm
        subst hE2
        clear hrel hbad
        go_wp2_with (first | ((with_reducible refine at_load 45 ?_); refine wl_loadA 45 rfl hld ?_) | ((with_reducible refine at_alloc 45 ?_); refine wl_allocI H ?_; clear H; intro g w1 H q1 q2) | ((with_reducible refine at_store 45 ?_); refine wl_storeI 0 (q := ⟨op, s, x, y⟩) H rfl rfl rfl ?_; clear H; intro w2 H; have c0 := H.cell 0 0 rfl (v := .int .i64 op) rfl; have c1 := H.cell 0 1 rfl (v := .int .u64 s.a) rfl; have c2 := H.cell 0 2 rfl (v := .int .u64 s.b) rfl; have c3 := H.cell 0 3 rfl (v := .int .u64 s.c) rfl; have c4 := H.cell 0 4 rfl (v := .int .u64 s.d) rfl; have c5 := H.cell 0 5 rfl (v := .int .i64 x) rfl; have c6 := H.cell 0 6 rfl (v := .int .i64 y) rfl))
        go_ret
        exact ⟨rfl, Fr.out.trans (H.below.mono Fr.out.size)⟩
      by_cases o2 : 4 < op
      · have o2b : decide (4 < op) = true := by simpa using o2
        have o2c : decide (op < 1) = false := by simpa using o1
        have hE2 := hbad.out (fit_no (.inr o2))
        replace hE2 := hE2.symm
        subst hE2
        clear hrel hbad
        go_wp2_with (first | ((with_reducible refine at_load 45 ?_); refine wl_loadA 45 rfl hld ?_) | ((with_reducible refine at_alloc 45 ?_); refine wl_allocI H ?_; clear H; intro g w1 H q1 q2) | ((with_reducible refine at_store 45 ?_); refine wl_storeI 0 (q := ⟨op, s, x, y⟩) H rfl rfl rfl ?_; clear H; intro w2 H; have c0 := H.cell 0 0 rfl (v := .int .i64 op) rfl; have c1 := H.cell 0 1 rfl (v := .int .u64 s.a) rfl; have c2 := H.cell 0 2 rfl (v := .int .u64 s.b) rfl; have c3 := H.cell 0 3 rfl (v := .int .u64 s.c) rfl; have c4 := H.cell 0 4 rfl (v := .int .u64 s.d) rfl; have c5 := H.cell 0 5 rfl (v := .int .i64 x) rfl; have c6 := H.cell 0 6 rfl (v := .int .i64 y) rfl))
        go_ret
        exact ⟨rfl, Fr.out.trans (H.below.mono Fr.out.size)⟩
      rcases (show op = 1 ∨ op = 2 ∨ op = 3 ∨ op = 4 by omega) with rfl | rfl | rfl | rfl
      · by_cases y0 : y = 0
        case neg =>
          have y0b : (y == 0) = false := by simpa using y0
          have hE2 := hbad.out (by rw [fit1, inB1 y0]; simp)
          replace hE2 := hE2.symm
          subst hE2
          clear hrel hbad
          go_wp2_with (first | ((with_reducible refine at_load 45 ?_); refine wl_loadA 45 rfl hld ?_) | ((with_reducible refine at_alloc 45 ?_); refine wl_allocI H ?_; clear H; intro g w1 H q1 q2) | ((with_reducible refine at_store 45 ?_); refine wl_storeI 0 (q := ⟨1, s, x, y⟩) H rfl rfl rfl ?_; clear H; intro w2 H; have c0 := H.cell 0 0 rfl (v := .int .i64 1) rfl; have c1 := H.cell 0 1 rfl (v := .int .u64 s.a) rfl; have c2 := H.cell 0 2 rfl (v := .int .u64 s.b) rfl; have c3 := H.cell 0 3 rfl (v := .int .u64 s.c) rfl; have c4 := H.cell 0 4 rfl (v := .int .u64 s.d) rfl; have c5 := H.cell 0 5 rfl (v := .int .i64 x) rfl; have c6 := H.cell 0 6 rfl (v := .int .i64 y) rfl))
          go_ret
          exact ⟨rfl, Fr.out.trans (H.below.mono Fr.out.size)⟩
        subst y0
        by_cases x1 : x < 0
        case pos =>
          have x1b : decide (x < 0) = true := by simpa using x1
          have hE2 := hbad.out (by rw [fit1, inB_neg x1]; simp)
          replace hE2 := hE2.symm
          subst hE2
          clear hrel hbad
          go_wp2_with (first | ((with_reducible refine at_load 45 ?_); refine wl_loadA 45 rfl hld ?_) | ((with_reducible refine at_alloc 45 ?_); refine wl_allocI H ?_; clear H; intro g w1 H q1 q2) | ((with_reducible refine at_store 45 ?_); refine wl_storeI 0 (q := ⟨1, s, x, 0⟩) H rfl rfl rfl ?_; clear H; intro w2 H; have c0 := H.cell 0 0 rfl (v := .int .i64 1) rfl; have c1 := H.cell 0 1 rfl (v := .int .u64 s.a) rfl; have c2 := H.cell 0 2 rfl (v := .int .u64 s.b) rfl; have c3 := H.cell 0 3 rfl (v := .int .u64 s.c) rfl; have c4 := H.cell 0 4 rfl (v := .int .u64 s.d) rfl; have c5 := H.cell 0 5 rfl (v := .int .i64 x) rfl; have c6 := H.cell 0 6 rfl (v := .int .i64 0) rfl))
          go_ret
          exact ⟨rfl, Fr.out.trans (H.below.mono Fr.out.size)⟩
        have x1b : decide (x < 0) = false := by simpa using x1
        by_cases x2 : x < (L.length : Int)
        case neg =>
          have x2a : (L.length : Int) ≤ x := by omega
          have x2b : decide ((L.length : Int) ≤ x) = true := by simpa using x2a
          have hE2 := hbad.out (by rw [fit1, inB_ge x2]; simp)
          replace hE2 := hE2.symm
          subst hE2
          clear hrel hbad
          go_wp2_with (first | ((with_reducible refine at_load 45 ?_); refine wl_loadA 45 rfl hld ?_) | ((with_reducible refine at_alloc 45 ?_); refine wl_allocI H ?_; clear H; intro g w1 H q1 q2) | ((with_reducible refine at_store 45 ?_); refine wl_storeI 0 (q := ⟨1, s, x, 0⟩) H rfl rfl rfl ?_; clear H; intro w2 H; have c0 := H.cell 0 0 rfl (v := .int .i64 1) rfl; have c1 := H.cell 0 1 rfl (v := .int .u64 s.a) rfl; have c2 := H.cell 0 2 rfl (v := .int .u64 s.b) rfl; have c3 := H.cell 0 3 rfl (v := .int .u64 s.c) rfl; have c4 := H.cell 0 4 rfl (v := .int .u64 s.d) rfl; have c5 := H.cell 0 5 rfl (v := .int .i64 x) rfl; have c6 := H.cell 0 6 rfl (v := .int .i64 0) rfl))
          go_ret
          exact ⟨rfl, Fr.out.trans (H.below.mono Fr.out.size)⟩
        have x2a : ¬ ((L.length : Int) ≤ x) := by omega
        have x2b : decide ((L.length : Int) ≤ x) = false := by simpa using x2
        have z1 : ¬ ((L.length : Int) ≤ 0) := by omega
        have z2 : decide ((L.length : Int) ≤ 0) = false := by simpa using z1
        have hE2 := hrel.out (by rw [fit1, inB_ok x1 x2]; rfl)
        replace hE2 := hide hE2
        clear hrel hbad
        go_wp2_with (first | ((with_reducible refine at_load 45 ?_); refine wl_loadA 45 rfl hld ?_) | ((with_reducible refine at_alloc 45 ?_); refine wl_allocI H ?_; clear H; intro g w1 H q1 q2) | ((with_reducible refine at_store 45 ?_); refine wl_storeI 0 (q := ⟨1, s, x, 0⟩) H rfl rfl rfl ?_; clear H; intro w2 H; have c0 := H.cell 0 0 rfl (v := .int .i64 1) rfl; have c1 := H.cell 0 1 rfl (v := .int .u64 s.a) rfl; have c2 := H.cell 0 2 rfl (v := .int .u64 s.b) rfl; have c3 := H.cell 0 3 rfl (v := .int .u64 s.c) rfl; have c4 := H.cell 0 4 rfl (v := .int .u64 s.d) rfl; have c5 := H.cell 0 5 rfl (v := .int .i64 x) rfl; have c6 := H.cell 0 6 rfl (v := .int .i64 0) rfl))
        go_roundw
        case rel => obtain ⟨k', h1, h2, h3⟩ := hE2.out; exact ⟨k', h1, (by rw [h2]; go_num), h3, Fr.out.trans (H.below.mono Fr.out.size)⟩
        case measure => have := hltH.out; simp [RowKit.intOf]; omega
      · cases hset : eqS s noSet with
        | false =>
          have kn2 := kn.out false hset
          have hE2 := hbad.out (by rw [fit2, hset]; rfl)
          replace hE2 := hE2.symm
          subst hE2
          clear hrel hbad
          go_wp2_with (first | ((with_reducible refine at_load 45 ?_); refine wl_loadA 45 rfl hld ?_) | ((with_reducible refine at_alloc 45 ?_); refine wl_allocI H ?_; clear H; intro g w1 H q1 q2) | ((with_reducible refine at_store 45 ?_); refine wl_storeI 0 (q := ⟨2, s, x, y⟩) H rfl rfl rfl ?_; clear H; intro w2 H; have c0 := H.cell 0 0 rfl (v := .int .i64 2) rfl; have c1 := H.cell 0 1 rfl (v := .int .u64 s.a) rfl; have c2 := H.cell 0 2 rfl (v := .int .u64 s.b) rfl; have c3 := H.cell 0 3 rfl (v := .int .u64 s.c) rfl; have c4 := H.cell 0 4 rfl (v := .int .u64 s.d) rfl; have c5 := H.cell 0 5 rfl (v := .int .i64 x) rfl; have c6 := H.cell 0 6 rfl (v := .int .i64 y) rfl))
          go_ret
          exact ⟨rfl, Fr.out.trans (H.below.mono Fr.out.size)⟩
        | true =>
          have kn2 := kn.out true hset
          by_cases x1 : x < 0
          case pos =>
            have x1b : decide (x < 0) = true := by simpa using x1
            have hE2 := hbad.out (by rw [fit2, inB_neg x1]; simp)
            replace hE2 := hE2.symm
            subst hE2
            clear hrel hbad
            go_wp2_with (first | ((with_reducible refine at_load 45 ?_); refine wl_loadA 45 rfl hld ?_) | ((with_reducible refine at_alloc 45 ?_); refine wl_allocI H ?_; clear H; intro g w1 H q1 q2) | ((with_reducible refine at_store 45 ?_); refine wl_storeI 0 (q := ⟨2, s, x, y⟩) H rfl rfl rfl ?_; clear H; intro w2 H; have c0 := H.cell 0 0 rfl (v := .int .i64 2) rfl; have c1 := H.cell 0 1 rfl (v := .int .u64 s.a) rfl; have c2 := H.cell 0 2 rfl (v := .int .u64 s.b) rfl; have c3 := H.cell 0 3 rfl (v := .int .u64 s.c) rfl; have c4 := H.cell 0 4 rfl (v := .int .u64 s.d) rfl; have c5 := H.cell 0 5 rfl (v := .int .i64 x) rfl; have c6 := H.cell 0 6 rfl (v := .int .i64 y) rfl))
            go_ret
            exact ⟨rfl, Fr.out.trans (H.below.mono Fr.out.size)⟩
          have x1b : decide (x < 0) = false := by simpa using x1
          by_cases x2 : x < (L.length : Int)
          case neg =>
            have x2a : (L.length : Int) ≤ x := by omega
            have x2b : decide ((L.length : Int) ≤ x) = true := by simpa using x2a
            have hE2 := hbad.out (by rw [fit2, inB_ge x2]; simp)
            replace hE2 := hE2.symm
            subst hE2
            clear hrel hbad
            go_wp2_with (first | ((with_reducible refine at_load 45 ?_); refine wl_loadA 45 rfl hld ?_) | ((with_reducible refine at_alloc 45 ?_); refine wl_allocI H ?_; clear H; intro g w1 H q1 q2) | ((with_reducible refine at_store 45 ?_); refine wl_storeI 0 (q := ⟨2, s, x, y⟩) H rfl rfl rfl ?_; clear H; intro w2 H; have c0 := H.cell 0 0 rfl (v := .int .i64 2) rfl; have c1 := H.cell 0 1 rfl (v := .int .u64 s.a) rfl; have c2 := H.cell 0 2 rfl (v := .int .u64 s.b) rfl; have c3 := H.cell 0 3 rfl (v := .int .u64 s.c) rfl; have c4 := H.cell 0 4 rfl (v := .int .u64 s.d) rfl; have c5 := H.cell 0 5 rfl (v := .int .i64 x) rfl; have c6 := H.cell 0 6 rfl (v := .int .i64 y) rfl))
            go_ret
            exact ⟨rfl, Fr.out.trans (H.below.mono Fr.out.size)⟩
          have x2a : ¬ ((L.length : Int) ≤ x) := by omega
          have x2b : decide ((L.length : Int) ≤ x) = false := by simpa using x2
          by_cases y1 : y < 0
          case pos =>
            have y1b : decide (y < 0) = true := by simpa using y1
            have hE2 := hbad.out (by rw [fit2, inB_neg y1]; simp)
            replace hE2 := hE2.symm
            subst hE2
            clear hrel hbad
            go_wp2_with (first | ((with_reducible refine at_load 45 ?_); refine wl_loadA 45 rfl hld ?_) | ((with_reducible refine at_alloc 45 ?_); refine wl_allocI H ?_; clear H; intro g w1 H q1 q2) | ((with_reducible refine at_store 45 ?_); refine wl_storeI 0 (q := ⟨2, s, x, y⟩) H rfl rfl rfl ?_; clear H; intro w2 H; have c0 := H.cell 0 0 rfl (v := .int .i64 2) rfl; have c1 := H.cell 0 1 rfl (v := .int .u64 s.a) rfl; have c2 := H.cell 0 2 rfl (v := .int .u64 s.b) rfl; have c3 := H.cell 0 3 rfl (v := .int .u64 s.c) rfl; have c4 := H.cell 0 4 rfl (v := .int .u64 s.d) rfl; have c5 := H.cell 0 5 rfl (v := .int .i64 x) rfl; have c6 := H.cell 0 6 rfl (v := .int .i64 y) rfl))
            go_ret
            exact ⟨rfl, Fr.out.trans (H.below.mono Fr.out.size)⟩
          have y1b : decide (y < 0) = false := by simpa using y1
          by_cases y2 : y < (L.length : Int)
          case neg =>
            have y2a : (L.length : Int) ≤ y := by omega
            have y2b : decide ((L.length : Int) ≤ y) = true := by simpa using y2a
            have hE2 := hbad.out (by rw [fit2, inB_ge y2]; simp)
            replace hE2 := hE2.symm
            subst hE2
            clear hrel hbad
            go_wp2_with (first | ((with_reducible refine at_load 45 ?_); refine wl_loadA 45 rfl hld ?_) | ((with_reducible refine at_alloc 45 ?_); refine wl_allocI H ?_; clear H; intro g w1 H q1 q2) | ((with_reducible refine at_store 45 ?_); refine wl_storeI 0 (q := ⟨2, s, x, y⟩) H rfl rfl rfl ?_; clear H; intro w2 H; have c0 := H.cell 0 0 rfl (v := .int .i64 2) rfl; have c1 := H.cell 0 1 rfl (v := .int .u64 s.a) rfl; have c2 := H.cell 0 2 rfl (v := .int .u64 s.b) rfl; have c3 := H.cell 0 3 rfl (v := .int .u64 s.c) rfl; have c4 := H.cell 0 4 rfl (v := .int .u64 s.d) rfl; have c5 := H.cell 0 5 rfl (v := .int .i64 x) rfl; have c6 := H.cell 0 6 rfl (v := .int .i64 y) rfl))
            go_ret
            exact ⟨rfl, Fr.out.trans (H.below.mono Fr.out.size)⟩
          have y2a : ¬ ((L.length : Int) ≤ y) := by omega
          have y2b : decide ((L.length : Int) ≤ y) = false := by simpa using y2
          have hE2 := hrel.out (by rw [fit2, hset, inB_ok x1 x2, inB_ok y1 y2]; rfl)
          replace hE2 := hide hE2
          clear hrel hbad
          go_wp2_with (first | ((with_reducible refine at_load 45 ?_); refine wl_loadA 45 rfl hld ?_) | ((with_reducible refine at_alloc 45 ?_); refine wl_allocI H ?_; clear H; intro g w1 H q1 q2) | ((with_reducible refine at_store 45 ?_); refine wl_storeI 0 (q := ⟨2, s, x, y⟩) H rfl rfl rfl ?_; clear H; intro w2 H; have c0 := H.cell 0 0 rfl (v := .int .i64 2) rfl; have c1 := H.cell 0 1 rfl (v := .int .u64 s.a) rfl; have c2 := H.cell 0 2 rfl (v := .int .u64 s.b) rfl; have c3 := H.cell 0 3 rfl (v := .int .u64 s.c) rfl; have c4 := H.cell 0 4 rfl (v := .int .u64 s.d) rfl; have c5 := H.cell 0 5 rfl (v := .int .i64 x) rfl; have c6 := H.cell 0 6 rfl (v := .int .i64 y) rfl))
          go_roundw
          case rel => obtain ⟨k', h1, h2, h3⟩ := hE2.out; exact ⟨k', h1, (by rw [h2]; go_num), h3, Fr.out.trans (H.below.mono Fr.out.size)⟩
          case measure => have := hltH.out; simp [RowKit.intOf]; omega
      · cases hset : eqS s noSet with
        | false =>
          have kn2 := kn.out false hset
          have hE2 := hbad.out (by rw [fit3, hset]; rfl)
          replace hE2 := hE2.symm
          subst hE2
          clear hrel hbad
          go_wp2_with (first | ((with_reducible refine at_load 45 ?_); refine wl_loadA 45 rfl hld ?_) | ((with_reducible refine at_alloc 45 ?_); refine wl_allocI H ?_; clear H; intro g w1 H q1 q2) | ((with_reducible refine at_store 45 ?_); refine wl_storeI 0 (q := ⟨3, s, x, y⟩) H rfl rfl rfl ?_; clear H; intro w2 H; have c0 := H.cell 0 0 rfl (v := .int .i64 3) rfl; have c1 := H.cell 0 1 rfl (v := .int .u64 s.a) rfl; have c2 := H.cell 0 2 rfl (v := .int .u64 s.b) rfl; have c3 := H.cell 0 3 rfl (v := .int .u64 s.c) rfl; have c4 := H.cell 0 4 rfl (v := .int .u64 s.d) rfl; have c5 := H.cell 0 5 rfl (v := .int .i64 x) rfl; have c6 := H.cell 0 6 rfl (v := .int .i64 y) rfl))
          go_ret
          exact ⟨rfl, Fr.out.trans (H.below.mono Fr.out.size)⟩
        | true =>
          have kn2 := kn.out true hset
          by_cases x0 : x = 0
          case neg =>
            have x0b : (x == 0) = false := by simpa using x0
            have hE2 := hbad.out (by rw [fit3, inB1 x0]; simp)
            replace hE2 := hE2.symm
            subst hE2
            clear hrel hbad
            go_wp2_with (first | ((with_reducible refine at_load 45 ?_); refine wl_loadA 45 rfl hld ?_) | ((with_reducible refine at_alloc 45 ?_); refine wl_allocI H ?_; clear H; intro g w1 H q1 q2) | ((with_reducible refine at_store 45 ?_); refine wl_storeI 0 (q := ⟨3, s, x, y⟩) H rfl rfl rfl ?_; clear H; intro w2 H; have c0 := H.cell 0 0 rfl (v := .int .i64 3) rfl; have c1 := H.cell 0 1 rfl (v := .int .u64 s.a) rfl; have c2 := H.cell 0 2 rfl (v := .int .u64 s.b) rfl; have c3 := H.cell 0 3 rfl (v := .int .u64 s.c) rfl; have c4 := H.cell 0 4 rfl (v := .int .u64 s.d) rfl; have c5 := H.cell 0 5 rfl (v := .int .i64 x) rfl; have c6 := H.cell 0 6 rfl (v := .int .i64 y) rfl))
            go_ret
            exact ⟨rfl, Fr.out.trans (H.below.mono Fr.out.size)⟩
          subst x0
          by_cases y0 : y = 0
          case neg =>
            have y0b : (y == 0) = false := by simpa using y0
            have hE2 := hbad.out (by rw [fit3, inB1 y0]; simp)
            replace hE2 := hE2.symm
            subst hE2
            clear hrel hbad
            go_wp2_with (first | ((with_reducible refine at_load 45 ?_); refine wl_loadA 45 rfl hld ?_) | ((with_reducible refine at_alloc 45 ?_); refine wl_allocI H ?_; clear H; intro g w1 H q1 q2) | ((with_reducible refine at_store 45 ?_); refine wl_storeI 0 (q := ⟨3, s, 0, y⟩) H rfl rfl rfl ?_; clear H; intro w2 H; have c0 := H.cell 0 0 rfl (v := .int .i64 3) rfl; have c1 := H.cell 0 1 rfl (v := .int .u64 s.a) rfl; have c2 := H.cell 0 2 rfl (v := .int .u64 s.b) rfl; have c3 := H.cell 0 3 rfl (v := .int .u64 s.c) rfl; have c4 := H.cell 0 4 rfl (v := .int .u64 s.d) rfl; have c5 := H.cell 0 5 rfl (v := .int .i64 0) rfl; have c6 := H.cell 0 6 rfl (v := .int .i64 y) rfl))
            go_ret
            exact ⟨rfl, Fr.out.trans (H.below.mono Fr.out.size)⟩
          subst y0
          have z1 : ¬ ((L.length : Int) ≤ 0) := by omega
          have z2 : decide ((L.length : Int) ≤ 0) = false := by simpa using z1
          have hE2 := hrel.out (by rw [fit3, hset]; rfl)
          replace hE2 := hide hE2
          clear hrel hbad
          go_wp2_with (first | ((with_reducible refine at_load 45 ?_); refine wl_loadA 45 rfl hld ?_) | ((with_reducible refine at_alloc 45 ?_); refine wl_allocI H ?_; clear H; intro g w1 H q1 q2) | ((with_reducible refine at_store 45 ?_); refine wl_storeI 0 (q := ⟨3, s, 0, 0⟩) H rfl rfl rfl ?_; clear H; intro w2 H; have c0 := H.cell 0 0 rfl (v := .int .i64 3) rfl; have c1 := H.cell 0 1 rfl (v := .int .u64 s.a) rfl; have c2 := H.cell 0 2 rfl (v := .int .u64 s.b) rfl; have c3 := H.cell 0 3 rfl (v := .int .u64 s.c) rfl; have c4 := H.cell 0 4 rfl (v := .int .u64 s.d) rfl; have c5 := H.cell 0 5 rfl (v := .int .i64 0) rfl; have c6 := H.cell 0 6 rfl (v := .int .i64 0) rfl))
          go_roundw
          case rel => obtain ⟨k', h1, h2, h3⟩ := hE2.out; exact ⟨k', h1, (by rw [h2]; go_num), h3, Fr.out.trans (H.below.mono Fr.out.size)⟩
          case measure => have := hltH.out; simp [RowKit.intOf]; omega
      · cases hset : eqS s noSet with
        | false =>
          have kn2 := kn.out false hset
          have hE2 := hbad.out (by rw [fit4, hset]; rfl)
          replace hE2 := hE2.symm
          subst hE2
          clear hrel hbad
          go_wp2_with (first | ((with_reducible refine at_load 45 ?_); refine wl_loadA 45 rfl hld ?_) | ((with_reducible refine at_alloc 45 ?_); refine wl_allocI H ?_; clear H; intro g w1 H q1 q2) | ((with_reducible refine at_store 45 ?_); refine wl_storeI 0 (q := ⟨4, s, x, y⟩) H rfl rfl rfl ?_; clear H; intro w2 H; have c0 := H.cell 0 0 rfl (v := .int .i64 4) rfl; have c1 := H.cell 0 1 rfl (v := .int .u64 s.a) rfl; have c2 := H.cell 0 2 rfl (v := .int .u64 s.b) rfl; have c3 := H.cell 0 3 rfl (v := .int .u64 s.c) rfl; have c4 := H.cell 0 4 rfl (v := .int .u64 s.d) rfl; have c5 := H.cell 0 5 rfl (v := .int .i64 x) rfl; have c6 := H.cell 0 6 rfl (v := .int .i64 y) rfl))
          go_ret
          exact ⟨rfl, Fr.out.trans (H.below.mono Fr.out.size)⟩
        | true =>
          have kn2 := kn.out true hset
          by_cases y0 : y = 0
          case neg =>
            have y0b : (y == 0) = false := by simpa using y0
            have hE2 := hbad.out (by rw [fit4, inB1 y0]; simp)
            replace hE2 := hE2.symm
            subst hE2
            clear hrel hbad
            go_wp2_with (first | ((with_reducible refine at_load 45 ?_); refine wl_loadA 45 rfl hld ?_) | ((with_reducible refine at_alloc 45 ?_); refine wl_allocI H ?_; clear H; intro g w1 H q1 q2) | ((with_reducible refine at_store 45 ?_); refine wl_storeI 0 (q := ⟨4, s, x, y⟩) H rfl rfl rfl ?_; clear H; intro w2 H; have c0 := H.cell 0 0 rfl (v := .int .i64 4) rfl; have c1 := H.cell 0 1 rfl (v := .int .u64 s.a) rfl; have c2 := H.cell 0 2 rfl (v := .int .u64 s.b) rfl; have c3 := H.cell 0 3 rfl (v := .int .u64 s.c) rfl; have c4 := H.cell 0 4 rfl (v := .int .u64 s.d) rfl; have c5 := H.cell 0 5 rfl (v := .int .i64 x) rfl; have c6 := H.cell 0 6 rfl (v := .int .i64 y) rfl))
            go_ret
            exact ⟨rfl, Fr.out.trans (H.below.mono Fr.out.size)⟩
          subst y0
          by_cases x1 : x < 0
          case pos =>
            have x1b : decide (x < 0) = true := by simpa using x1
            have hE2 := hbad.out (by rw [fit4, inB_neg x1]; simp)
            replace hE2 := hE2.symm
            subst hE2
            clear hrel hbad
            go_wp2_with (first | ((with_reducible refine at_load 45 ?_); refine wl_loadA 45 rfl hld ?_) | ((with_reducible refine at_alloc 45 ?_); refine wl_allocI H ?_; clear H; intro g w1 H q1 q2) | ((with_reducible refine at_store 45 ?_); refine wl_storeI 0 (q := ⟨4, s, x, 0⟩) H rfl rfl rfl ?_; clear H; intro w2 H; have c0 := H.cell 0 0 rfl (v := .int .i64 4) rfl; have c1 := H.cell 0 1 rfl (v := .int .u64 s.a) rfl; have c2 := H.cell 0 2 rfl (v := .int .u64 s.b) rfl; have c3 := H.cell 0 3 rfl (v := .int .u64 s.c) rfl; have c4 := H.cell 0 4 rfl (v := .int .u64 s.d) rfl; have c5 := H.cell 0 5 rfl (v := .int .i64 x) rfl; have c6 := H.cell 0 6 rfl (v := .int .i64 0) rfl))
            go_ret
            exact ⟨rfl, Fr.out.trans (H.below.mono Fr.out.size)⟩
          have x1b : decide (x < 0) = false := by simpa using x1
          by_cases x2 : x < (L.length : Int)
          case neg =>
            have x2a : (L.length : Int) ≤ x := by omega
            have x2b : decide ((L.length : Int) ≤ x) = true := by simpa using x2a
            have hE2 := hbad.out (by rw [fit4, inB_ge x2]; simp)
            replace hE2 := hE2.symm
            subst hE2
            clear hrel hbad
            go_wp2_with (first | ((with_reducible refine at_load 45 ?_); refine wl_loadA 45 rfl hld ?_) | ((with_reducible refine at_alloc 45 ?_); refine wl_allocI H ?_; clear H; intro g w1 H q1 q2) | ((with_reducible refine at_store 45 ?_); refine wl_storeI 0 (q := ⟨4, s, x, 0⟩) H rfl rfl rfl ?_; clear H; intro w2 H; have c0 := H.cell 0 0 rfl (v := .int .i64 4) rfl; have c1 := H.cell 0 1 rfl (v := .int .u64 s.a) rfl; have c2 := H.cell 0 2 rfl (v := .int .u64 s.b) rfl; have c3 := H.cell 0 3 rfl (v := .int .u64 s.c) rfl; have c4 := H.cell 0 4 rfl (v := .int .u64 s.d) rfl; have c5 := H.cell 0 5 rfl (v := .int .i64 x) rfl; have c6 := H.cell 0 6 rfl (v := .int .i64 0) rfl))
            go_ret
            exact ⟨rfl, Fr.out.trans (H.below.mono Fr.out.size)⟩
          have x2a : ¬ ((L.length : Int) ≤ x) := by omega
          have x2b : decide ((L.length : Int) ≤ x) = false := by simpa using x2
          have z1 : ¬ ((L.length : Int) ≤ 0) := by omega
          have z2 : decide ((L.length : Int) ≤ 0) = false := by simpa using z1
          have hE2 := hrel.out (by rw [fit4, hset, inB_ok x1 x2]; rfl)
          replace hE2 := hide hE2
          clear hrel hbad
          go_wp2_with (first | ((with_reducible refine at_load 45 ?_); refine wl_loadA 45 rfl hld ?_) | ((with_reducible refine at_alloc 45 ?_); refine wl_allocI H ?_; clear H; intro g w1 H q1 q2) | ((with_reducible refine at_store 45 ?_); refine wl_storeI 0 (q := ⟨4, s, x, 0⟩) H rfl rfl rfl ?_; clear H; intro w2 H; have c0 := H.cell 0 0 rfl (v := .int .i64 4) rfl; have c1 := H.cell 0 1 rfl (v := .int .u64 s.a) rfl; have c2 := H.cell 0 2 rfl (v := .int .u64 s.b) rfl; have c3 := H.cell 0 3 rfl (v := .int .u64 s.c) rfl; have c4 := H.cell 0 4 rfl (v := .int .u64 s.d) rfl; have c5 := H.cell 0 5 rfl (v := .int .i64 x) rfl; have c6 := H.cell 0 6 rfl (v := .int .i64 0) rfl))
          go_roundw
          case rel => obtain ⟨k', h1, h2, h3⟩ := hE2.out; exact ⟨k', h1, (by rw [h2]; go_num), h3, Fr.out.trans (H.below.mono Fr.out.size)⟩
          case measure => have := hltH.out; simp [RowKit.intOf]; omega
    · obtain rfl : k = L.length := by omega
      have hE2 : E = 0 := by rw [hE.out]; exact chk_good (by omega) (by omega) hfit.out
      subst hE2
      go_wp2_with fail
      go_ret
      exact ⟨rfl, Fr.out⟩
end Go.Proofs.YtkgegjnkkbgghaaDoor
