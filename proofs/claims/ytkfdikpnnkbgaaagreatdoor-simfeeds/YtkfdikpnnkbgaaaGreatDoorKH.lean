/-
  Check, by the reference, of any instructions. Check of a program, by the reference. The reference's Match of nothing; which numbers a set has, in order. How a pattern, and instructions, come in as arguments. The reference's Match of nothing; which numbers a set has, in order; bytes and bools that came in; what a program's Check says. SimFeeds: the walk. SimFeeds: the walk, where the program is not too long; both.
-/
import Derived.Test.YtkfdikpnnkbgaaaGreatDoorDR
import Derived.Test.YtkfdikpnnkbgaaaGreatDoorKB
import Derived.Test.YtkfdikpnnkbgaaaGreatDoorSQ
import Derived.Test.YtkfdikpnnkbgaaaGreatDoorI
import Derived.Test.YtkfdikpnnkbgaaaGreatDoorDD
import Derived.Deep.Slices
import Derived.Test.YtkfdikpnnkbgaaaGreatDoorSV
import Derived.ChangeSlices
import Derived.Deep.Grids
namespace Go.Proofs.YtkfdikpnnkbgaaaGreatDoor
open Go.RowKit Go.Shelf Go.Lib
set_option linter.unusedVariables false
set_option linter.unusedSimpArgs false

section
variable {S : Nat → Prop} {w0 w w' : World} {L : List Ent} {ops : Array Oper} {rest : List Oper} {a : Act} {Q : Exit → Act → World → Prop} {dst : Option Nat} {x y : Operand} {ty : TypeId} {pos : String} {after : Array Edge}
theorem wl_allocI (H : St S w0 w L) (h : ∀ g w', St S w0 w' ((true, g, 102, insA ins0) :: L) → w0.heap.size ≤ g → w.heap.size ≤ g → wpList Tryz.prog ops Q rest (a.put dst (.pointer (some ⟨g, 0, none⟩))) w') : wpList Tryz.prog ops Q (⟨dst, .alloc 102, ty, pos, after, none⟩ :: rest) a w :=
  wl_alloc 102 _ H (fun w => run_allocI _ _ _ _ _ w) h
theorem wl_storeI (i : Nat) (H : St S w0 w L) {g : Nat} {p q : Ins} (h : L[i]? = some (true, g, 102, insA p)) (hx : a.eval x = .pointer (some ⟨g, 0, none⟩)) (hy : a.eval y = insV q)
    (k : ∀ w', St S w0 w' (L.set i (true, g, 102, insA q)) → wpList Tryz.prog ops Q rest a w') : wpList Tryz.prog ops Q (⟨none, .store 102 x y, ty, pos, after, none⟩ :: rest) a w :=
  wl_store i 102 H h hx hy sizeI rfl (insA_all q) k
end
theorem chk_bad {L : List Ins} {k : Nat} {i : Ins} (h : L[k]? = some i) (hf : fitI i L.length = false) : chkI L = 110 := by
  unfold chkI
  split
  · rfl
  · rw [if_neg]
    intro ha
    rw [List.all_eq_true] at ha
    rw [ha i (List.mem_of_getElem? h)] at hf
    cases hf
theorem chk_good {L : List Ins} (h1 : 1 ≤ L.length) (h2 : L.length ≤ 2048) (h : ∀ k i, k < L.length → L[k]? = some i → fitI i L.length = true) : chkI L = 0 := by
  unfold chkI
  rw [if_neg (by omega), if_pos]
  rw [List.all_eq_true]
  intro i hi
  obtain ⟨k, hk⟩ := List.getElem?_of_mem hi
  exact h k i (List.getElem?_eq_some_iff.1 hk).1 hk
theorem fit_no {i : Ins} {n : Nat} (h : i.op < 1 ∨ 4 < i.op) : fitI i n = false := by
  unfold fitI
  have h1 : (i.op == 1) = false := by simp; omega
  have h2 : (i.op == 2) = false := by simp; omega
  have h3 : (i.op == 3) = false := by simp; omega
  have h4 : (i.op == 4) = false := by simp; omega
  rw [h1, h2, h3, h4]
  rfl
theorem fit1 (s : S4) (x y : Int) (n : Nat) : fitI ⟨1, s, x, y⟩ n = (inB x (n : Int) && inB y 1) := by simp [fitI, fm, bnd]
theorem fit2 (s : S4) (x y : Int) (n : Nat) : fitI ⟨2, s, x, y⟩ n = (eqS s noSet && (inB x (n : Int) && inB y (n : Int))) := by simp [fitI, fm, bnd]
theorem fit3 (s : S4) (x y : Int) (n : Nat) : fitI ⟨3, s, x, y⟩ n = (eqS s noSet && (inB x 1 && inB y 1)) := by simp [fitI, fm, bnd]
theorem fit4 (s : S4) (x y : Int) (n : Nat) : fitI ⟨4, s, x, y⟩ n = (eqS s noSet && (inB x (n : Int) && inB y 1)) := by simp [fitI, fm, bnd]
theorem inB1 {z : Int} (h : ¬ z = 0) : inB z 1 = false := by simp [inB]; omega
end Go.Proofs.YtkfdikpnnkbgaaaGreatDoor
namespace Go.Proofs.YtkfdikpnnkbgaaaGreatDoor
open Go.RowKit Go.Shelf Go.Lib
set_option linter.unusedVariables false
set_option linter.unusedSimpArgs false

set_option maxHeartbeats 4000000 in
set_option maxRecDepth 100000 in
theorem rchk_any (ad : Option Addr) (c : Nat) (L : List Ins) (w : World) (hL : HsI w (fun k => k < w.heap.size) ad L) (hm : L.length ≤ maxLen) : Calls Tryz.prog 80 #[.slice ad L.length c] w fun e w' => e = .returned (.int .i64 (chkI L)) ∧ Below w.heap.size w w' := by
  unfold maxLen at hm
  rcases Nat.eq_zero_or_pos L.length with h0 | hpos
  · have e : chkI L = 110 := by unfold chkI; rw [if_pos (.inl h0)]
    rw [e, h0]
    go_enter Tryz.func80, Tryz.ntmps80
    go_wp2
    go_ret
    exact ⟨rfl, Below.refl _ _⟩
  by_cases hbig : 2048 < L.length
  · have e : chkI L = 110 := by unfold chkI; rw [if_pos (.inr hbig)]
    rw [e]
    have i1 : (2048 : Int) < (L.length : Int) := by omega
    have i2 : ((L.length : Int) == 0) = false := beq_eq_false_iff_ne.2 (by omega)
    have i3 : ¬ ((L.length : Int) = 0) := by omega
    have i4 : ¬ (L.length = 0) := by omega
    go_enter Tryz.func80, Tryz.ntmps80
    go_wp2_with fail
    go_ret
    exact ⟨rfl, Below.refl _ _⟩
  have i1 : ¬ ((2048 : Int) < (L.length : Int)) := by omega
  have i2 : ((L.length : Int) == 0) = false := beq_eq_false_iff_ne.2 (by omega)
  have i3 : ¬ ((L.length : Int) = 0) := by omega
  have i4 : ¬ (L.length = 0) := by omega
  obtain ⟨E, hE⟩ : ∃ E, E = chkI L := ⟨_, rfl⟩
  rw [← hE]
  replace hE := hide hE
  replace hL := hide hL
  have kg := guard24
  go_enter Tryz.func80, Tryz.ntmps80
  go_wp2_with fail
  go_loopw [3] (fun b wr => ∃ k : Nat, k ≤ L.length ∧ b = .int .i64 (k : Int) ∧ Hid (∀ j i, j < k → L[j]? = some i → fitI i L.length = true) ∧ Hid (Below w.heap.size w wr)) (fun b _ => L.length - (RowKit.intOf b).toNat)
  case atStart => exact ⟨0, Nat.zero_le _, rfl, (fun j i h => by omega), Below.refl _ _⟩
  case round =>
    obtain ⟨k, hk, rfl, hfit, Fr⟩ := hrel
    by_cases hlt : k < L.length
    · have i5 : (k : Int) < (L.length : Int) := Int.ofNat_lt.2 hlt
      obtain ⟨i, hi⟩ : ∃ i, L[k]? = some i := ⟨_, List.getElem?_eq_getElem hlt⟩
      obtain ⟨b, off, rfl, hld⟩ := hL.out.load (fun k hk hl => Fr.out.block k hk) hi
      have hrel : Hid (fitI i L.length = true → ∃ k' : Nat, k' ≤ L.length ∧ k' = k + 1 ∧ ∀ j i, j < k' → L[j]? = some i → fitI i L.length = true) := fun hf => ⟨k + 1, hlt, rfl, fun j i' hj hji => by
        rcases Nat.lt_or_ge j k with h | h
        · exact hfit.out j i' h hji
        · obtain rfl : j = k := by omega
          rw [hi] at hji
          cases hji
          exact hf⟩
      have hbad : Hid (fitI i L.length = false → E = 110) := fun hf => by rw [hE.out]; exact chk_bad hi hf
      have H := St.start Nope wr
      have hltH := hide hlt
      replace hi := hide hi
      clear hfit hlt hk
      obtain ⟨op, s, x, y⟩ := i
      have kn : ∀ v, eqS s noSet = v → ∀ w, (binOp .neq 24 (.agg #[.int .u64 s.a, .int .u64 s.b, .int .u64 s.c, .int .u64 s.d]) (.agg #[.int .u64 0, .int .u64 0, .int .u64 0, .int .u64 0])).run Tryz.prog w = .ok (.bool !v) w := fun v hv w => by have := run_neq24 s noSet w; rw [hv] at this; exact this
      replace kn := hide kn
      by_cases o1 : op < 1
      · have o1b : decide (op < 1) = true := by simpa using o1
        have hE2 := hbad.out (fit_no (.inl o1))
        replace hE2 := hE2.symm
        subst hE2
        clear hrel hbad
        go_wp2_with (first | ((with_reducible refine at_load 102 ?_); refine wl_loadA 102 rfl hld ?_) | ((with_reducible refine at_alloc 102 ?_); refine wl_allocI H ?_; clear H; intro g w1 H q1 q2) | ((with_reducible refine at_store 102 ?_); refine wl_storeI 0 (q := ⟨op, s, x, y⟩) H rfl rfl rfl ?_; clear H; intro w2 H; have c0 := H.cell 0 0 rfl (v := .int .i64 op) rfl; have c1 := H.cell 0 1 rfl (v := .int .u64 s.a) rfl; have c2 := H.cell 0 2 rfl (v := .int .u64 s.b) rfl; have c3 := H.cell 0 3 rfl (v := .int .u64 s.c) rfl; have c4 := H.cell 0 4 rfl (v := .int .u64 s.d) rfl; have c5 := H.cell 0 5 rfl (v := .int .i64 x) rfl; have c6 := H.cell 0 6 rfl (v := .int .i64 y) rfl))
        go_ret
        exact ⟨rfl, Fr.out.trans (H.below.mono Fr.out.size)⟩
      by_cases o2 : 4 < op
      · have o2b : decide (4 < op) = true := by simpa using o2
        have o2c : decide (op < 1) = false := by simpa using o1
        have hE2 := hbad.out (fit_no (.inr o2))
        replace hE2 := hE2.symm
        subst hE2
        clear hrel hbad
        go_wp2_with (first | ((with_reducible refine at_load 102 ?_); refine wl_loadA 102 rfl hld ?_) | ((with_reducible refine at_alloc 102 ?_); refine wl_allocI H ?_; clear H; intro g w1 H q1 q2) | ((with_reducible refine at_store 102 ?_); refine wl_storeI 0 (q := ⟨op, s, x, y⟩) H rfl rfl rfl ?_; clear H; intro w2 H; have c0 := H.cell 0 0 rfl (v := .int .i64 op) rfl; have c1 := H.cell 0 1 rfl (v := .int .u64 s.a) rfl; have c2 := H.cell 0 2 rfl (v := .int .u64 s.b) rfl; have c3 := H.cell 0 3 rfl (v := .int .u64 s.c) rfl; have c4 := H.cell 0 4 rfl (v := .int .u64 s.d) rfl; have c5 := H.cell 0 5 rfl (v := .int .i64 x) rfl; have c6 := H.cell 0 6 rfl (v := .int .i64 y) rfl))
        go_ret
        exact ⟨rfl, Fr.out.trans (H.below.mono Fr.out.size)⟩
      rcases (show op = 1 ∨ op = 2 ∨ op = 3 ∨ op = 4 by omega) with rfl | rfl | rfl | rfl
      · by_cases y0 : y = 0
        case neg =>
          have y0b : (y == 0) = false := by simpa using y0
          have hE2 := hbad.out (by rw [fit1, inB1 y0]; simp)
          replace hE2 := hE2.symm
          subst hE2
          clear hrel hbad
          go_wp2_with (first | ((with_reducible refine at_load 102 ?_); refine wl_loadA 102 rfl hld ?_) | ((with_reducible refine at_alloc 102 ?_); refine wl_allocI H ?_; clear H; intro g w1 H q1 q2) | ((with_reducible refine at_store 102 ?_); refine wl_storeI 0 (q := ⟨1, s, x, y⟩) H rfl rfl rfl ?_; clear H; intro w2 H; have c0 := H.cell 0 0 rfl (v := .int .i64 1) rfl; have c1 := H.cell 0 1 rfl (v := .int .u64 s.a) rfl; have c2 := H.cell 0 2 rfl (v := .int .u64 s.b) rfl; have c3 := H.cell 0 3 rfl (v := .int .u64 s.c) rfl; have c4 := H.cell 0 4 rfl (v := .int .u64 s.d) rfl; have c5 := H.cell 0 5 rfl (v := .int .i64 x) rfl; have c6 := H.cell 0 6 rfl (v := .int .i64 y) rfl))
          go_ret
          exact ⟨rfl, Fr.out.trans (H.below.mono Fr.out.size)⟩
        subst y0
        by_cases x1 : x < 0
        case pos =>
          have x1b : decide (x < 0) = true := by simpa using x1
          have hE2 := hbad.out (by rw [fit1, inB_neg x1]; simp)
          replace hE2 := hE2.symm
          subst hE2
          clear hrel hbad
          go_wp2_with (first | ((with_reducible refine at_load 102 ?_); refine wl_loadA 102 rfl hld ?_) | ((with_reducible refine at_alloc 102 ?_); refine wl_allocI H ?_; clear H; intro g w1 H q1 q2) | ((with_reducible refine at_store 102 ?_); refine wl_storeI 0 (q := ⟨1, s, x, 0⟩) H rfl rfl rfl ?_; clear H; intro w2 H; have c0 := H.cell 0 0 rfl (v := .int .i64 1) rfl; have c1 := H.cell 0 1 rfl (v := .int .u64 s.a) rfl; have c2 := H.cell 0 2 rfl (v := .int .u64 s.b) rfl; have c3 := H.cell 0 3 rfl (v := .int .u64 s.c) rfl; have c4 := H.cell 0 4 rfl (v := .int .u64 s.d) rfl; have c5 := H.cell 0 5 rfl (v := .int .i64 x) rfl; have c6 := H.cell 0 6 rfl (v := .int .i64 0) rfl))
          go_ret
          exact ⟨rfl, Fr.out.trans (H.below.mono Fr.out.size)⟩
        have x1b : decide (x < 0) = false := by simpa using x1
        by_cases x2 : x < (L.length : Int)
        case neg =>
          have x2a : (L.length : Int) ≤ x := by omega
          have x2b : decide ((L.length : Int) ≤ x) = true := by simpa using x2a
          have hE2 := hbad.out (by rw [fit1, inB_ge x2]; simp)
          replace hE2 := hE2.symm
          subst hE2
          clear hrel hbad
          go_wp2_with (first | ((with_reducible refine at_load 102 ?_); refine wl_loadA 102 rfl hld ?_) | ((with_reducible refine at_alloc 102 ?_); refine wl_allocI H ?_; clear H; intro g w1 H q1 q2) | ((with_reducible refine at_store 102 ?_); refine wl_storeI 0 (q := ⟨1, s, x, 0⟩) H rfl rfl rfl ?_; clear H; intro w2 H; have c0 := H.cell 0 0 rfl (v := .int .i64 1) rfl; have c1 := H.cell 0 1 rfl (v := .int .u64 s.a) rfl; have c2 := H.cell 0 2 rfl (v := .int .u64 s.b) rfl; have c3 := H.cell 0 3 rfl (v := .int .u64 s.c) rfl; have c4 := H.cell 0 4 rfl (v := .int .u64 s.d) rfl; have c5 := H.cell 0 5 rfl (v := .int .i64 x) rfl; have c6 := H.cell 0 6 rfl (v := .int .i64 0) rfl))
          go_ret
          exact ⟨rfl, Fr.out.trans (H.below.mono Fr.out.size)⟩
        have x2a : ¬ ((L.length : Int) ≤ x) := by omega
        have x2b : decide ((L.length : Int) ≤ x) = false := by simpa using x2
        have z1 : ¬ ((L.length : Int) ≤ 0) := by omega
        have z2 : decide ((L.length : Int) ≤ 0) = false := by simpa using z1
        have hE2 := hrel.out (by rw [fit1, inB_ok x1 x2]; rfl)
        replace hE2 := hide hE2
        clear hrel hbad
        go_wp2_with (first | ((with_reducible refine at_load 102 ?_); refine wl_loadA 102 rfl hld ?_) | ((with_reducible refine at_alloc 102 ?_); refine wl_allocI H ?_; clear H; intro g w1 H q1 q2) | ((with_reducible refine at_store 102 ?_); refine wl_storeI 0 (q := ⟨1, s, x, 0⟩) H rfl rfl rfl ?_; clear H; intro w2 H; have c0 := H.cell 0 0 rfl (v := .int .i64 1) rfl; have c1 := H.cell 0 1 rfl (v := .int .u64 s.a) rfl; have c2 := H.cell 0 2 rfl (v := .int .u64 s.b) rfl; have c3 := H.cell 0 3 rfl (v := .int .u64 s.c) rfl; have c4 := H.cell 0 4 rfl (v := .int .u64 s.d) rfl; have c5 := H.cell 0 5 rfl (v := .int .i64 x) rfl; have c6 := H.cell 0 6 rfl (v := .int .i64 0) rfl))
        go_roundw
        case rel => obtain ⟨k', h1, h2, h3⟩ := hE2.out; exact ⟨k', h1, (by rw [h2]; go_num), h3, Fr.out.trans (H.below.mono Fr.out.size)⟩
        case measure => have := hltH.out; simp [RowKit.intOf]; omega
      · cases hset : eqS s noSet with
        | false =>
          have kn2 := kn.out false hset
          have hE2 := hbad.out (by rw [fit2, hset]; rfl)
          replace hE2 := hE2.symm
          subst hE2
          clear hrel hbad
          go_wp2_with (first | ((with_reducible refine at_load 102 ?_); refine wl_loadA 102 rfl hld ?_) | ((with_reducible refine at_alloc 102 ?_); refine wl_allocI H ?_; clear H; intro g w1 H q1 q2) | ((with_reducible refine at_store 102 ?_); refine wl_storeI 0 (q := ⟨2, s, x, y⟩) H rfl rfl rfl ?_; clear H; intro w2 H; have c0 := H.cell 0 0 rfl (v := .int .i64 2) rfl; have c1 := H.cell 0 1 rfl (v := .int .u64 s.a) rfl; have c2 := H.cell 0 2 rfl (v := .int .u64 s.b) rfl; have c3 := H.cell 0 3 rfl (v := .int .u64 s.c) rfl; have c4 := H.cell 0 4 rfl (v := .int .u64 s.d) rfl; have c5 := H.cell 0 5 rfl (v := .int .i64 x) rfl; have c6 := H.cell 0 6 rfl (v := .int .i64 y) rfl))
          go_ret
          exact ⟨rfl, Fr.out.trans (H.below.mono Fr.out.size)⟩
        | true =>
          have kn2 := kn.out true hset
          by_cases x1 : x < 0
          case pos =>
            have x1b : decide (x < 0) = true := by simpa using x1
            have hE2 := hbad.out (by rw [fit2, inB_neg x1]; simp)
            replace hE2 := hE2.symm
            subst hE2
            clear hrel hbad
            go_wp2_with (first | ((with_reducible refine at_load 102 ?_); refine wl_loadA 102 rfl hld ?_) | ((with_reducible refine at_alloc 102 ?_); refine wl_allocI H ?_; clear H; intro g w1 H q1 q2) | ((with_reducible refine at_store 102 ?_); refine wl_storeI 0 (q := ⟨2, s, x, y⟩) H rfl rfl rfl ?_; clear H; intro w2 H; have c0 := H.cell 0 0 rfl (v := .int .i64 2) rfl; have c1 := H.cell 0 1 rfl (v := .int .u64 s.a) rfl; have c2 := H.cell 0 2 rfl (v := .int .u64 s.b) rfl; have c3 := H.cell 0 3 rfl (v := .int .u64 s.c) rfl; have c4 := H.cell 0 4 rfl (v := .int .u64 s.d) rfl; have c5 := H.cell 0 5 rfl (v := .int .i64 x) rfl; have c6 := H.cell 0 6 rfl (v := .int .i64 y) rfl))
            go_ret
            exact ⟨rfl, Fr.out.trans (H.below.mono Fr.out.size)⟩
          have x1b : decide (x < 0) = false := by simpa using x1
          by_cases x2 : x < (L.length : Int)
          case neg =>
            have x2a : (L.length : Int) ≤ x := by omega
            have x2b : decide ((L.length : Int) ≤ x) = true := by simpa using x2a
            have hE2 := hbad.out (by rw [fit2, inB_ge x2]; simp)
            replace hE2 := hE2.symm
            subst hE2
            clear hrel hbad
            go_wp2_with (first | ((with_reducible refine at_load 102 ?_); refine wl_loadA 102 rfl hld ?_) | ((with_reducible refine at_alloc 102 ?_); refine wl_allocI H ?_; clear H; intro g w1 H q1 q2) | ((with_reducible refine at_store 102 ?_); refine wl_storeI 0 (q := ⟨2, s, x, y⟩) H rfl rfl rfl ?_; clear H; intro w2 H; have c0 := H.cell 0 0 rfl (v := .int .i64 2) rfl; have c1 := H.cell 0 1 rfl (v := .int .u64 s.a) rfl; have c2 := H.cell 0 2 rfl (v := .int .u64 s.b) rfl; have c3 := H.cell 0 3 rfl (v := .int .u64 s.c) rfl; have c4 := H.cell 0 4 rfl (v := .int .u64 s.d) rfl; have c5 := H.cell 0 5 rfl (v := .int .i64 x) rfl; have c6 := H.cell 0 6 rfl (v := .int .i64 y) rfl))
            go_ret
            exact ⟨rfl, Fr.out.trans (H.below.mono Fr.out.size)⟩
          have x2a : ¬ ((L.length : Int) ≤ x) := by omega
          have x2b : decide ((L.length : Int) ≤ x) = false := by simpa using x2
          by_cases y1 : y < 0
          case pos =>
            have y1b : decide (y < 0) = true := by simpa using y1
            have hE2 := hbad.out (by rw [fit2, inB_neg y1]; simp)
            replace hE2 := hE2.symm
            subst hE2
            clear hrel hbad
            go_wp2_with (first | ((with_reducible refine at_load 102 ?_); refine wl_loadA 102 rfl hld ?_) | ((with_reducible refine at_alloc 102 ?_); refine wl_allocI H ?_; clear H; intro g w1 H q1 q2) | ((with_reducible refine at_store 102 ?_); refine wl_storeI 0 (q := ⟨2, s, x, y⟩) H rfl rfl rfl ?_; clear H; intro w2 H; have c0 := H.cell 0 0 rfl (v := .int .i64 2) rfl; have c1 := H.cell 0 1 rfl (v := .int .u64 s.a) rfl; have c2 := H.cell 0 2 rfl (v := .int .u64 s.b) rfl; have c3 := H.cell 0 3 rfl (v := .int .u64 s.c) rfl; have c4 := H.cell 0 4 rfl (v := .int .u64 s.d) rfl; have c5 := H.cell 0 5 rfl (v := .int .i64 x) rfl; have c6 := H.cell 0 6 rfl (v := .int .i64 y) rfl))
            go_ret
            exact ⟨rfl, Fr.out.trans (H.below.mono Fr.out.size)⟩
          have y1b : decide (y < 0) = false := by simpa using y1
          by_cases y2 : y < (L.length : Int)
          case neg =>
            have y2a : (L.length : Int) ≤ y := by omega
            have y2b : decide ((L.length : Int) ≤ y) = true := by simpa using y2a
            have hE2 := hbad.out (by rw [fit2, inB_ge y2]; simp)
            replace hE2 := hE2.symm
            subst hE2
            clear hrel hbad
            go_wp2_with (first | ((with_reducible refine at_load 102 ?_); refine wl_loadA 102 rfl hld ?_) | ((with_reducible refine at_alloc 102 ?_); refine wl_allocI H ?_; clear H; intro g w1 H q1 q2) | ((with_reducible refine at_store 102 ?_); refine wl_storeI 0 (q := ⟨2, s, x, y⟩) H rfl rfl rfl ?_; clear H; intro w2 H; have c0 := H.cell 0 0 rfl (v := .int .i64 2) rfl; have c1 := H.cell 0 1 rfl (v := .int .u64 s.a) rfl; have c2 := H.cell 0 2 rfl (v := .int .u64 s.b) rfl; have c3 := H.cell 0 3 rfl (v := .int .u64 s.c) rfl; have c4 := H.cell 0 4 rfl (v := .int .u64 s.d) rfl; have c5 := H.cell 0 5 rfl (v := .int .i64 x) rfl; have c6 := H.cell 0 6 rfl (v := .int .i64 y) rfl))
            go_ret
            exact ⟨rfl, Fr.out.trans (H.below.mono Fr.out.size)⟩
          have y2a : ¬ ((L.length : Int) ≤ y) := by omega
          have y2b : decide ((L.length : Int) ≤ y) = false := by simpa using y2
          have hE2 := hrel.out (by rw [fit2, hset, inB_ok x1 x2, inB_ok y1 y2]; rfl)
          replace hE2 := hide hE2
          clear hrel hbad
          go_wp2_with (first | ((with_reducible refine at_load 102 ?_); refine wl_loadA 102 rfl hld ?_) | ((with_reducible refine at_alloc 102 ?_); refine wl_allocI H ?_; clear H; intro g w1 H q1 q2) | ((with_reducible refine at_store 102 ?_); refine wl_storeI 0 (q := ⟨2, s, x, y⟩) H rfl rfl rfl ?_; clear H; intro w2 H; have c0 := H.cell 0 0 rfl (v := .int .i64 2) rfl; have c1 := H.cell 0 1 rfl (v := .int .u64 s.a) rfl; have c2 := H.cell 0 2 rfl (v := .int .u64 s.b) rfl; have c3 := H.cell 0 3 rfl (v := .int .u64 s.c) rfl; have c4 := H.cell 0 4 rfl (v := .int .u64 s.d) rfl; have c5 := H.cell 0 5 rfl (v := .int .i64 x) rfl; have c6 := H.cell 0 6 rfl (v := .int .i64 y) rfl))
          go_roundw
          case rel => obtain ⟨k', h1, h2, h3⟩ := hE2.out; exact ⟨k', h1, (by rw [h2]; go_num), h3, Fr.out.trans (H.below.mono Fr.out.size)⟩
          case measure => have := hltH.out; simp [RowKit.intOf]; omega
      · cases hset : eqS s noSet with
        | false =>
          have kn2 := kn.out false hset
          have hE2 := hbad.out (by rw [fit3, hset]; rfl)
          replace hE2 := hE2.symm
          subst hE2
          clear hrel hbad
          go_wp2_with (first | ((with_reducible refine at_load 102 ?_); refine wl_loadA 102 rfl hld ?_) | ((with_reducible refine at_alloc 102 ?_); refine wl_allocI H ?_; clear H; intro g w1 H q1 q2) | ((with_reducible refine at_store 102 ?_); refine wl_storeI 0 (q := ⟨3, s, x, y⟩) H rfl rfl rfl ?_; clear H; intro w2 H; have c0 := H.cell 0 0 rfl (v := .int .i64 3) rfl; have c1 := H.cell 0 1 rfl (v := .int .u64 s.a) rfl; have c2 := H.cell 0 2 rfl (v := .int .u64 s.b) rfl; have c3 := H.cell 0 3 rfl (v := .int .u64 s.c) rfl; have c4 := H.cell 0 4 rfl (v := .int .u64 s.d) rfl; have c5 := H.cell 0 5 rfl (v := .int .i64 x) rfl; have c6 := H.cell 0 6 rfl (v := .int .i64 y) rfl))
          go_ret
          exact ⟨rfl, Fr.out.trans (H.below.mono Fr.out.size)⟩
        | true =>
          have kn2 := kn.out true hset
          by_cases x0 : x = 0
          case neg =>
            have x0b : (x == 0) = false := by simpa using x0
            have hE2 := hbad.out (by rw [fit3, inB1 x0]; simp)
            replace hE2 := hE2.symm
            subst hE2
            clear hrel hbad
            go_wp2_with (first | ((with_reducible refine at_load 102 ?_); refine wl_loadA 102 rfl hld ?_) | ((with_reducible refine at_alloc 102 ?_); refine wl_allocI H ?_; clear H; intro g w1 H q1 q2) | ((with_reducible refine at_store 102 ?_); refine wl_storeI 0 (q := ⟨3, s, x, y⟩) H rfl rfl rfl ?_; clear H; intro w2 H; have c0 := H.cell 0 0 rfl (v := .int .i64 3) rfl; have c1 := H.cell 0 1 rfl (v := .int .u64 s.a) rfl; have c2 := H.cell 0 2 rfl (v := .int .u64 s.b) rfl; have c3 := H.cell 0 3 rfl (v := .int .u64 s.c) rfl; have c4 := H.cell 0 4 rfl (v := .int .u64 s.d) rfl; have c5 := H.cell 0 5 rfl (v := .int .i64 x) rfl; have c6 := H.cell 0 6 rfl (v := .int .i64 y) rfl))
            go_ret
            exact ⟨rfl, Fr.out.trans (H.below.mono Fr.out.size)⟩
          subst x0
          by_cases y0 : y = 0
          case neg =>
            have y0b : (y == 0) = false := by simpa using y0
            have hE2 := hbad.out (by rw [fit3, inB1 y0]; simp)
            replace hE2 := hE2.symm
            subst hE2
            clear hrel hbad
            go_wp2_with (first | ((with_reducible refine at_load 102 ?_); refine wl_loadA 102 rfl hld ?_) | ((with_reducible refine at_alloc 102 ?_); refine wl_allocI H ?_; clear H; intro g w1 H q1 q2) | ((with_reducible refine at_store 102 ?_); refine wl_storeI 0 (q := ⟨3, s, 0, y⟩) H rfl rfl rfl ?_; clear H; intro w2 H; have c0 := H.cell 0 0 rfl (v := .int .i64 3) rfl; have c1 := H.cell 0 1 rfl (v := .int .u64 s.a) rfl; have c2 := H.cell 0 2 rfl (v := .int .u64 s.b) rfl; have c3 := H.cell 0 3 rfl (v := .int .u64 s.c) rfl; have c4 := H.cell 0 4 rfl (v := .int .u64 s.d) rfl; have c5 := H.cell 0 5 rfl (v := .int .i64 0) rfl; have c6 := H.cell 0 6 rfl (v := .int .i64 y) rfl))
            go_ret
            exact ⟨rfl, Fr.out.trans (H.below.mono Fr.out.size)⟩
          subst y0
          have z1 : ¬ ((L.length : Int) ≤ 0) := by omega
          have z2 : decide ((L.length : Int) ≤ 0) = false := by simpa using z1
          have hE2 := hrel.out (by rw [fit3, hset]; rfl)
          replace hE2 := hide hE2
          clear hrel hbad
          go_wp2_with (first | ((with_reducible refine at_load 102 ?_); refine wl_loadA 102 rfl hld ?_) | ((with_reducible refine at_alloc 102 ?_); refine wl_allocI H ?_; clear H; intro g w1 H q1 q2) | ((with_reducible refine at_store 102 ?_); refine wl_storeI 0 (q := ⟨3, s, 0, 0⟩) H rfl rfl rfl ?_; clear H; intro w2 H; have c0 := H.cell 0 0 rfl (v := .int .i64 3) rfl; have c1 := H.cell 0 1 rfl (v := .int .u64 s.a) rfl; have c2 := H.cell 0 2 rfl (v := .int .u64 s.b) rfl; have c3 := H.cell 0 3 rfl (v := .int .u64 s.c) rfl; have c4 := H.cell 0 4 rfl (v := .int .u64 s.d) rfl; have c5 := H.cell 0 5 rfl (v := .int .i64 0) rfl; have c6 := H.cell 0 6 rfl (v := .int .i64 0) rfl))
          go_roundw
          case rel => obtain ⟨k', h1, h2, h3⟩ := hE2.out; exact ⟨k', h1, (by rw [h2]; go_num), h3, Fr.out.trans (H.below.mono Fr.out.size)⟩
          case measure => have := hltH.out; simp [RowKit.intOf]; omega
      · cases hset : eqS s noSet with
        | false =>
          have kn2 := kn.out false hset
          have hE2 := hbad.out (by rw [fit4, hset]; rfl)
          replace hE2 := hE2.symm
          subst hE2
          clear hrel hbad
          go_wp2_with (first | ((with_reducible refine at_load 102 ?_); refine wl_loadA 102 rfl hld ?_) | ((with_reducible refine at_alloc 102 ?_); refine wl_allocI H ?_; clear H; intro g w1 H q1 q2) | ((with_reducible refine at_store 102 ?_); refine wl_storeI 0 (q := ⟨4, s, x, y⟩) H rfl rfl rfl ?_; clear H; intro w2 H; have c0 := H.cell 0 0 rfl (v := .int .i64 4) rfl; have c1 := H.cell 0 1 rfl (v := .int .u64 s.a) rfl; have c2 := H.cell 0 2 rfl (v := .int .u64 s.b) rfl; have c3 := H.cell 0 3 rfl (v := .int .u64 s.c) rfl; have c4 := H.cell 0 4 rfl (v := .int .u64 s.d) rfl; have c5 := H.cell 0 5 rfl (v := .int .i64 x) rfl; have c6 := H.cell 0 6 rfl (v := .int .i64 y) rfl))
          go_ret
          exact ⟨rfl, Fr.out.trans (H.below.mono Fr.out.size)⟩
        | true =>
          have kn2 := kn.out true hset
          by_cases y0 : y = 0
          case neg =>
            have y0b : (y == 0) = false := by simpa using y0
            have hE2 := hbad.out (by rw [fit4, inB1 y0]; simp)
            replace hE2 := hE2.symm
            subst hE2
            clear hrel hbad
            go_wp2_with (first | ((with_reducible refine at_load 102 ?_); refine wl_loadA 102 rfl hld ?_) | ((with_reducible refine at_alloc 102 ?_); refine wl_allocI H ?_; clear H; intro g w1 H q1 q2) | ((with_reducible refine at_store 102 ?_); refine wl_storeI 0 (q := ⟨4, s, x, y⟩) H rfl rfl rfl ?_; clear H; intro w2 H; have c0 := H.cell 0 0 rfl (v := .int .i64 4) rfl; have c1 := H.cell 0 1 rfl (v := .int .u64 s.a) rfl; have c2 := H.cell 0 2 rfl (v := .int .u64 s.b) rfl; have c3 := H.cell 0 3 rfl (v := .int .u64 s.c) rfl; have c4 := H.cell 0 4 rfl (v := .int .u64 s.d) rfl; have c5 := H.cell 0 5 rfl (v := .int .i64 x) rfl; have c6 := H.cell 0 6 rfl (v := .int .i64 y) rfl))
            go_ret
            exact ⟨rfl, Fr.out.trans (H.below.mono Fr.out.size)⟩
          subst y0
          by_cases x1 : x < 0
          case pos =>
            have x1b : decide (x < 0) = true := by simpa using x1
            have hE2 := hbad.out (by rw [fit4, inB_neg x1]; simp)
            replace hE2 := hE2.symm
            subst hE2
            clear hrel hbad
            go_wp2_with (first | ((with_reducible refine at_load 102 ?_); refine wl_loadA 102 rfl hld ?_) | ((with_reducible refine at_alloc 102 ?_); refine wl_allocI H ?_; clear H; intro g w1 H q1 q2) | ((with_reducible refine at_store 102 ?_); refine wl_storeI 0 (q := ⟨4, s, x, 0⟩) H rfl rfl rfl ?_; clear H; intro w2 H; have c0 := H.cell 0 0 rfl (v := .int .i64 4) rfl; have c1 := H.cell 0 1 rfl (v := .int .u64 s.a) rfl; have c2 := H.cell 0 2 rfl (v := .int .u64 s.b) rfl; have c3 := H.cell 0 3 rfl (v := .int .u64 s.c) rfl; have c4 := H.cell 0 4 rfl (v := .int .u64 s.d) rfl; have c5 := H.cell 0 5 rfl (v := .int .i64 x) rfl; have c6 := H.cell 0 6 rfl (v := .int .i64 0) rfl))
            go_ret
            exact ⟨rfl, Fr.out.trans (H.below.mono Fr.out.size)⟩
          have x1b : decide (x < 0) = false := by simpa using x1
          by_cases x2 : x < (L.length : Int)
          case neg =>
            have x2a : (L.length : Int) ≤ x := by omega
            have x2b : decide ((L.length : Int) ≤ x) = true := by simpa using x2a
            have hE2 := hbad.out (by rw [fit4, inB_ge x2]; simp)
            replace hE2 := hE2.symm
            subst hE2
            clear hrel hbad
            go_wp2_with (first | ((with_reducible refine at_load 102 ?_); refine wl_loadA 102 rfl hld ?_) | ((with_reducible refine at_alloc 102 ?_); refine wl_allocI H ?_; clear H; intro g w1 H q1 q2) | ((with_reducible refine at_store 102 ?_); refine wl_storeI 0 (q := ⟨4, s, x, 0⟩) H rfl rfl rfl ?_; clear H; intro w2 H; have c0 := H.cell 0 0 rfl (v := .int .i64 4) rfl; have c1 := H.cell 0 1 rfl (v := .int .u64 s.a) rfl; have c2 := H.cell 0 2 rfl (v := .int .u64 s.b) rfl; have c3 := H.cell 0 3 rfl (v := .int .u64 s.c) rfl; have c4 := H.cell 0 4 rfl (v := .int .u64 s.d) rfl; have c5 := H.cell 0 5 rfl (v := .int .i64 x) rfl; have c6 := H.cell 0 6 rfl (v := .int .i64 0) rfl))
            go_ret
            exact ⟨rfl, Fr.out.trans (H.below.mono Fr.out.size)⟩
          have x2a : ¬ ((L.length : Int) ≤ x) := by omega
          have x2b : decide ((L.length : Int) ≤ x) = false := by simpa using x2
          have z1 : ¬ ((L.length : Int) ≤ 0) := by omega
          have z2 : decide ((L.length : Int) ≤ 0) = false := by simpa using z1
          have hE2 := hrel.out (by rw [fit4, hset, inB_ok x1 x2]; rfl)
          replace hE2 := hide hE2
          clear hrel hbad
          go_wp2_with (first | ((with_reducible refine at_load 102 ?_); refine wl_loadA 102 rfl hld ?_) | ((with_reducible refine at_alloc 102 ?_); refine wl_allocI H ?_; clear H; intro g w1 H q1 q2) | ((with_reducible refine at_store 102 ?_); refine wl_storeI 0 (q := ⟨4, s, x, 0⟩) H rfl rfl rfl ?_; clear H; intro w2 H; have c0 := H.cell 0 0 rfl (v := .int .i64 4) rfl; have c1 := H.cell 0 1 rfl (v := .int .u64 s.a) rfl; have c2 := H.cell 0 2 rfl (v := .int .u64 s.b) rfl; have c3 := H.cell 0 3 rfl (v := .int .u64 s.c) rfl; have c4 := H.cell 0 4 rfl (v := .int .u64 s.d) rfl; have c5 := H.cell 0 5 rfl (v := .int .i64 x) rfl; have c6 := H.cell 0 6 rfl (v := .int .i64 0) rfl))
          go_roundw
          case rel => obtain ⟨k', h1, h2, h3⟩ := hE2.out; exact ⟨k', h1, (by rw [h2]; go_num), h3, Fr.out.trans (H.below.mono Fr.out.size)⟩
          case measure => have := hltH.out; simp [RowKit.intOf]; omega
    · obtain rfl : k = L.length := by omega
      have hE2 : E = 0 := by rw [hE.out]; exact chk_good (by omega) (by omega) hfit.out
      subst hE2
      go_wp2_with fail
      go_ret
      exact ⟨rfl, Fr.out⟩
end Go.Proofs.YtkfdikpnnkbgaaaGreatDoor
namespace Go.Proofs.YtkfdikpnnkbgaaaGreatDoor
open Go.RowKit Go.Shelf
set_option linter.unusedVariables false
set_option linter.unusedSimpArgs false

set_option maxRecDepth 100000 in
set_option maxHeartbeats 2000000 in
theorem rends_bad (ad : Option Addr) (c : Nat) (L : List Ins) (s : ByteArray) (fr : Int) (w : World) (hL : HsI w (fun k => k < w.heap.size) ad L) (hm : L.length ≤ maxLen) (hc : chkI L = 110) :
    Calls Tryz.prog 49 #[.slice ad L.length c, .string s, .int .i64 fr] w fun e w' => e = .returned (.tuple #[.slice none 0 0, .int .i64 110]) ∧ Below w.heap.size w w' := by
  have H1 := hide (rchk_any ad c L w hL hm)
  rw [hc] at H1
  clear hL hc
  go_enter Tryz.func49, Tryz.ntmps49
  go_wp2_with fail
  refine H1.out.mono ?_
  rintro e w1 ⟨rfl, B1⟩
  replace B1 := hide B1
  go_wp2_with fail
  go_ret2
  exact ⟨rfl, B1.out⟩
theorem zeros_own (w : World) : (w.alloc (.cells #[] 3)).ownsRow w.heap.size 3 1 (.slice (some ⟨w.heap.size, 0, none⟩) 0 0) 0 (cellsI []) := by
  simpa [cellsI] using World.ownsRow_made (e := 3) (size := 1) w #[] 0 (Nat.le_refl _) (Nat.zero_le _) (by simp)
/-- A row of one's own of none or one zero. -/
def Z01 (w0 : World) (w : World) (v : Value) : Prop := ∃ (xs : List Nat) (ad : Option Addr) (c : Nat), v = .slice ad xs.length c ∧ xs.length ≤ 1 ∧ w.ownsRow w0.heap.size 3 1 v xs.length (cellsI xs)
theorem Z01.below {w0 w w' : World} {v : Value} (h : Z01 w0 w v) (hb : Below w.heap.size w w') : Z01 w0 w' v := by
  obtain ⟨xs, ad, c, e, hl, ho⟩ := h
  exact ⟨xs, ad, c, e, hl, owns_of_block ho (fun k hk => hb.block k (World.ownsRow.lt ho k hk).2)⟩
set_option maxRecDepth 100000 in
set_option maxHeartbeats 4000000 in
theorem rends0 (ad : Option Addr) (c : Nat) (L : List Ins) (s : ByteArray) (hs : s.size = 0) (w : World) (hL : HsI w (fun k => k < w.heap.size) ad L) (hG : GoL L) (hc : chkI L = 0) (h0 : 0 < L.length) (hlen : L.length ≤ 2048) :
    Calls Tryz.prog 49 #[.slice ad L.length c, .string s, .int .i64 0] w fun e w' => Below w.heap.size w w' ∧ ∃ v, e = .returned (.tuple #[v, .int .i64 0]) ∧ Z01 w w' v := by
  have H1 := hide (rchk_any ad c L w hL (by unfold maxLen; omega))
  rw [hc] at H1
  have i1 : ¬ ((65536 : Int) < (s.size : Int)) := by omega
  have i2 : ¬ ((s.size : Int) < 0) := by omega
  have i3 : (0 : Int) ≤ (s.size : Int) := by omega
  have i4 : ¬ ((0 : Int) < (s.size : Int)) := by omega
  have i5 : ¬ ((1 : Int) ≤ (s.size : Int)) := by omega
  obtain ⟨i0, hi, hz, hsz, hby⟩ := info3
  replace hL := hide hL
  replace hG := hide hG
  clear hc
  go_enter Tryz.func49, Tryz.ntmps49
  go_wp2_with fail
  refine H1.out.mono ?_
  rintro e w1 ⟨rfl, B1⟩
  have hal : Below w1.heap.size w1 (w1.alloc (.cells #[] 3)) := (Below.refl _ w1).alloc (Nat.le_refl _) _
  have hs1 := B1.size
  have O1 : Hid ((w1.alloc (.cells #[] 3)).ownsRow w.heap.size 3 1 (.slice (some ⟨w1.heap.size, 0, none⟩) 0 0) 0 []) := by
    have := zeros_own w1
    exact ⟨this.1, this.2.imp id (fun ⟨g, cap, cur, q0, q1, q2⟩ => ⟨g, cap, cur, q0, by omega, q2⟩)⟩
  have Bx : Below w.heap.size w (w1.alloc (.cells #[] 3)) := B1.trans (hal.mono hs1)
  have hsx : (w1.alloc (.cells #[] 3)).heap.size = w1.heap.size + 1 := by simp
  have hLx := hide (hL.out.kept (Y' := fun k => k < (w1.alloc (.cells #[] 3)).heap.size) (fun k _ hk => Bx.block k hk) (fun k hk h => by omega))
  replace Bx := hide Bx
  clear B1 hal
  generalize hwx : w1.alloc (.cells #[] 3) = wx at *
  have Hb := hide (rbegin_any ad c L wx hLx.out hG.out h0 hlen)
  go_wp2_with (first | rw [hwx])
  refine Hb.out.mono ?_
  rintro e w2 ⟨B2, vB, B, rfl, hBo, hSt⟩
  have O2 : Hid (w2.ownsRow w.heap.size 3 1 (.slice (some ⟨w1.heap.size, 0, none⟩) 0 0) 0 []) := owns_of_block O1.out (fun k hk => B2.block k (World.ownsRow.lt O1.out k hk).2)
  have Bx2 := hide (Bx.out.trans (B2.mono Bx.out.size))
  replace hBo := hide hBo
  replace hSt := hide hSt
  clear O1 B2 Hb hLx Bx hwx hsx
  go_wp2_with fail
  go_loopw [8, 9, 10] (fun v vb iv wr => Hid (Below w.heap.size w wr) ∧ ((iv = .int .i64 0 ∧ vb = vB ∧ Hid (Bo wr vB B) ∧ ∃ ad c, v = .slice ad 0 c ∧ Hid (wr.ownsRow w.heap.size 3 1 (.slice ad 0 c) 0 [])) ∨ (iv = .int .i64 1 ∧ Hid (Z01 w wr v)))) (fun _ _ v _ => 1 - (RowKit.intOf v).toNat)
  case atStart =>
    exact ⟨Bx2, .inl ⟨rfl, rfl, hBo, _, _, rfl, O2⟩⟩
  case round =>
    obtain ⟨hB, (⟨rfl, rfl, hbo, a8, c8, rfl, hO⟩ | ⟨rfl, hZ⟩)⟩ := hrel
    · have hLr := hL.out.kept (Y' := fun k => k < wr.heap.size) (fun k _ hk => hB.out.block k hk) (fun k hk h => by have := hB.out.size; omega)
      have Ha := hide (racc_any ad c L (Eps L 0) B _ wr hLr hbo.out hSt.out h0 hlen)
      go_wp2_with fail
      refine Ha.out.mono ?_
      rintro e w4 ⟨B4, x, rfl, hx⟩
      have hb4 := hide (hB.out.trans (B4.mono hB.out.size))
      have hO4 : w4.ownsRow w.heap.size 3 1 (.slice a8 0 c8) 0 [] := owns_of_block hO.out (fun k hk => B4.block k (World.ownsRow.lt hO.out k hk).2)
      clear hx Ha hLr
      cases x with
      | false =>
        have hZ4 : Hid (Z01 w w4 (.slice a8 0 c8)) := ⟨[], a8, c8, rfl, by simp, by simpa [cellsI] using hO4⟩
        clear hO4 B4
        go_wp2_with fail
        go_roundw
        case rel => exact ⟨hb4, .inr ⟨rfl, hZ4⟩⟩
        case measure => simp [RowKit.intOf]
      | true =>
        have hal4 : Below w4.heap.size w4 (w4.alloc (.cells #[.int .i64 0] 3)) := (Below.refl _ w4).alloc (Nat.le_refl _) _
        have hO5 : Hid ((w4.alloc (.cells #[.int .i64 0] 3)).ownsRow w.heap.size 3 1 (.slice a8 0 c8) 0 []) := owns_of_block hO4 (fun k hk => hal4.block k (World.ownsRow.lt hO4 k hk).2)
        have hcc : Hid (∀ (j : Nat) (u : Value), [Value.int .i64 0][j]? = some u → (w4.alloc (.cells #[.int .i64 0] 3)).cell? ((⟨w4.heap.size, 0, none⟩ : Addr).add j) = some u) := fun j u hj => by
          rw [add_plain, Nat.zero_add, cell_of_row _ _ _ _ _ _ (heap_alloc_new w4 _)]
          simpa using hj
        have hone : ∀ u ∈ [Value.int .i64 0], u.oneCell' = true := fun u hu => by rw [List.mem_singleton.1 hu]; rfl
        have hb5 := hide (hb4.out.trans (hal4.mono hb4.out.size))
        have hle : w.heap.size ≤ (w4.alloc (.cells #[.int .i64 0] 3)).heap.size := hb5.out.size
        clear hO4 B4 hal4
        go_wp2_with (at_builtin; refine wpList_append_own _ rfl (.tmp 38) (.tmp 40) 54 rfl w.heap.size 3 i0 (.int .i64 0) 1 8 Tryz.underlying54 hi hz hsz hby rfl (by decide) _ 0 _ rfl hO5.out ⟨w4.heap.size, 0, none⟩ 1 1 _ rfl rfl hcc.out hone (by unfold maxLen; omega) (by omega) hle ?_; intro v5 w5 h1 h2 h3; clear h3; replace h1 := hide h1; replace h2 := hide h2)
        have hZ5 : Hid (Z01 w w5 v5) := by
          have h1' : w5.ownsRow w.heap.size 3 1 v5 1 (cellsI [0]) := by simpa [cellsI] using h1.out
          obtain ⟨g, cap, rfl, _, _⟩ := h1'.form (by omega)
          exact ⟨[0], _, _, rfl, by simp, h1'⟩
        have hrow : ∀ k, (Value.slice a8 0 c8).ownBlock = some k → w.heap.size ≤ k := fun k hk => (World.ownsRow.lt hO5.out k hk).1
        have hb6 : Hid (Below w.heap.size w w5) := hb5.out.grown h2.out hb5.out.size hrow
        go_wp2_with fail
        go_roundw
        case rel => exact ⟨hb6, .inr ⟨rfl, hZ5⟩⟩
        case measure => simp [RowKit.intOf]
    · go_wp2_with fail
      go_ret2
      exact ⟨hB.out, _, rfl, hZ.out⟩
end Go.Proofs.YtkfdikpnnkbgaaaGreatDoor
namespace Go.Proofs.YtkfdikpnnkbgaaaGreatDoor
open Go.RowKit Go.ChangeShapes Go.WideShapes Go.ChangeAt
set_option linter.unusedVariables false
set_option linter.unusedSimpArgs false

/-- The cells of a pattern that came in, and what can be read of it d levels down. -/
def ArgR (w : World) : Nat → List Value → Prop
  | 0, cs => ∃ (k : Int) (s : S4) (a : Option Addr) (n c : Nat) (mn mx : Int), cs = (reA k s (.slice a n c) mn mx).toList ∧ OkS s
  | d + 1, cs => ∃ (k : Int) (s : S4) (a : Option Addr) (n c : Nat) (mn mx : Int), cs = (reA k s (.slice a n c) mn mx).toList ∧ OkS s ∧ n ≤ maxLen ∧ (0 < n → ∃ b off, a = some ⟨b, off, none⟩ ∧ b < w.heap.size ∧ ∀ i, i < n → ∃ cs', cs'.length = 8 ∧ (∀ j u, cs'[j]? = some u → w.cell? ⟨b, off + i * 8 + j, none⟩ = some u) ∧ ArgR w d cs')
theorem eight {cs : List Value} (h : cs.length = 8) : ∃ v0 v1 v2 v3 v4 v5 v6 v7, cs = [v0, v1, v2, v3, v4, v5, v6, v7] := by
  match cs, h with
  | [v0, v1, v2, v3, v4, v5, v6, v7], _ => exact ⟨v0, v1, v2, v3, v4, v5, v6, v7, rfl⟩
theorem seven {cs : List Value} (h : cs.length = 7) : ∃ v0 v1 v2 v3 v4 v5 v6, cs = [v0, v1, v2, v3, v4, v5, v6] := by
  match cs, h with
  | [v0, v1, v2, v3, v4, v5, v6], _ => exact ⟨v0, v1, v2, v3, v4, v5, v6, rfl⟩
theorem four {cs : List Value} (h : cs.length = 4) : ∃ v0 v1 v2 v3, cs = [v0, v1, v2, v3] := by
  match cs, h with
  | [v0, v1, v2, v3], _ => exact ⟨v0, v1, v2, v3, rfl⟩
theorem cells27 : Tryz.prog.cellsOf 27 = 8 := by kernel_rfl
theorem cells45 : Tryz.prog.cellsOf 102 = 7 := by kernel_rfl
theorem cells3 : Tryz.prog.cellsOf 3 = 1 := by kernel_rfl
theorem cells22 : Tryz.prog.cellsOf 22 = 1 := by kernel_rfl
theorem cells24 : Tryz.prog.cellsOf 24 = 4 := by kernel_rfl
theorem cells25 : Tryz.prog.cellsOf 25 = 1 := by kernel_rfl
section
variable {H : Type} {enc : TypeId × Value → H} {W : World} {base : Nat}
set_option maxRecDepth 100000 in
theorem set_open {fuel : Nat} {cs : List Value} {x : DataW H × List MemPlace} (h : DataW.trod enc Tryz.prog W base (fun _ => true) true fuel 24 cs = some x) : ∃ s : S4, cs = [.int .u64 s.a, .int .u64 s.b, .int .u64 s.c, .int .u64 s.d] ∧ (∀ z ∈ [s.a, s.b, s.c, s.d], (Lit.int .u64 z).wf = true) := by
  obtain ⟨xs, m, rfl, _, hl, hxl, hf⟩ := DataW.trod_array Tryz.underlying24 h
  rw [cells24] at hl
  obtain ⟨v0, v1, v2, v3, rfl⟩ := four hl
  have g0 := hf 0 (by omega)
  have g1 := hf 1 (by omega)
  have g2 := hf 2 (by omega)
  have g3 := hf 3 (by omega)
  simp only [cells22] at g0 g1 g2 g3
  obtain ⟨a0, e0, _, f0⟩ := DataW.trod_int Tryz.underlying22 (g0.trans (List.getElem?_eq_getElem (by omega)))
  obtain ⟨a1, e1, _, f1⟩ := DataW.trod_int Tryz.underlying22 (g1.trans (List.getElem?_eq_getElem (by omega)))
  obtain ⟨a2, e2, _, f2⟩ := DataW.trod_int Tryz.underlying22 (g2.trans (List.getElem?_eq_getElem (by omega)))
  obtain ⟨a3, e3, _, f3⟩ := DataW.trod_int Tryz.underlying22 (g3.trans (List.getElem?_eq_getElem (by omega)))
  simp at e0 e1 e2 e3
  exact ⟨⟨a0, a1, a2, a3⟩, by rw [e0, e1, e2, e3], by simp [f0, f1, f2, f3]⟩
theorem okS_wf {s : S4} (h : ∀ z ∈ [s.a, s.b, s.c, s.d], (Lit.int .u64 z).wf = true) : OkS s := fun k hk => by
  have key : ∀ z, (Lit.int .u64 z).wf = true → 0 ≤ z ∧ z < 18446744073709551616 := fun z hz => by
    have := bounds_u64 hz
    omega
  rcases (show k = 0 ∨ k = 1 ∨ k = 2 ∨ k = 3 by omega) with rfl | rfl | rfl | rfl
  · exact key s.a (h s.a (by simp))
  · exact key s.b (h s.b (by simp))
  · exact key s.c (h s.c (by simp))
  · exact key s.d (h s.d (by simp))
theorem re_open {fuel : Nat} {cs : List Value} {x : DataW H × List MemPlace} (h : DataW.trod enc Tryz.prog W base (fun _ => true) true fuel 27 cs = some x) :
    ∃ (k : Int) (s : S4) (v : Value) (mn mx : Int) (m : Nat) (y : DataW H × List MemPlace), cs = (reA k s v mn mx).toList ∧ OkS s ∧ DataW.trod enc Tryz.prog W base (fun _ => true) true m 25 [v] = some y := by
  obtain ⟨xs, m, rfl, _, hl, hxl, hf⟩ := DataW.trod_struct Tryz.underlying27 h
  rw [cells27] at hl
  obtain ⟨v0, v1, v2, v3, v4, v5, v6, v7, rfl⟩ := eight hl
  have hxl' : xs.length = 5 := hxl
  have g0 := hf 0 { name := "Kind", type := 3, offset := 0, embedded := false, tag := "", pkgPath := "", byteOffset := 0 } rfl
  have g1 := hf 1 { name := "Set", type := 24, offset := 1, embedded := false, tag := "", pkgPath := "", byteOffset := 8 } rfl
  have g2 := hf 2 { name := "L", type := 25, offset := 5, embedded := false, tag := "", pkgPath := "", byteOffset := 40 } rfl
  have g3 := hf 3 { name := "Min", type := 3, offset := 6, embedded := false, tag := "", pkgPath := "", byteOffset := 64 } rfl
  have g4 := hf 4 { name := "Max", type := 3, offset := 7, embedded := false, tag := "", pkgPath := "", byteOffset := 72 } rfl
  dsimp only at g0 g1 g2 g3 g4
  rw [cells3] at g0 g3 g4
  rw [cells24] at g1
  rw [cells25] at g2
  obtain ⟨a0, e0, _, f0⟩ := DataW.trod_int Tryz.underlying3 (g0.trans (List.getElem?_eq_getElem (by omega)))
  obtain ⟨s, e1, e1w⟩ := set_open (g1.trans (List.getElem?_eq_getElem (by omega)))
  obtain ⟨a3, e3, _, f3⟩ := DataW.trod_int Tryz.underlying3 (g3.trans (List.getElem?_eq_getElem (by omega)))
  obtain ⟨a4, e4, _, f4⟩ := DataW.trod_int Tryz.underlying3 (g4.trans (List.getElem?_eq_getElem (by omega)))
  simp at e0 e1 e3 e4
  refine ⟨a0, s, v5, a3, a4, m, _, ?_, okS_wf e1w, g2.trans (List.getElem?_eq_getElem (by omega))⟩
  simp [reA, e0, e1, e3, e4]
theorem argR_of : ∀ (d fuel : Nat) (cs : List Value) (x : DataW H × List MemPlace), DataW.trod enc Tryz.prog W base (fun _ => true) true fuel 27 cs = some x → ArgR W d cs := by
  intro d
  induction d with
  | zero =>
    intro fuel cs x h
    obtain ⟨k, s, v, mn, mx, m, y, rfl, hok, h2⟩ := re_open h
    rcases Go.Deep.open_slice Tryz.underlying25 h2 with ⟨hcs, _⟩ | ⟨a, l, c, _, _, _, _, hcs, _⟩
    · simp at hcs; subst hcs; exact ⟨k, s, none, 0, 0, mn, mx, rfl, hok⟩
    · simp at hcs; subst hcs; exact ⟨k, s, some a, l, c, mn, mx, rfl, hok⟩
  | succ d ih =>
    intro fuel cs x h
    obtain ⟨k, s, v, mn, mx, m, y, rfl, hok, h2⟩ := re_open h
    rcases Go.Deep.open_slice Tryz.underlying25 h2 with ⟨hcs, _⟩ | ⟨a, l, c, mm, n, D, Pl, hcs, _, hl, hm, hmm, _, hx⟩
    · simp at hcs; subst hcs; exact ⟨k, s, none, 0, 0, mn, mx, rfl, hok, Nat.zero_le _, fun h => by omega⟩
    · simp at hcs
      subst hcs
      simp at hmm
      refine ⟨k, s, some a, l, c, mn, mx, rfl, hok, by omega, fun hp => ?_⟩
      have key : ∀ i, i < l → ∃ cs', cs'.length = 8 ∧ (∀ j u, cs'[j]? = some u → W.cell? (a.add (i * 8 + j)) = some u) ∧ ArgR W d cs' := by
        intro i hi
        obtain ⟨cs', h1, h2⟩ := hx i (by omega)
        rw [cells27] at h1
        obtain ⟨_, hlen, hcell⟩ := World.cells?_some h1
        refine ⟨cs', hlen, fun j u hj => ?_, ih _ _ _ h2⟩
        have hj' := (List.getElem?_eq_some_iff.1 hj).1
        have := hcell j (by omega)
        rw [Go.Deep.add_add] at this
        rw [this]
        exact hj
      obtain ⟨b, off, spot⟩ := a
      obtain ⟨cs0, hl0, hc0, _⟩ := key 0 hp
      obtain ⟨u0, hu0⟩ : ∃ u, cs0[0]? = some u := ⟨_, List.getElem?_eq_getElem (by omega)⟩
      have hc := hc0 0 u0 hu0
      have hspot : spot = none := by simpa [Addr.add] using World.cell?_spot hc
      subst hspot
      refine ⟨b, off, rfl, ?_, fun i hi => ?_⟩
      · have := World.block_lt_of_cell? W _ hc
        rwa [add_plain] at this
      · obtain ⟨cs', h1, h2, h3⟩ := key i hi
        refine ⟨cs', h1, fun j u hj => ?_, h3⟩
        have := h2 j u hj
        rwa [add_plain, ← Nat.add_assoc] at this
set_option maxRecDepth 100000 in
theorem came_re {v : Value} {b2 : Nat} {d : DataW H} {p : List MemPlace} (hv : Value.okWide Tryz.prog W .any b2 27 v) (h : DataW.Trod enc Tryz.prog W base (fun _ => true) true 27 v d p) : ∃ cs : Array Value, v = .agg cs ∧ ∀ d, ArgR W d cs.toList := by
  obtain ⟨cs, rfl, hs⟩ := okWide_struct Tryz.underlying27 hv
  obtain ⟨fuel, h⟩ := h
  exact ⟨cs, rfl, fun d => argR_of d fuel _ _ h⟩
theorem ins_open {fuel : Nat} {cs : List Value} {x : DataW H × List MemPlace} (h : DataW.trod enc Tryz.prog W base (fun _ => true) true fuel 102 cs = some x) : ∃ i : Ins, cs = (insA i).toList ∧ (∀ z ∈ [i.s.a, i.s.b, i.s.c, i.s.d], (Lit.int .u64 z).wf = true) := by
  obtain ⟨xs, m, rfl, _, hl, hxl, hf⟩ := DataW.trod_struct Tryz.underlying102 h
  rw [cells45] at hl
  obtain ⟨v0, v1, v2, v3, v4, v5, v6, rfl⟩ := seven hl
  have hxl' : xs.length = 4 := hxl
  have g0 := hf 0 { name := "Op", type := 3, offset := 0, embedded := false, tag := "", pkgPath := "", byteOffset := 0 } rfl
  have g1 := hf 1 { name := "Set", type := 24, offset := 1, embedded := false, tag := "", pkgPath := "", byteOffset := 8 } rfl
  have g2 := hf 2 { name := "X", type := 3, offset := 5, embedded := false, tag := "", pkgPath := "", byteOffset := 40 } rfl
  have g3 := hf 3 { name := "Y", type := 3, offset := 6, embedded := false, tag := "", pkgPath := "", byteOffset := 48 } rfl
  dsimp only at g0 g1 g2 g3
  rw [cells3] at g0 g2 g3
  rw [cells24] at g1
  obtain ⟨a0, e0, _, f0⟩ := DataW.trod_int Tryz.underlying3 (g0.trans (List.getElem?_eq_getElem (by omega)))
  obtain ⟨s, e1, e1b⟩ := set_open (g1.trans (List.getElem?_eq_getElem (by omega)))
  obtain ⟨a2, e2, _, f2⟩ := DataW.trod_int Tryz.underlying3 (g2.trans (List.getElem?_eq_getElem (by omega)))
  obtain ⟨a3, e3, _, f3⟩ := DataW.trod_int Tryz.underlying3 (g3.trans (List.getElem?_eq_getElem (by omega)))
  simp at e0 e1 e2 e3
  exact ⟨⟨a0, s, a2, a3⟩, by simp [insA, e0, e1, e2, e3], e1b⟩
instance : Inhabited Ins := ⟨ins0⟩
/-- Instructions that came in. -/
structure HasI (w : World) (a : Option Addr) (len cap : Nat) (L : List Ins) : Prop where
  hlen : L.length = len
  le : len ≤ cap
  capb : cap ≤ maxLen
  hs : HsI w (fun k => k < w.heap.size) a L
  wf : ∀ i ∈ L, ∀ z ∈ [i.s.a, i.s.b, i.s.c, i.s.d], (Lit.int .u64 z).wf = true
theorem cell_get {w : World} {b o : Nat} {u : Value} (h : w.cell? ⟨b, o, none⟩ = some u) : ∃ cur t fr, w.heap[b]? = some (.cells cur t fr) ∧ cur[o]? = some u := by
  unfold World.cell? at h
  simp only at h
  split at h
  · rename_i cs t fr hb
    exact ⟨cs, t, fr, hb, by simpa using h⟩
  · simp at h
theorem came_insts {a : Option Addr} {len cap : Nat} {d : DataW H} {p : List MemPlace} (h : DataW.Trod enc Tryz.prog W base (fun _ => true) true 30 (.slice a len cap) d p) : ∃ L, HasI W a len cap L := by
  obtain ⟨fuel, hf⟩ := h
  rcases Go.Deep.open_slice Tryz.underlying30 hf with ⟨hcs, _⟩ | ⟨x, l, c, m, n, D, Pl, hcs, _, hl, hm, hmm, _, hx⟩
  · simp [Value.cells] at hcs
    obtain ⟨rfl, rfl, rfl⟩ := hcs
    exact ⟨[], rfl, Nat.le_refl _, Nat.zero_le _, .inl rfl, fun i hi => by cases hi⟩
  · simp [Value.cells] at hcs
    obtain ⟨rfl, rfl, rfl⟩ := hcs
    simp at hmm
    have key : ∀ i, i < len → ∃ q : Ins, (∀ j u, (insA q)[j]? = some u → W.cell? (x.add (i * 7 + j)) = some u) ∧ (∀ z ∈ [q.s.a, q.s.b, q.s.c, q.s.d], (Lit.int .u64 z).wf = true) := by
      intro i hi
      obtain ⟨cs', h1, h2⟩ := hx i (by omega)
      rw [cells45] at h1
      obtain ⟨_, hlen, hcell⟩ := World.cells?_some h1
      obtain ⟨q, rfl, hwf⟩ := ins_open h2
      refine ⟨q, fun j u hj => ?_, hwf⟩
      have hj2 : (insA q).toList[j]? = some u := by simpa using hj
      have hj' := (List.getElem?_eq_some_iff.1 hj2).1
      have := hcell j (by omega)
      rw [Go.Deep.add_add] at this
      rw [this]
      exact hj2
    obtain ⟨Q, hQ⟩ := Go.Deep.choose_lt (α := Ins) key
    refine ⟨(List.range len).map Q, by simp, hl, hm, ?_, ?_⟩
    · rcases Nat.eq_zero_or_pos len with h0 | hp
      · left; subst h0; rfl
      · right
        obtain ⟨b, off, spot⟩ := x
        have hc := (hQ 0 hp).1 0 _ rfl
        have hspot : spot = none := by simpa [Addr.add] using World.cell?_spot hc
        subst hspot
        rw [add_plain] at hc
        obtain ⟨cur, t, fr, hb, _⟩ := cell_get hc
        refine ⟨b, off, cur, t, fr, rfl, (Array.getElem?_eq_some_iff.1 hb).1, hb, fun k i hk j u hj => ?_⟩
        have hk' : k < len := by have := (List.getElem?_eq_some_iff.1 hk).1; simpa using this
        have : i = Q k := by simpa [hk'] using hk.symm
        subst this
        have := (hQ k hk').1 j u hj
        rw [add_plain, ← Nat.add_assoc, cell_of_row W b _ _ t fr hb] at this
        exact this
    · intro i hi
      obtain ⟨k, hk, rfl⟩ := List.mem_map.1 hi
      exact (hQ k (by simpa using hk)).2
end
end Go.Proofs.YtkfdikpnnkbgaaaGreatDoor
namespace Go.Proofs.YtkfdikpnnkbgaaaGreatDoor
open Go.ChangeShapes Go.WideShapes Go.ChangeAt Go.RowKit Go.Shelf
set_option linter.unusedVariables false
set_option linter.unusedSimpArgs false

set_option maxRecDepth 100000 in
set_option maxHeartbeats 2000000 in
theorem rmatch_bad (ad : Option Addr) (c : Nat) (L : List Ins) (s : ByteArray) (w : World) (hL : HsI w (fun k => k < w.heap.size) ad L) (hm : L.length ≤ maxLen) (hc : chkI L = 110) :
    Calls Tryz.prog 17 #[.slice ad L.length c, .string s] w fun e w' => e = .returned (.tuple #[.bool false, .int .i64 110]) ∧ Below w.heap.size w w' := by
  have H1 := hide (rends_bad ad c L s 0 w hL hm hc)
  clear hL hc
  go_enter Tryz.func17, Tryz.ntmps17
  go_wp2_with fail
  refine H1.out.mono ?_
  rintro e w1 ⟨rfl, B1⟩
  replace B1 := hide B1
  go_wp2_with fail
  go_ret2
  exact ⟨rfl, B1.out⟩
set_option maxRecDepth 100000 in
set_option maxHeartbeats 2000000 in
theorem rmatch0 (ad : Option Addr) (c : Nat) (L : List Ins) (s : ByteArray) (hs : s.size = 0) (w : World) (hL : HsI w (fun k => k < w.heap.size) ad L) (hG : GoL L) (hc : chkI L = 0) (h0 : 0 < L.length) (hlen : L.length ≤ 2048) :
    Calls Tryz.prog 17 #[.slice ad L.length c, .string s] w fun e w' => (∃ x : Bool, e = .returned (.tuple #[.bool x, .int .i64 0])) ∧ Below w.heap.size w w' := by
  have H1 := hide (rends0 ad c L s hs w hL hG hc h0 hlen)
  clear hL hc
  go_enter Tryz.func17, Tryz.ntmps17
  go_wp2_with fail
  refine H1.out.mono ?_
  rintro e w1 ⟨B1, v, rfl, xs, a8, c8, rfl, hl, ho⟩
  replace B1 := hide B1
  rcases xs with _ | ⟨z, xs⟩
  · go_wp2_with fail
    go_ret2
    exact ⟨⟨_, rfl⟩, B1.out⟩
  · obtain rfl : xs = [] := by cases xs with | nil => rfl | cons a b => simp at hl
    obtain ⟨g, cap, e, _, _⟩ := ho.form (by simp)
    cases e
    have hc0 : w1.cell? ⟨g, 0, none⟩ = some (.int .i64 (z : Int)) := by
      have := World.ownsRow.cells ho (g := g) rfl 0 (.int .i64 (z : Int)) (by simp [cellsI])
      exact this
    replace ho := hide ho
    go_wp2_with fail
    go_ret2
    exact ⟨⟨_, rfl⟩, B1.out⟩

theorem asc_ext : ∀ {a b : List Nat}, a.Pairwise (· < ·) → b.Pairwise (· < ·) → (∀ x, x ∈ a ↔ x ∈ b) → a = b
  | [], [], _, _, _ => rfl
  | [], y :: b, _, _, h => absurd ((h y).2 (List.mem_cons_self ..)) (by simp)
  | x :: a, [], _, _, h => absurd ((h x).1 (List.mem_cons_self ..)) (by simp)
  | x :: a, y :: b, ha, hb, h => by
    have ha2 := List.pairwise_cons.1 ha
    have hb2 := List.pairwise_cons.1 hb
    have e : x = y := by
      rcases List.mem_cons.1 ((h x).1 (List.mem_cons_self ..)) with e | e
      · exact e
      · rcases List.mem_cons.1 ((h y).2 (List.mem_cons_self ..)) with f | f
        · exact f.symm
        · have := ha2.1 y f; have := hb2.1 x e; omega
    subst e
    rw [asc_ext ha2.2 hb2.2 (fun z => ⟨fun hz => by
      rcases List.mem_cons.1 ((h z).1 (List.mem_cons_of_mem _ hz)) with e | e
      · have := ha2.1 z hz; omega
      · exact e, fun hz => by
      rcases List.mem_cons.1 ((h z).2 (List.mem_cons_of_mem _ hz)) with e | e
      · have := hb2.1 z hz; omega
      · exact e⟩)]
theorem range_asc (n : Nat) : (List.range n).Pairwise (· < ·) := List.pairwise_lt_range
theorem wl_asc (x : Nat) : (wl x).Pairwise (· < ·) := (range_asc 64).filter _
theorem fromN_asc (W : List Nat) : ∀ c k, (fromN W k c).Pairwise (· < ·)
  | 0, _ => List.Pairwise.nil
  | c + 1, k => by
    rw [fromN, List.pairwise_append]
    refine ⟨?_, fromN_asc W c (k + 1), fun a ha b hb => ?_⟩
    · rw [List.pairwise_map]
      exact (wl_asc _).imp (fun h => by omega)
    · obtain ⟨j, hj, rfl⟩ := List.mem_map.1 ha
      have h1 := ((mem_wl _ _).1 hj).1
      have h2 := ((mem_fromN W b c (k + 1)).1 hb).1
      omega
/-- The numbers below k where a row is true. -/
def idx (B : List Bool) (k : Nat) : List Nat := (List.range k).filter (fun i => B[i]? == some true)
theorem idx_succ (B : List Bool) (k : Nat) : idx B (k + 1) = idx B k ++ (if B[k]? = some true then [k] else []) := by
  unfold idx
  rw [List.range_succ, List.filter_append]
  by_cases h : B[k]? = some true <;> simp [h]
theorem idx_len (B : List Bool) (k : Nat) : (idx B k).length ≤ k := by
  have := List.length_filter_le (fun i => B[i]? == some true) (List.range k)
  rw [List.length_range] at this
  exact this
theorem idx_mems {L : List Ins} {S : Sn} {B : List Bool} {W : List Nat} (hS : Stn L S B) (hW : OkW W) (h : ∀ m, inW W m = true ↔ S m) : idx B L.length = mems W := by
  refine asc_ext ((range_asc _).filter _) (fromN_asc W 32 0) (fun x => ?_)
  rw [mem_mems hW, h, ← hS.2]
  unfold idx
  rw [List.mem_filter, List.mem_range, beq_iff_eq]
  exact ⟨fun h => h.2, fun h => ⟨by rw [← hS.1]; exact (List.getElem?_eq_some_iff.1 h).1, h⟩⟩
set_option maxRecDepth 100000 in
set_option maxHeartbeats 2000000 in
theorem same_none (a1 a2 : Option Addr) (c1 c2 : Nat) (w : World) : Calls Tryz.prog 19 #[.slice a1 0 c1, .slice a2 0 c2] w fun e w' => e = .returned (.bool true) ∧ Below w.heap.size w w' := by
  go_enter Tryz.func19, Tryz.ntmps19
  go_wp2_with fail
  go_loopw [5] (fun v wr => v = .int .i64 0 ∧ wr = w) (fun v _ => 0)
  case atStart => exact ⟨rfl, rfl⟩
  case round =>
    obtain ⟨rfl, rfl⟩ := hrel
    go_wp2_with fail
    go_ret
    exact ⟨rfl, Below.refl _ _⟩
theorem same_own {w : World} {b1 b2 : Nat} {v1 v2 : Value} {M : List Nat} (h1 : w.ownsRow b1 3 1 v1 M.length (cellsI M)) (h2 : w.ownsRow b2 3 1 v2 M.length (cellsI M)) (hl : M.length ≤ 100000) : Calls Tryz.prog 19 #[v1, v2] w fun e w' => e = .returned (.bool true) ∧ Below w.heap.size w w' := by
  rcases Nat.eq_zero_or_pos M.length with h0 | hp
  · rw [h0] at h1 h2
    have f : ∀ {v b}, w.ownsRow b 3 1 v 0 (cellsI M) → ∃ a c, v = .slice a 0 c := fun h => by
      rcases h.2 with ⟨rfl, _⟩ | ⟨g, cap, cur, rfl, _⟩ <;> exact ⟨_, _, rfl⟩
    obtain ⟨a1, c1, rfl⟩ := f h1
    obtain ⟨a2, c2, rfl⟩ := f h2
    exact same_none a1 a2 c1 c2 w
  · obtain ⟨g1, c1, rfl, _, _⟩ := h1.form hp
    obtain ⟨g2, c2, rfl, _, _⟩ := h2.form hp
    refine same_ints M g1 0 c1 g2 0 c2 w (fun i z hz => ?_) (fun i z hz => ?_) hl
    · have := World.ownsRow.cells h1 (g := g1) rfl i (.int .i64 (z : Int)) (by simp [cellsI, hz]); rw [add_plain] at this; exact this
    · have := World.ownsRow.cells h2 (g := g2) rfl i (.int .i64 (z : Int)) (by simp [cellsI, hz]); rw [add_plain] at this; exact this
theorem chk_cases (L : List Ins) : chkI L = 0 ∨ chkI L = 110 := by
  unfold chkI
  split
  · exact .inr rfl
  · split
    · exact .inl rfl
    · exact .inr rfl
theorem chk_out {L : List Ins} (h : chkI L = 0) : 0 < L.length ∧ L.length ≤ 2048 ∧ GoL L := by
  unfold chkI at h
  by_cases h1 : L.length = 0 ∨ 2048 < L.length
  · rw [if_pos h1] at h; cases h
  · rw [if_neg h1] at h
    by_cases h2 : L.all (fun i => fitI i L.length) = true
    · refine ⟨by omega, by omega, fun q hq => ?_⟩
      have hf := List.all_eq_true.1 h2 q hq
      obtain ⟨o, s, x, y⟩ := q
      refine ⟨fun ho => ?_, fun ho => ?_⟩
      · rcases ho with rfl | rfl | rfl
        · rw [fit2] at hf; simp [inB] at hf; exact hf.2.1
        · rw [fit4] at hf; simp [inB] at hf; exact hf.2.1
        · rw [fit1] at hf; simp [inB] at hf; exact hf.1
      · obtain rfl : o = 2 := ho
        rw [fit2] at hf; simp [inB] at hf; exact hf.2.2
    · rw [if_neg h2] at h; cases h
/-- Bytes in memory. -/
structure HasY (w : World) (a : Option Addr) (len cap : Nat) (l : List Int) : Prop where
  le : len ≤ cap
  capb : cap ≤ maxLen
  cells : 0 < len → ∃ b off, a = some ⟨b, off, none⟩ ∧ b < w.heap.size ∧ ∀ i, i < len → w.cell? ⟨b, off + i, none⟩ = some (.int .u8 (l.getD i 0))
  range : ∀ i, i < len → 0 ≤ l.getD i 0 ∧ l.getD i 0 ≤ 255
/-- Bools in memory. -/
structure HasO (w : World) (a : Option Addr) (len cap : Nat) (B : Nat → Bool) : Prop where
  le : len ≤ cap
  capb : cap ≤ maxLen
  cells : 0 < len → ∃ b off, a = some ⟨b, off, none⟩ ∧ b < w.heap.size ∧ ∀ i, i < len → w.cell? ⟨b, off + i, none⟩ = some (.bool (B i))
theorem wf_u8 {a : Int} (h : (Lit.int .u8 a).wf = true) : 0 ≤ a ∧ a ≤ 255 := by
  simp [Lit.wf, IntKind.min, IntKind.max, IntKind.signed, IntKind.bits] at h; omega
theorem came_bytes {H : Type} {enc : TypeId × Value → H} {W : World} {base : Nat} {a : Option Addr} {len cap : Nat} {d : DataW H} {p : List MemPlace} (h : DataW.Trod enc Tryz.prog W base (fun _ => true) true 48 (.slice a len cap) d p) : ∃ l, HasY W a len cap l := by
  obtain ⟨fuel, hf⟩ := h
  rcases open_ints Tryz.underlying48 Tryz.underlying5 (by kernel_rfl) hf with ⟨hcs, _⟩ | ⟨x, l, c, zs, hcs, _, hl, hm, hz, _, hcell, hwz⟩
  · simp [Value.cells] at hcs
    obtain ⟨rfl, rfl, rfl⟩ := hcs
    exact ⟨[], Nat.le_refl _, Nat.zero_le _, fun h => by omega, fun i hi => by omega⟩
  · simp [Value.cells] at hcs
    obtain ⟨rfl, rfl, rfl⟩ := hcs
    simp at hz
    refine ⟨zs.take len, hl, hm, fun hp => ?_, fun i hi => ?_⟩
    · obtain ⟨b, off, spot⟩ := x
      have hc := hcell 0 (by omega)
      have hspot : spot = none := by simpa [Addr.add] using World.cell?_spot hc
      subst hspot
      refine ⟨b, off, rfl, ?_, fun i hi => ?_⟩
      · have := World.block_lt_of_cell? W _ hc
        rwa [add_plain] at this
      · have := hcell i (by omega)
        rw [add_plain] at this
        rw [this]
        simp [List.getD, hi]
    · refine wf_u8 (hwz _ ?_)
      rw [List.getD_eq_getElem?_getD, List.getElem?_take_of_lt hi, List.getElem?_eq_getElem (by omega)]
      exact List.getElem_mem _
theorem came_bools {H : Type} {enc : TypeId × Value → H} {W : World} {base : Nat} {a : Option Addr} {len cap : Nat} {d : DataW H} {p : List MemPlace} (h : DataW.Trod enc Tryz.prog W base (fun _ => true) true 49 (.slice a len cap) d p) : ∃ B, HasO W a len cap B := by
  obtain ⟨fuel, hf⟩ := h
  rcases Deep.open_bools Tryz.underlying49 Tryz.underlying4 (by kernel_rfl) hf with ⟨hcs, _⟩ | ⟨x, l, c, B, hcs, _, hl, hm, _, hcell⟩
  · simp [Value.cells] at hcs
    obtain ⟨rfl, rfl, rfl⟩ := hcs
    exact ⟨fun _ => false, Nat.le_refl _, Nat.zero_le _, fun h => by omega⟩
  · simp [Value.cells] at hcs
    obtain ⟨rfl, rfl, rfl⟩ := hcs
    refine ⟨B, hl, hm, fun hp => ?_⟩
    obtain ⟨b, off, spot⟩ := x
    have hc := hcell 0 (by omega)
    have hspot : spot = none := by simpa [Addr.add] using World.cell?_spot hc
    subst hspot
    refine ⟨b, off, rfl, ?_, fun i hi => ?_⟩
    · have := World.block_lt_of_cell? W _ hc
      rwa [add_plain] at this
    · have := hcell i (by omega)
      rwa [add_plain] at this
/-- The front of a row of instructions. -/
theorem HsI.front {w : World} {Y : Nat → Prop} {a : Option Addr} {L : List Ins} (h : HsI w Y a L) (k : Nat) : HsI w Y a (L.take k) := by
  rcases h with rfl | ⟨b, off, cur, t, fr, e, hy, hb, hc⟩
  · left; simp
  · refine .inr ⟨b, off, cur, t, fr, e, hy, hb, fun i q hq => hc i q ?_⟩
    rw [List.getElem?_take] at hq
    split at hq
    · exact hq
    · cases hq
end Go.Proofs.YtkfdikpnnkbgaaaGreatDoor
namespace Go.Proofs.YtkfdikpnnkbgaaaGreatDoor
open Go.RowKit Go.Shelf
set_option linter.unusedVariables false
set_option linter.unusedSimpArgs false

/-- What holds between rounds: a runner and the reference's row stand at the same. -/
structure FI (w0 : World) (g : Nat) (a' : Option Addr) (c' : Nat) (L : List Ins) (S : Sn) (W : List Nat) (v : Value) (B : List Bool) (w : World) : Prop where
  bel : Below w0.heap.size w0 w
  hg : w0.heap.size ≤ g
  ok : OkW W
  st : ∀ m, inW W m = true ↔ S m
  rn : Rn w g a' L.length c' W
  hs : HsI w (fun k => k < w.heap.size ∧ k ≠ g) a' L
  bo : Bo w v B
  sb : Stn L S B
theorem FI.below {w0 : World} {g : Nat} {a' : Option Addr} {c' : Nat} {L : List Ins} {S : Sn} {W : List Nat} {v : Value} {B : List Bool} {w w' : World} (h : FI w0 g a' c' L S W v B w) (hb : Below w.heap.size w w') : FI w0 g a' c' L S W v B w' :=
  ⟨h.bel.trans (hb.mono h.bel.size), h.hg, h.ok, h.st, h.rn.kept (hb.block g h.rn.lt), h.hs.kept (fun k _ hk => hb.block k hk) (fun k hk h => ⟨by have := hb.size; omega, h.2⟩), h.bo.below hb, h.sb⟩
theorem FI.hin {w0 : World} {g : Nat} {a' : Option Addr} {c' : Nat} {L : List Ins} {S : Sn} {W : List Nat} {v : Value} {B : List Bool} {w : World} (h : FI w0 g a' c' L S W v B w) : ∀ i, inW W i = true → i < L.length := fun i hi => by
  have := (h.sb.2 i).2 ((h.st i).1 hi)
  rw [← h.sb.1]; exact (List.getElem?_eq_some_iff.1 this).1
theorem bo_but {g : Nat} {w w' : World} {v : Value} {B : List Bool} {xs : Array Value} (h : Bo w v B) (hg : w.heap[g]? = some (.cells xs 111 (0, 0))) (hb : But (fun k => k = g) w w') : Bo w' v B := by
  obtain ⟨q, c, cur, t, fr, rfl, h1, rfl, h2⟩ := h
  have hq := (Array.getElem?_eq_some_iff.1 h1).1
  exact ⟨q, c, cur, 4, fr, rfl, (hb.block q hq (fun e => by subst e; rw [hg] at h1; cases h1)).trans h1, rfl, h2⟩
/-- The runner turns; the row is another. -/
theorem FI.turn {w0 : World} {g : Nat} {a' : Option Addr} {c' : Nat} {L : List Ins} {S S' : Sn} {W W' : List Nat} {v v' : Value} {B B' : List Bool} {w w1 w2 : World} (h : FI w0 g a' c' L S W v B w) (hb : But (fun k => k = g) w w1) (hok : OkW W') (hst : ∀ m, inW W' m = true ↔ S' m) (hR : Rn w1 g a' L.length c' W') (hb2 : Below w1.heap.size w1 w2) (hbo : Bo w2 v' B') (hsb : Stn L S' B') : FI w0 g a' c' L S' W' v' B' w2 :=
  have b1 : Below w0.heap.size w0 w1 := h.bel.trans (hb.below (by have := h.bel.size; omega) (fun k e => by have := h.hg; omega))
  ⟨b1.trans (hb2.mono b1.size), h.hg, hok, hst, hR.kept (hb2.block g hR.lt), h.hs.kept (fun k hk hl => (hb2.block k (by have := hb.size; omega)).trans (hb.block k hl hk.2)) (fun k hk hh => ⟨by have := hb.size; have := hb2.size; omega, hh.2⟩), hbo, hsb⟩
theorem mems_nil {W : List Nat} (hW : OkW W) : W = noW ↔ mems W = [] := by
  rw [← mems_none hW]
  constructor
  · intro h
    apply List.eq_nil_iff_forall_not_mem.2
    intro x hx
    rw [mem_mems hW, h x] at hx
    cases hx
  · intro h n
    cases e : inW W n with
    | false => rfl
    | true => have := (mem_mems hW n).2 e; rw [h] at this; cases this
theorem nxt_none {L : List Ins} {S : Sn} {b : Nat} (h : ∀ m, ¬ S m) (m : Nat) : ¬ nxt L S b m := fun ⟨i, _, hi, _⟩ => h i hi
/-- A set's numbers, and whether there is none. -/
theorem dead_idx {L : List Ins} {S : Sn} {B : List Bool} {W : List Nat} (hS : Stn L S B) (hW : OkW W) (h : ∀ m, inW W m = true ↔ S m) : (((idx B L.length).length : Int) == 0) = decide (W = noW) := by
  rw [idx_mems hS hW h]
  by_cases e : W = noW
  · rw [decide_eq_true e, (mems_nil hW).1 e]; rfl
  · rw [decide_eq_false e, beq_eq_false_iff_ne]
    intro hl
    exact e ((mems_nil hW).2 (List.eq_nil_of_length_eq_zero (by omega)))
theorem byte_of {z : Int} (h : 0 ≤ z ∧ z ≤ 255) : ∃ b : Nat, b < 256 ∧ z = (b : Int) := ⟨z.toNat, by omega, by omega⟩

set_option maxRecDepth 100000 in
set_option maxHeartbeats 8000000 in
theorem feeds_big (a0 : Option Addr) (len0 cap0 : Nat) (L0 : List Ins) (a1 : Option Addr) (len1 cap1 : Nat) (l1 : List Int) (a2 : Option Addr) (len2 cap2 : Nat) (B2 : Nat → Bool) (w : World) (hT : Tab w) (h0 : HasI w a0 len0 cap0 L0) (h1 : HasY w a1 len1 cap1 l1) (h2 : HasO w a2 len2 cap2 B2) (hbig : 150 < len0) :
    Calls Tryz.prog 5 #[.slice a0 len0 cap0, .slice a1 len1 cap1, .slice a2 len2 cap2] w fun e w' => e = .returned (.bool true) ∧ Below w.heap.size w w' := by
  have hle := h0.le
  have hlen := h0.hlen
  have i1 : (150 : Int) < (len0 : Int) := by omega
  have i2 : (150 : Int) ≤ (cap0 : Int) := by omega
  obtain ⟨L, hLd⟩ : ∃ L, L0.take 150 = L := ⟨_, rfl⟩
  have hln : L.length = 150 := by rw [← hLd, List.length_take]; omega
  have hL : HsI w (fun k => k < w.heap.size) a0 L := by rw [← hLd]; exact h0.hs.front 150
  have hok : ∀ q ∈ L, OkS q.s := fun q hq => okS_wf (h0.wf q (by rw [← hLd] at hq; exact List.mem_of_mem_take hq))
  obtain ⟨n, hn⟩ : ∃ n : Nat, n = 150 := ⟨_, rfl⟩
  have hLn : L.length = n := by omega
  have hn150 : n ≤ 150 := by omega
  obtain ⟨b0, off0, rfl⟩ : ∃ b off, a0 = some ⟨b, off, none⟩ := by
    rcases h0.hs with h | ⟨b, off, _, _, _, e, _⟩
    · rw [h] at hlen; simp at hlen; omega
    · exact ⟨b, off, e⟩
  clear h0 hLd hle hlen
  have hY := hide h1
  have hO := hide h2
  clear h1 h2
  replace hT := hide hT
  replace hok := hide hok
  replace hL := hide hL
  rcases chk_cases L with hc | hc
  · obtain ⟨hpos, _, hG⟩ := chk_out hc
    have hN := hide (fun W (b : Below w.heap.size w W) => new_any (some ⟨b0, off0, none⟩) cap0 L W (hL.out.kept (fun k _ hk => b.block k hk) (fun k hk h => by have := b.size; omega)) hc hG hpos (by omega))
    have hM := hide (fun W (b : Below w.heap.size w W) => rmatch0 (some ⟨b0, off0, none⟩) cap0 L ⟨#[]⟩ rfl W (hL.out.kept (fun k _ hk => b.block k hk) (fun k hk h => by have := b.size; omega)) hG hc hpos (by omega))
    have hBg := hide (fun W (b : Below w.heap.size w W) => rbegin_any (some ⟨b0, off0, none⟩) cap0 L W (hL.out.kept (fun k _ hk => b.block k hk) (fun k hk h => by have := b.size; omega)) hG hpos (by omega))
    have hA := hide (fun (S : Sn) (B : List Bool) (v : Value) W (b : Below w.heap.size w W) (hv : Bo W v B) (hS : Stn L S B) => racc_any (some ⟨b0, off0, none⟩) cap0 L S B v W (hL.out.kept (fun k _ hk => b.block k hk) (fun k hk h => by have := b.size; omega)) hv hS hpos (by omega))
    have hSt := hide (fun (S : Sn) (B : List Bool) (v : Value) (x : Nat) (hx : x < 256) W (b : Below w.heap.size w W) (hv : Bo W v B) (hS : Stn L S B) => rstep_any (some ⟨b0, off0, none⟩) cap0 L S B v x hx W (hL.out.kept (fun k _ hk => b.block k hk) (fun k hk h => by have := b.size; omega)) hG hok.out hv hS hpos (by omega))
    rw [hln] at hN hM hBg hA hSt
    replace hG := hide hG
    replace hpos := hide hpos
    have hLH : Hid (L.length = 150) := hln
    clear hc hL hLn
    go_enter Tryz.func5, Tryz.ntmps5
    go_wp2_with fail
    refine (hN.out _ (Below.refl _ _)).mono ?_
    rintro e w1 ⟨g, a', c', W0, rfl, hg, B1, hW0, hst0, hR0, hs0⟩
    have hb1 := hide B1
    replace hW0 := hide hW0
    replace hst0 := hide hst0
    replace hR0 := hide hR0
    replace hs0 := hide hs0
    clear B1
    go_wp2_with fail
    refine (hM.out _ hb1.out).mono ?_
    rintro e w2 ⟨⟨x, rfl⟩, B2'⟩
    have hb2 := hide (hb1.out.trans (B2'.mono hb1.out.size))
    replace B2' := hide B2'
    go_wp2_with fail
    refine (hBg.out _ hb2.out).mono ?_
    rintro e w3 ⟨B3, vB, BB, rfl, hBo, hSn⟩
    have s1 := hb1.out.size
    have s2 := B2'.out.size
    have F0 : Hid (FI w g a' c' L (Eps L 0) W0 vB BB w3) := by
      have b12 : Below w1.heap.size w1 w3 := B2'.out.trans (B3.mono s2)
      refine ⟨hb2.out.trans (B3.mono (by have := hb2.out.size; omega)), hg, hW0.out, hst0.out, (by rw [hLH.out]; exact hR0.out.kept (b12.block g hR0.out.lt)), hs0.out.kept (fun k _ hk => b12.block k hk) (fun k hk h => ⟨by have := b12.size; omega, h.2⟩), hBo, hSn⟩
    clear hb1 hb2 B2' B3 hBo hSn hW0 hst0 hR0 hs0 hg s1 s2 hN hM
    go_wp2_with fail
    go_loopw [11, 12] (fun vb iv wr => ∃ (k : Nat) (S : Sn) (W : List Nat) (BB : List Bool), iv = .int .i64 (k : Int) ∧ k ≤ 40 ∧ Hid (FI w g a' c' L S W vb BB wr)) (fun _ v _ => 40 - (RowKit.intOf v).toNat)
    case atStart => exact ⟨0, _, W0, BB, rfl, by omega, F0⟩
    case round =>
      obtain ⟨k, S, W, BB, rfl, hk, hF⟩ := hrel
      clear F0
      generalize wr = wo at *
      have hTk := hide (hT.out.below hF.out.bel)
      by_cases hk1 : k ≤ len1
      · have j1 : (k : Int) ≤ (len1 : Int) := by omega
        by_cases hk2 : k < 40
        · have j2 : (k : Int) < 40 := by omega
          obtain ⟨gq, cq, curq, tq, frq, rfl, hgq, rfl, hcq⟩ := hF.out.bo
          have hBB : BB.length = 150 := hF.out.sb.1.trans hLH.out
          have hgql := (Array.getElem?_eq_some_iff.1 hgq).1
          have cells4 : Hid (∀ W', Below wo.heap.size wo W' → ∀ (i : Nat) (x : Bool), BB[i]? = some x → W'.cell? ⟨gq, i, none⟩ = some (.bool x)) := fun W' b i x hi => by
            rw [cell_of_row W' gq _ _ 4 frq ((b.block gq hgql).trans hgq)]; exact hcq i x hi
          have hBBh := hide hBB
          clear hgq hcq hgql hBB
          have hal := hide ((Below.refl wo.heap.size wo).alloc (Nat.le_refl _) (.cells #[] 3))
          have O0 := hide (zeros_own wo)
          go_wp2_with fail
          go_loopw [13, 14] (fun v iv W4 => ∃ (j m : Nat) (ad : Option Addr) (c : Nat), v = .slice ad m c ∧ iv = .int .i64 (j : Int) ∧ j ≤ 150 ∧ Hid (m = (idx BB j).length) ∧ Hid (W4.ownsRow wo.heap.size 3 1 (.slice ad m c) m (cellsI (idx BB j))) ∧ Hid (Below wo.heap.size wo W4)) (fun _ v _ => 150 - (RowKit.intOf v).toNat)
          case atStart => exact ⟨0, 0, _, _, rfl, rfl, Nat.zero_le _, rfl, O0, hal⟩
          case round =>
            obtain ⟨j, m, ad, c, rfl, rfl, hj, hm, hO4, hB4⟩ := hrel
            clear O0 hal
            by_cases hjn : j < 150
            · have j3 : (j : Int) < (150 : Int) := by omega
              have j4 : (j : Int) < (BB.length : Int) := by rw [hBBh.out]; omega
              obtain ⟨bj, hbj⟩ : ∃ bj, BB[j]? = some bj := ⟨_, List.getElem?_eq_getElem (by rw [hBBh.out]; exact hjn)⟩
              have cj := cells4.out _ hB4.out j bj hbj
              have hsucc := idx_succ BB j
              rw [hbj] at hsucc
              replace hsucc := hide hsucc
              clear hbj
              cases bj with
              | false =>
                have e5 : Hid (idx BB (j + 1) = idx BB j) := by show _ = _; have := hsucc.out; simpa using this
                have hm5 : Hid (m = (idx BB (j + 1)).length) := by rw [e5.out]; exact hm.out
                have hO5 : Hid (World.ownsRow wr wo.heap.size 3 1 (.slice ad m c) m (cellsI (idx BB (j + 1)))) := by rw [e5.out]; exact hO4.out
                go_wp2_with fail
                go_roundw
                case rel => exact ⟨j + 1, m, ad, c, rfl, by go_num, by omega, hm5, hO5, hB4⟩
                case measure => simp [RowKit.intOf]; omega
              | true =>
                have e5 : Hid (idx BB (j + 1) = idx BB j ++ [j]) := by show _ = _; have := hsucc.out; simpa using this
                have hal4 : Below wr.heap.size wr (wr.alloc (.cells #[.int .i64 (j : Int)] 3)) := (Below.refl _ wr).alloc (Nat.le_refl _) _
                have hO5 : Hid ((wr.alloc (.cells #[.int .i64 (j : Int)] 3)).ownsRow wo.heap.size 3 1 (.slice ad m c) m (cellsI (idx BB j))) := owns_of_block hO4.out (fun k hk => hal4.block k (World.ownsRow.lt hO4.out k hk).2)
                have hcc : Hid (∀ (i : Nat) (u : Value), [Value.int .i64 (j : Int)][i]? = some u → (wr.alloc (.cells #[.int .i64 (j : Int)] 3)).cell? ((⟨wr.heap.size, 0, none⟩ : Addr).add i) = some u) := fun i u hi => by
                  rw [add_plain, Nat.zero_add, cell_of_row _ _ _ _ _ _ (heap_alloc_new wr _)]
                  simpa using hi
                have hone : ∀ u ∈ [Value.int .i64 (j : Int)], u.oneCell' = true := fun u hu => by rw [List.mem_singleton.1 hu]; rfl
                have hb5 := hide (hB4.out.trans (hal4.mono hB4.out.size))
                have hle : wo.heap.size ≤ (wr.alloc (.cells #[.int .i64 (j : Int)] 3)).heap.size := hb5.out.size
                have hmj : m ≤ j := by rw [hm.out]; exact idx_len BB j
                obtain ⟨i0, hi, hz, hsz, hby⟩ := info3
                clear hal4
                go_wp2_with (at_builtin; refine wpList_append_own _ rfl (.tmp 68) (.tmp 70) 54 rfl wo.heap.size 3 i0 (.int .i64 0) 1 8 Tryz.underlying54 hi hz hsz hby rfl (by decide) _ m _ rfl hO5.out ⟨wr.heap.size, 0, none⟩ 1 1 _ rfl rfl hcc.out hone (by unfold maxLen; omega) (by omega) hle ?_; intro v5 w5 h1 h2 h3; clear h3; replace h1 := hide h1; replace h2 := hide h2)
                have h1' : w5.ownsRow wo.heap.size 3 1 v5 (m + 1) (cellsI (idx BB (j + 1))) := by rw [e5.out]; simpa [cellsI] using h1.out
                obtain ⟨g5, c5, rfl, _, _⟩ := h1'.form (by omega)
                have hm5 : Hid (m + 1 = (idx BB (j + 1)).length) := by rw [e5.out, List.length_append, ← hm.out]; rfl
                have hO6 := hide h1'
                have hb6 : Hid (Below wo.heap.size wo w5) := hb5.out.grown h2.out hb5.out.size (fun k hk => (World.ownsRow.lt hO5.out k hk).1)
                clear h1' h1 h2
                go_wp2_with fail
                go_roundw
                case rel => exact ⟨j + 1, m + 1, _, c5, rfl, by go_num, by omega, hm5, hO6, hb6⟩
                case measure => simp [RowKit.intOf]; omega
            · obtain rfl : 150 = j := by omega
              have hFi := hide (hF.out.below hB4.out)
              have hT4 := hide (hTk.out.below hB4.out)
              have posN : Hid (0 < 150) := by show 0 < 150; rw [← hLH.out]; exact hpos.out
              have hidx : idx BB 150 = mems W := by have := idx_mems hF.out.sb hF.out.ok hF.out.st; rw [hLH.out] at this; exact this
              have hml : (mems W).length ≤ 150 := by rw [← hidx]; exact Nat.le_trans (idx_len BB 150) (by omega)
              have em : m = (mems W).length := by rw [← hidx]; exact hm.out
              have hO5 : Hid (wr.ownsRow wo.heap.size 3 1 (.slice ad m c) m (cellsI (mems W))) := by show World.ownsRow _ _ _ _ _ _ _; rw [← hidx]; exact hO4.out
              subst em
              have hAt := hide (at_any g a' 150 c' posN.out W hFi.out.ok wr hT4.out (by rw [← hLH.out]; exact hFi.out.rn) (by omega))
              have hdd : (((mems W).length : Int) == 0) = decide (W = noW) := by have := dead_idx hF.out.sb hF.out.ok hF.out.st; rw [hLH.out, hidx] at this; exact this
              clear hm hO4 hF hTk cells4 hidx hB4 hBBh
              go_wp2_with fail
              refine hAt.out.mono ?_
              rintro e w5 ⟨v5, rfl, ho5, B5⟩
              have hF5 := hide (hFi.out.below B5)
              have hO6 : w5.ownsRow wo.heap.size 3 1 (.slice ad (mems W).length c) (mems W).length (cellsI (mems W)) := owns_of_block hO5.out (fun k hk => B5.block k (World.ownsRow.lt hO5.out k hk).2)
              have hsm := hide (same_own ho5 hO6 (by omega))
              clear B5 ho5 hO6 hO5 hFi hAt
              go_wp2_with fail
              refine hsm.out.mono ?_
              rintro e w6 ⟨rfl, B6⟩
              have hF6 := hide (hF5.out.below B6)
              have hD6 := hide (dead_any g a' 150 c' posN.out W hF6.out.ok w6 (by rw [← hLH.out]; exact hF6.out.rn))
              clear B6 hF5 hsm
              go_wp2_with fail
              refine hD6.out.mono ?_
              rintro e w7 ⟨rfl, rfl⟩
              have hacc := hide (callsIn_wide.1 (acc_in 5 (by omega) g a' c' L W hF6.out.ok w7 hF6.out.rn (hF6.out.hs.kept (fun _ _ _ => rfl) (fun k hk h => h.1)) hF6.out.hin (hT.out.below hF6.out.bel) hpos.out))
              go_wp2_with fail
              refine hacc.out.mono ?_
              rintro e w8 ⟨rfl, B8⟩
              have hF8 := hide (hF6.out.below B8)
              clear B8 hF6 hacc hD6
              go_wp2_with fail
              refine (hA.out S BB _ w8 hF8.out.bel hF8.out.bo hF8.out.sb).mono ?_
              rintro e w9 ⟨B9, x, rfl, hx⟩
              have ex : x = accB L W := by
                rw [Bool.eq_iff_iff, hx, accB_iff hF8.out.ok]
                exact accS_congr (fun m => (hF8.out.st m).symm)
              subst ex
              have hF9 := hide (hF8.out.below B9)
              clear hx B9 hF8
              generalize accB L W = y
              by_cases hr1 : k < len2
              · have j6 : (k : Int) < (len2 : Int) := by omega
                obtain ⟨bO, oO, rfl, hbOl, hcO⟩ := hO.out.cells (by omega)
                have cO := (hF9.out.bel.cell (p := ⟨bO, oO + k, none⟩) hbOl).trans (hcO k hr1)
                clear hcO
                cases hr2 : B2 k with
                | true =>
                  rw [hr2] at cO
                  have hRs := hide (reset_any g a' c' L W hF9.out.ok w9 hF9.out.rn hF9.out.hs hG.out hpos.out (by rw [hLH.out]; omega))
                  go_wp2_with fail
                  refine hRs.out.mono ?_
                  rintro e wA ⟨rfl, hbutA, WA, hWA, hstA, hRA⟩
                  have bA : Below w.heap.size w wA := hF9.out.bel.trans (hbutA.below (by have := hF9.out.bel.size; omega) (fun k e => by have := hF9.out.hg; omega))
                  have hBgA := hide (hBg.out wA bA)
                  replace hbutA := hide hbutA
                  replace hstA := hide hstA
                  replace hRA := hide hRA
                  replace bA := hide bA
                  go_wp2_with fail
                  refine hBgA.out.mono ?_
                  rintro e wB ⟨Bb, vB', BB', rfl, hBo', hSn'⟩
                  have hFB := hide (hF9.out.turn hbutA.out hWA hstA.out hRA.out Bb hBo' hSn')
                  clear Bb hBo' hSn' hbutA hstA hRA bA hBgA hRs cO hF9
                  by_cases hk3 : k < len1
                  · have j5 : (k : Int) < (len1 : Int) := by omega
                    obtain ⟨bY, oY, rfl, hbYl, hcY⟩ := hY.out.cells (by omega)
                    obtain ⟨z, hz, ez⟩ := byte_of (hY.out.range k hk3)
                    have cY0 : Hid (w.cell? ⟨bY, oY + k, none⟩ = some (.int .u8 (z : Int))) := by
                      show _ = _
                      rw [hcY k hk3, ez]
                    have hDx := hide (dead_any g a' 150 c' posN.out WA hFB.out.ok wB (by rw [← hLH.out]; exact hFB.out.rn))
                    have cY := (hFB.out.bel.cell (p := ⟨bY, oY + k, none⟩) hbYl).trans cY0.out
                    have TX := hide (hT.out.below hFB.out.bel)
                    clear hcY ez
                    go_wp2_with fail
                    refine hDx.out.mono ?_
                    rintro e wy ⟨rfl, rfl⟩
                    have hFd := hide (callsIn_wide.1 (feed_in 5 (by omega) g a' c' L WA hFB.out.ok z hz wy hFB.out.rn hFB.out.hs hFB.out.hin TX.out hpos.out (by rw [hLH.out]; omega) hG.out hok.out))
                    go_wp2_with fail
                    refine hFd.out.mono ?_
                    rintro e wz ⟨V, rfl, hV, hVst, hRV, hbut⟩
                    have bz : Below w.heap.size w wz := hFB.out.bel.trans (hbut.below (by have := hFB.out.bel.size; omega) (fun k e => by have := hFB.out.hg; omega))
                    have cYz := (bz.cell (p := ⟨bY, oY + k, none⟩) hbYl).trans cY0.out
                    have hS2 := hide (hSt.out (Eps L 0) BB' _ z hz wz bz (bo_but hFB.out.bo hFB.out.rn hbut) hFB.out.sb)
                    have hdd2 : WA = noW → V = noW := fun e => by
                      rw [← mems_none hV]
                      intro m
                      cases em : inW V m with
                      | false => rfl
                      | true =>
                        obtain ⟨i, _, hi, _⟩ := (hVst m).1 em
                        unfold snW at hi
                        rw [e, inW_no] at hi
                        cases hi
                    replace hVst := hide hVst
                    replace hbut := hide hbut
                    replace hRV := hide hRV
                    replace bz := hide bz
                    clear cY
                    go_wp2_with fail
                    refine hS2.out.mono ?_
                    rintro e wu ⟨Bu, vU, BU, rfl, hBoU, hSnU⟩
                    have hFU := hide (hFB.out.turn hbut.out hV (fun m => (hVst.out m).trans (nxt_congr (fun m => hFB.out.st m) z m)) hRV.out Bu hBoU hSnU)
                    have hDU := hide (dead_any g a' 150 c' posN.out V hV wu (by rw [← hLH.out]; exact hFU.out.rn))
                    clear hBoU hSnU Bu hS2 hFd hDx cYz
                    by_cases e1 : WA = noW
                    · have e2 := hdd2 e1
                      rw [decide_eq_true e2] at hDU
                      rw [decide_eq_true e1, decide_eq_true e2]
                      replace e1 := hide e1
                      replace e2 := hide e2
                      go_wp2_with fail
                      refine hDU.out.mono ?_
                      rintro e wv ⟨rfl, rfl⟩
                      go_wp2_with fail
                      go_roundw
                      case rel => exact ⟨k + 1, _, V, BU, by go_num, by omega, hFU⟩
                      case measure => simp [RowKit.intOf]; omega
                    · rw [decide_eq_false e1]
                      replace e1 := hide e1
                      by_cases e2 : V = noW
                      · rw [decide_eq_true e2] at hDU
                        rw [decide_eq_true e2]
                        replace e2 := hide e2
                        go_wp2_with fail
                        refine hDU.out.mono ?_
                        rintro e wv ⟨rfl, rfl⟩
                        go_wp2_with fail
                        go_roundw
                        case rel => exact ⟨k + 1, _, V, BU, by go_num, by omega, hFU⟩
                        case measure => simp [RowKit.intOf]; omega
                      · rw [decide_eq_false e2] at hDU
                        rw [decide_eq_false e2]
                        replace e2 := hide e2
                        go_wp2_with fail
                        refine hDU.out.mono ?_
                        rintro e wv ⟨rfl, rfl⟩
                        go_wp2_with fail
                        go_roundw
                        case rel => exact ⟨k + 1, _, V, BU, by go_num, by omega, hFU⟩
                        case measure => simp [RowKit.intOf]; omega
                  · have j5 : ¬ ((k : Int) < (len1 : Int)) := by omega
                    go_wp2_with fail
                    go_roundw
                    case rel => exact ⟨k + 1, (Eps L 0), WA, BB', by go_num, by omega, hFB⟩
                    case measure => simp [RowKit.intOf]; omega
                | false =>
                  rw [hr2] at cO
                  by_cases hk3 : k < len1
                  · have j5 : (k : Int) < (len1 : Int) := by omega
                    obtain ⟨bY, oY, rfl, hbYl, hcY⟩ := hY.out.cells (by omega)
                    obtain ⟨z, hz, ez⟩ := byte_of (hY.out.range k hk3)
                    have cY0 : Hid (w.cell? ⟨bY, oY + k, none⟩ = some (.int .u8 (z : Int))) := by
                      show _ = _
                      rw [hcY k hk3, ez]
                    have hDx := hide (dead_any g a' 150 c' posN.out W hF9.out.ok w9 (by rw [← hLH.out]; exact hF9.out.rn))
                    have cY := (hF9.out.bel.cell (p := ⟨bY, oY + k, none⟩) hbYl).trans cY0.out
                    have TX := hide (hT.out.below hF9.out.bel)
                    clear hcY ez
                    go_wp2_with fail
                    refine hDx.out.mono ?_
                    rintro e wy ⟨rfl, rfl⟩
                    have hFd := hide (callsIn_wide.1 (feed_in 5 (by omega) g a' c' L W hF9.out.ok z hz wy hF9.out.rn hF9.out.hs hF9.out.hin TX.out hpos.out (by rw [hLH.out]; omega) hG.out hok.out))
                    go_wp2_with fail
                    refine hFd.out.mono ?_
                    rintro e wz ⟨V, rfl, hV, hVst, hRV, hbut⟩
                    have bz : Below w.heap.size w wz := hF9.out.bel.trans (hbut.below (by have := hF9.out.bel.size; omega) (fun k e => by have := hF9.out.hg; omega))
                    have cYz := (bz.cell (p := ⟨bY, oY + k, none⟩) hbYl).trans cY0.out
                    have hS2 := hide (hSt.out S BB _ z hz wz bz (bo_but hF9.out.bo hF9.out.rn hbut) hF9.out.sb)
                    have hdd2 : W = noW → V = noW := fun e => by
                      rw [← mems_none hV]
                      intro m
                      cases em : inW V m with
                      | false => rfl
                      | true =>
                        obtain ⟨i, _, hi, _⟩ := (hVst m).1 em
                        unfold snW at hi
                        rw [e, inW_no] at hi
                        cases hi
                    replace hVst := hide hVst
                    replace hbut := hide hbut
                    replace hRV := hide hRV
                    replace bz := hide bz
                    clear cY
                    go_wp2_with fail
                    refine hS2.out.mono ?_
                    rintro e wu ⟨Bu, vU, BU, rfl, hBoU, hSnU⟩
                    have hFU := hide (hF9.out.turn hbut.out hV (fun m => (hVst.out m).trans (nxt_congr (fun m => hF9.out.st m) z m)) hRV.out Bu hBoU hSnU)
                    have hDU := hide (dead_any g a' 150 c' posN.out V hV wu (by rw [← hLH.out]; exact hFU.out.rn))
                    clear hBoU hSnU Bu hS2 hFd hDx cYz
                    by_cases e1 : W = noW
                    · have e2 := hdd2 e1
                      rw [decide_eq_true e2] at hDU
                      rw [decide_eq_true e1, decide_eq_true e2]
                      replace e1 := hide e1
                      replace e2 := hide e2
                      go_wp2_with fail
                      refine hDU.out.mono ?_
                      rintro e wv ⟨rfl, rfl⟩
                      go_wp2_with fail
                      go_roundw
                      case rel => exact ⟨k + 1, _, V, BU, by go_num, by omega, hFU⟩
                      case measure => simp [RowKit.intOf]; omega
                    · rw [decide_eq_false e1]
                      replace e1 := hide e1
                      by_cases e2 : V = noW
                      · rw [decide_eq_true e2] at hDU
                        rw [decide_eq_true e2]
                        replace e2 := hide e2
                        go_wp2_with fail
                        refine hDU.out.mono ?_
                        rintro e wv ⟨rfl, rfl⟩
                        go_wp2_with fail
                        go_roundw
                        case rel => exact ⟨k + 1, _, V, BU, by go_num, by omega, hFU⟩
                        case measure => simp [RowKit.intOf]; omega
                      · rw [decide_eq_false e2] at hDU
                        rw [decide_eq_false e2]
                        replace e2 := hide e2
                        go_wp2_with fail
                        refine hDU.out.mono ?_
                        rintro e wv ⟨rfl, rfl⟩
                        go_wp2_with fail
                        go_roundw
                        case rel => exact ⟨k + 1, _, V, BU, by go_num, by omega, hFU⟩
                        case measure => simp [RowKit.intOf]; omega
                  · have j5 : ¬ ((k : Int) < (len1 : Int)) := by omega
                    go_wp2_with fail
                    go_roundw
                    case rel => exact ⟨k + 1, S, W, BB, by go_num, by omega, hF9⟩
                    case measure => simp [RowKit.intOf]; omega
              · have j6 : ¬ ((k : Int) < (len2 : Int)) := by omega
                by_cases hk3 : k < len1
                · have j5 : (k : Int) < (len1 : Int) := by omega
                  obtain ⟨bY, oY, rfl, hbYl, hcY⟩ := hY.out.cells (by omega)
                  obtain ⟨z, hz, ez⟩ := byte_of (hY.out.range k hk3)
                  have cY0 : Hid (w.cell? ⟨bY, oY + k, none⟩ = some (.int .u8 (z : Int))) := by
                    show _ = _
                    rw [hcY k hk3, ez]
                  have hDx := hide (dead_any g a' 150 c' posN.out W hF9.out.ok w9 (by rw [← hLH.out]; exact hF9.out.rn))
                  have cY := (hF9.out.bel.cell (p := ⟨bY, oY + k, none⟩) hbYl).trans cY0.out
                  have TX := hide (hT.out.below hF9.out.bel)
                  clear hcY ez
                  go_wp2_with fail
                  refine hDx.out.mono ?_
                  rintro e wy ⟨rfl, rfl⟩
                  have hFd := hide (callsIn_wide.1 (feed_in 5 (by omega) g a' c' L W hF9.out.ok z hz wy hF9.out.rn hF9.out.hs hF9.out.hin TX.out hpos.out (by rw [hLH.out]; omega) hG.out hok.out))
                  go_wp2_with fail
                  refine hFd.out.mono ?_
                  rintro e wz ⟨V, rfl, hV, hVst, hRV, hbut⟩
                  have bz : Below w.heap.size w wz := hF9.out.bel.trans (hbut.below (by have := hF9.out.bel.size; omega) (fun k e => by have := hF9.out.hg; omega))
                  have cYz := (bz.cell (p := ⟨bY, oY + k, none⟩) hbYl).trans cY0.out
                  have hS2 := hide (hSt.out S BB _ z hz wz bz (bo_but hF9.out.bo hF9.out.rn hbut) hF9.out.sb)
                  have hdd2 : W = noW → V = noW := fun e => by
                    rw [← mems_none hV]
                    intro m
                    cases em : inW V m with
                    | false => rfl
                    | true =>
                      obtain ⟨i, _, hi, _⟩ := (hVst m).1 em
                      unfold snW at hi
                      rw [e, inW_no] at hi
                      cases hi
                  replace hVst := hide hVst
                  replace hbut := hide hbut
                  replace hRV := hide hRV
                  replace bz := hide bz
                  clear cY
                  go_wp2_with fail
                  refine hS2.out.mono ?_
                  rintro e wu ⟨Bu, vU, BU, rfl, hBoU, hSnU⟩
                  have hFU := hide (hF9.out.turn hbut.out hV (fun m => (hVst.out m).trans (nxt_congr (fun m => hF9.out.st m) z m)) hRV.out Bu hBoU hSnU)
                  have hDU := hide (dead_any g a' 150 c' posN.out V hV wu (by rw [← hLH.out]; exact hFU.out.rn))
                  clear hBoU hSnU Bu hS2 hFd hDx cYz
                  by_cases e1 : W = noW
                  · have e2 := hdd2 e1
                    rw [decide_eq_true e2] at hDU
                    rw [decide_eq_true e1, decide_eq_true e2]
                    replace e1 := hide e1
                    replace e2 := hide e2
                    go_wp2_with fail
                    refine hDU.out.mono ?_
                    rintro e wv ⟨rfl, rfl⟩
                    go_wp2_with fail
                    go_roundw
                    case rel => exact ⟨k + 1, _, V, BU, by go_num, by omega, hFU⟩
                    case measure => simp [RowKit.intOf]; omega
                  · rw [decide_eq_false e1]
                    replace e1 := hide e1
                    by_cases e2 : V = noW
                    · rw [decide_eq_true e2] at hDU
                      rw [decide_eq_true e2]
                      replace e2 := hide e2
                      go_wp2_with fail
                      refine hDU.out.mono ?_
                      rintro e wv ⟨rfl, rfl⟩
                      go_wp2_with fail
                      go_roundw
                      case rel => exact ⟨k + 1, _, V, BU, by go_num, by omega, hFU⟩
                      case measure => simp [RowKit.intOf]; omega
                    · rw [decide_eq_false e2] at hDU
                      rw [decide_eq_false e2]
                      replace e2 := hide e2
                      go_wp2_with fail
                      refine hDU.out.mono ?_
                      rintro e wv ⟨rfl, rfl⟩
                      go_wp2_with fail
                      go_roundw
                      case rel => exact ⟨k + 1, _, V, BU, by go_num, by omega, hFU⟩
                      case measure => simp [RowKit.intOf]; omega
                · have j5 : ¬ ((k : Int) < (len1 : Int)) := by omega
                  go_wp2_with fail
                  go_roundw
                  case rel => exact ⟨k + 1, S, W, BB, by go_num, by omega, hF9⟩
                  case measure => simp [RowKit.intOf]; omega
        · have j2 : ¬ ((k : Int) < 40) := by omega
          go_wp2_with fail
          refine (works_any _ hTk.out).mono ?_
          rintro e w5 ⟨rfl, B5⟩
          have hb5 := hide (hF.out.bel.trans (B5.mono hF.out.bel.size))
          clear B5
          go_wp2_with fail
          go_ret
          exact ⟨rfl, hb5.out⟩
      · have j1 : ¬ ((k : Int) ≤ (len1 : Int)) := by omega
        go_wp2_with fail
        refine (works_any _ hTk.out).mono ?_
        rintro e w5 ⟨rfl, B5⟩
        have hb5 := hide (hF.out.bel.trans (B5.mono hF.out.bel.size))
        clear B5
        go_wp2_with fail
        go_ret
        exact ⟨rfl, hb5.out⟩
  · have hN := hide (fun W (b : Below w.heap.size w W) => new_bad (some ⟨b0, off0, none⟩) cap0 L W (hL.out.kept (fun k _ hk => b.block k hk) (fun k hk h => by have := b.size; omega)) hc)
    have hM := hide (fun W (b : Below w.heap.size w W) => rmatch_bad (some ⟨b0, off0, none⟩) cap0 L ⟨#[]⟩ W (hL.out.kept (fun k _ hk => b.block k hk) (fun k hk h => by have := b.size; omega)) (by unfold maxLen; omega) hc)
    rw [hln] at hN hM
    clear hc hL hLn
    go_enter Tryz.func5, Tryz.ntmps5
    go_wp2_with fail
    refine (hN.out _ (Below.refl _ _)).mono ?_
    rintro e w1 ⟨rfl, B1⟩
    have hb1 := hide B1
    clear B1
    go_wp2_with fail
    refine (hM.out _ hb1.out).mono ?_
    rintro e w2 ⟨rfl, B2'⟩
    have hb2 := hide (hb1.out.trans (B2'.mono hb1.out.size))
    have hT2 := hide (hT.out.below hb2.out)
    clear B2' hb1
    go_wp2_with fail
    refine (works_any _ hT2.out).mono ?_
    rintro e w5 ⟨rfl, B5⟩
    have hb5 := hide (hb2.out.trans (B5.mono hb2.out.size))
    clear B5
    go_wp2_with fail
    go_ret
    exact ⟨rfl, hb5.out⟩
end Go.Proofs.YtkfdikpnnkbgaaaGreatDoor
namespace Go.Proofs.YtkfdikpnnkbgaaaGreatDoor
open Go.RowKit Go.Shelf
set_option linter.unusedVariables false
set_option linter.unusedSimpArgs false

set_option maxRecDepth 100000 in
set_option maxHeartbeats 8000000 in
theorem feeds_small (a0 : Option Addr) (len0 cap0 : Nat) (L0 : List Ins) (a1 : Option Addr) (len1 cap1 : Nat) (l1 : List Int) (a2 : Option Addr) (len2 cap2 : Nat) (B2 : Nat → Bool) (w : World) (hT : Tab w) (h0 : HasI w a0 len0 cap0 L0) (h1 : HasY w a1 len1 cap1 l1) (h2 : HasO w a2 len2 cap2 B2) (hbig : len0 ≤ 150) :
    Calls Tryz.prog 5 #[.slice a0 len0 cap0, .slice a1 len1 cap1, .slice a2 len2 cap2] w fun e w' => e = .returned (.bool true) ∧ Below w.heap.size w w' := by
  have hle := h0.le
  have hlen := h0.hlen
  have i1 : ¬ ((150 : Int) < (len0 : Int)) := by omega
  obtain ⟨L, hLd⟩ : ∃ L, L0 = L := ⟨_, rfl⟩
  have hLn0 : L.length = len0 := by rw [← hLd]; exact hlen
  have hL : HsI w (fun k => k < w.heap.size) a0 L := by rw [← hLd]; exact h0.hs
  have hok : ∀ q ∈ L, OkS q.s := fun q hq => okS_wf (h0.wf q (by rw [hLd]; exact hq))
  obtain ⟨n, hn⟩ : ∃ n : Nat, n = len0 := ⟨_, rfl⟩
  have hLn : L.length = n := by omega
  have hn150 : n ≤ 150 := by omega
  clear h0 hLd hle hlen
  have hY := hide h1
  have hO := hide h2
  clear h1 h2
  replace hT := hide hT
  replace hok := hide hok
  replace hL := hide hL
  rcases chk_cases L with hc | hc
  · obtain ⟨hpos, _, hG⟩ := chk_out hc
    have hN := hide (fun W (b : Below w.heap.size w W) => new_any a0 cap0 L W (hL.out.kept (fun k _ hk => b.block k hk) (fun k hk h => by have := b.size; omega)) hc hG hpos (by omega))
    have hM := hide (fun W (b : Below w.heap.size w W) => rmatch0 a0 cap0 L ⟨#[]⟩ rfl W (hL.out.kept (fun k _ hk => b.block k hk) (fun k hk h => by have := b.size; omega)) hG hc hpos (by omega))
    have hBg := hide (fun W (b : Below w.heap.size w W) => rbegin_any a0 cap0 L W (hL.out.kept (fun k _ hk => b.block k hk) (fun k hk h => by have := b.size; omega)) hG hpos (by omega))
    have hA := hide (fun (S : Sn) (B : List Bool) (v : Value) W (b : Below w.heap.size w W) (hv : Bo W v B) (hS : Stn L S B) => racc_any a0 cap0 L S B v W (hL.out.kept (fun k _ hk => b.block k hk) (fun k hk h => by have := b.size; omega)) hv hS hpos (by omega))
    have hSt := hide (fun (S : Sn) (B : List Bool) (v : Value) (x : Nat) (hx : x < 256) W (b : Below w.heap.size w W) (hv : Bo W v B) (hS : Stn L S B) => rstep_any a0 cap0 L S B v x hx W (hL.out.kept (fun k _ hk => b.block k hk) (fun k hk h => by have := b.size; omega)) hG hok.out hv hS hpos (by omega))
    rw [hLn0] at hN hM hBg hA hSt
    replace hG := hide hG
    replace hpos := hide hpos
    have hLH : Hid (L.length = len0) := hLn0
    clear hc hL hLn
    go_enter Tryz.func5, Tryz.ntmps5
    go_wp2_with fail
    refine (hN.out _ (Below.refl _ _)).mono ?_
    rintro e w1 ⟨g, a', c', W0, rfl, hg, B1, hW0, hst0, hR0, hs0⟩
    have hb1 := hide B1
    replace hW0 := hide hW0
    replace hst0 := hide hst0
    replace hR0 := hide hR0
    replace hs0 := hide hs0
    clear B1
    go_wp2_with fail
    refine (hM.out _ hb1.out).mono ?_
    rintro e w2 ⟨⟨x, rfl⟩, B2'⟩
    have hb2 := hide (hb1.out.trans (B2'.mono hb1.out.size))
    replace B2' := hide B2'
    go_wp2_with fail
    refine (hBg.out _ hb2.out).mono ?_
    rintro e w3 ⟨B3, vB, BB, rfl, hBo, hSn⟩
    have s1 := hb1.out.size
    have s2 := B2'.out.size
    have F0 : Hid (FI w g a' c' L (Eps L 0) W0 vB BB w3) := by
      have b12 : Below w1.heap.size w1 w3 := B2'.out.trans (B3.mono s2)
      refine ⟨hb2.out.trans (B3.mono (by have := hb2.out.size; omega)), hg, hW0.out, hst0.out, (by rw [hLH.out]; exact hR0.out.kept (b12.block g hR0.out.lt)), hs0.out.kept (fun k _ hk => b12.block k hk) (fun k hk h => ⟨by have := b12.size; omega, h.2⟩), hBo, hSn⟩
    clear hb1 hb2 B2' B3 hBo hSn hW0 hst0 hR0 hs0 hg s1 s2 hN hM
    go_wp2_with fail
    go_loopw [11, 12] (fun vb iv wr => ∃ (k : Nat) (S : Sn) (W : List Nat) (BB : List Bool), iv = .int .i64 (k : Int) ∧ k ≤ 40 ∧ Hid (FI w g a' c' L S W vb BB wr)) (fun _ v _ => 40 - (RowKit.intOf v).toNat)
    case atStart => exact ⟨0, _, W0, BB, rfl, by omega, F0⟩
    case round =>
      obtain ⟨k, S, W, BB, rfl, hk, hF⟩ := hrel
      clear F0
      generalize wr = wo at *
      have hTk := hide (hT.out.below hF.out.bel)
      by_cases hk1 : k ≤ len1
      · have j1 : (k : Int) ≤ (len1 : Int) := by omega
        by_cases hk2 : k < 40
        · have j2 : (k : Int) < 40 := by omega
          obtain ⟨gq, cq, curq, tq, frq, rfl, hgq, rfl, hcq⟩ := hF.out.bo
          have hBB : BB.length = len0 := hF.out.sb.1.trans hLH.out
          have hgql := (Array.getElem?_eq_some_iff.1 hgq).1
          have cells4 : Hid (∀ W', Below wo.heap.size wo W' → ∀ (i : Nat) (x : Bool), BB[i]? = some x → W'.cell? ⟨gq, i, none⟩ = some (.bool x)) := fun W' b i x hi => by
            rw [cell_of_row W' gq _ _ 4 frq ((b.block gq hgql).trans hgq)]; exact hcq i x hi
          have hBBh := hide hBB
          clear hgq hcq hgql hBB
          have hal := hide ((Below.refl wo.heap.size wo).alloc (Nat.le_refl _) (.cells #[] 3))
          have O0 := hide (zeros_own wo)
          go_wp2_with fail
          go_loopw [13, 14] (fun v iv W4 => ∃ (j m : Nat) (ad : Option Addr) (c : Nat), v = .slice ad m c ∧ iv = .int .i64 (j : Int) ∧ j ≤ len0 ∧ Hid (m = (idx BB j).length) ∧ Hid (W4.ownsRow wo.heap.size 3 1 (.slice ad m c) m (cellsI (idx BB j))) ∧ Hid (Below wo.heap.size wo W4)) (fun _ v _ => len0 - (RowKit.intOf v).toNat)
          case atStart => exact ⟨0, 0, _, _, rfl, rfl, Nat.zero_le _, rfl, O0, hal⟩
          case round =>
            obtain ⟨j, m, ad, c, rfl, rfl, hj, hm, hO4, hB4⟩ := hrel
            clear O0 hal
            by_cases hjn : j < len0
            · have j3 : (j : Int) < (len0 : Int) := by omega
              have j4 : (j : Int) < (BB.length : Int) := by rw [hBBh.out]; omega
              obtain ⟨bj, hbj⟩ : ∃ bj, BB[j]? = some bj := ⟨_, List.getElem?_eq_getElem (by rw [hBBh.out]; exact hjn)⟩
              have cj := cells4.out _ hB4.out j bj hbj
              have hsucc := idx_succ BB j
              rw [hbj] at hsucc
              replace hsucc := hide hsucc
              clear hbj
              cases bj with
              | false =>
                have e5 : Hid (idx BB (j + 1) = idx BB j) := by show _ = _; have := hsucc.out; simpa using this
                have hm5 : Hid (m = (idx BB (j + 1)).length) := by rw [e5.out]; exact hm.out
                have hO5 : Hid (World.ownsRow wr wo.heap.size 3 1 (.slice ad m c) m (cellsI (idx BB (j + 1)))) := by rw [e5.out]; exact hO4.out
                go_wp2_with fail
                go_roundw
                case rel => exact ⟨j + 1, m, ad, c, rfl, by go_num, by omega, hm5, hO5, hB4⟩
                case measure => simp [RowKit.intOf]; omega
              | true =>
                have e5 : Hid (idx BB (j + 1) = idx BB j ++ [j]) := by show _ = _; have := hsucc.out; simpa using this
                have hal4 : Below wr.heap.size wr (wr.alloc (.cells #[.int .i64 (j : Int)] 3)) := (Below.refl _ wr).alloc (Nat.le_refl _) _
                have hO5 : Hid ((wr.alloc (.cells #[.int .i64 (j : Int)] 3)).ownsRow wo.heap.size 3 1 (.slice ad m c) m (cellsI (idx BB j))) := owns_of_block hO4.out (fun k hk => hal4.block k (World.ownsRow.lt hO4.out k hk).2)
                have hcc : Hid (∀ (i : Nat) (u : Value), [Value.int .i64 (j : Int)][i]? = some u → (wr.alloc (.cells #[.int .i64 (j : Int)] 3)).cell? ((⟨wr.heap.size, 0, none⟩ : Addr).add i) = some u) := fun i u hi => by
                  rw [add_plain, Nat.zero_add, cell_of_row _ _ _ _ _ _ (heap_alloc_new wr _)]
                  simpa using hi
                have hone : ∀ u ∈ [Value.int .i64 (j : Int)], u.oneCell' = true := fun u hu => by rw [List.mem_singleton.1 hu]; rfl
                have hb5 := hide (hB4.out.trans (hal4.mono hB4.out.size))
                have hle : wo.heap.size ≤ (wr.alloc (.cells #[.int .i64 (j : Int)] 3)).heap.size := hb5.out.size
                have hmj : m ≤ j := by rw [hm.out]; exact idx_len BB j
                obtain ⟨i0, hi, hz, hsz, hby⟩ := info3
                clear hal4
                go_wp2_with (at_builtin; refine wpList_append_own _ rfl (.tmp 68) (.tmp 70) 54 rfl wo.heap.size 3 i0 (.int .i64 0) 1 8 Tryz.underlying54 hi hz hsz hby rfl (by decide) _ m _ rfl hO5.out ⟨wr.heap.size, 0, none⟩ 1 1 _ rfl rfl hcc.out hone (by unfold maxLen; omega) (by omega) hle ?_; intro v5 w5 h1 h2 h3; clear h3; replace h1 := hide h1; replace h2 := hide h2)
                have h1' : w5.ownsRow wo.heap.size 3 1 v5 (m + 1) (cellsI (idx BB (j + 1))) := by rw [e5.out]; simpa [cellsI] using h1.out
                obtain ⟨g5, c5, rfl, _, _⟩ := h1'.form (by omega)
                have hm5 : Hid (m + 1 = (idx BB (j + 1)).length) := by rw [e5.out, List.length_append, ← hm.out]; rfl
                have hO6 := hide h1'
                have hb6 : Hid (Below wo.heap.size wo w5) := hb5.out.grown h2.out hb5.out.size (fun k hk => (World.ownsRow.lt hO5.out k hk).1)
                clear h1' h1 h2
                go_wp2_with fail
                go_roundw
                case rel => exact ⟨j + 1, m + 1, _, c5, rfl, by go_num, by omega, hm5, hO6, hb6⟩
                case measure => simp [RowKit.intOf]; omega
            · obtain rfl : len0 = j := by omega
              have hFi := hide (hF.out.below hB4.out)
              have hT4 := hide (hTk.out.below hB4.out)
              have posN : Hid (0 < len0) := by show 0 < len0; rw [← hLH.out]; exact hpos.out
              have hidx : idx BB len0 = mems W := by have := idx_mems hF.out.sb hF.out.ok hF.out.st; rw [hLH.out] at this; exact this
              have hml : (mems W).length ≤ 150 := by rw [← hidx]; exact Nat.le_trans (idx_len BB len0) (by omega)
              have em : m = (mems W).length := by rw [← hidx]; exact hm.out
              have hO5 : Hid (wr.ownsRow wo.heap.size 3 1 (.slice ad m c) m (cellsI (mems W))) := by show World.ownsRow _ _ _ _ _ _ _; rw [← hidx]; exact hO4.out
              subst em
              have hAt := hide (at_any g a' len0 c' posN.out W hFi.out.ok wr hT4.out (by rw [← hLH.out]; exact hFi.out.rn) (by omega))
              have hdd : (((mems W).length : Int) == 0) = decide (W = noW) := by have := dead_idx hF.out.sb hF.out.ok hF.out.st; rw [hLH.out, hidx] at this; exact this
              clear hm hO4 hF hTk cells4 hidx hB4 hBBh
              go_wp2_with fail
              refine hAt.out.mono ?_
              rintro e w5 ⟨v5, rfl, ho5, B5⟩
              have hF5 := hide (hFi.out.below B5)
              have hO6 : w5.ownsRow wo.heap.size 3 1 (.slice ad (mems W).length c) (mems W).length (cellsI (mems W)) := owns_of_block hO5.out (fun k hk => B5.block k (World.ownsRow.lt hO5.out k hk).2)
              have hsm := hide (same_own ho5 hO6 (by omega))
              clear B5 ho5 hO6 hO5 hFi hAt
              go_wp2_with fail
              refine hsm.out.mono ?_
              rintro e w6 ⟨rfl, B6⟩
              have hF6 := hide (hF5.out.below B6)
              have hD6 := hide (dead_any g a' len0 c' posN.out W hF6.out.ok w6 (by rw [← hLH.out]; exact hF6.out.rn))
              clear B6 hF5 hsm
              go_wp2_with fail
              refine hD6.out.mono ?_
              rintro e w7 ⟨rfl, rfl⟩
              have hacc := hide (callsIn_wide.1 (acc_in 5 (by omega) g a' c' L W hF6.out.ok w7 hF6.out.rn (hF6.out.hs.kept (fun _ _ _ => rfl) (fun k hk h => h.1)) hF6.out.hin (hT.out.below hF6.out.bel) hpos.out))
              go_wp2_with fail
              refine hacc.out.mono ?_
              rintro e w8 ⟨rfl, B8⟩
              have hF8 := hide (hF6.out.below B8)
              clear B8 hF6 hacc hD6
              go_wp2_with fail
              refine (hA.out S BB _ w8 hF8.out.bel hF8.out.bo hF8.out.sb).mono ?_
              rintro e w9 ⟨B9, x, rfl, hx⟩
              have ex : x = accB L W := by
                rw [Bool.eq_iff_iff, hx, accB_iff hF8.out.ok]
                exact accS_congr (fun m => (hF8.out.st m).symm)
              subst ex
              have hF9 := hide (hF8.out.below B9)
              clear hx B9 hF8
              generalize accB L W = y
              by_cases hr1 : k < len2
              · have j6 : (k : Int) < (len2 : Int) := by omega
                obtain ⟨bO, oO, rfl, hbOl, hcO⟩ := hO.out.cells (by omega)
                have cO := (hF9.out.bel.cell (p := ⟨bO, oO + k, none⟩) hbOl).trans (hcO k hr1)
                clear hcO
                cases hr2 : B2 k with
                | true =>
                  rw [hr2] at cO
                  have hRs := hide (reset_any g a' c' L W hF9.out.ok w9 hF9.out.rn hF9.out.hs hG.out hpos.out (by rw [hLH.out]; omega))
                  go_wp2_with fail
                  refine hRs.out.mono ?_
                  rintro e wA ⟨rfl, hbutA, WA, hWA, hstA, hRA⟩
                  have bA : Below w.heap.size w wA := hF9.out.bel.trans (hbutA.below (by have := hF9.out.bel.size; omega) (fun k e => by have := hF9.out.hg; omega))
                  have hBgA := hide (hBg.out wA bA)
                  replace hbutA := hide hbutA
                  replace hstA := hide hstA
                  replace hRA := hide hRA
                  replace bA := hide bA
                  go_wp2_with fail
                  refine hBgA.out.mono ?_
                  rintro e wB ⟨Bb, vB', BB', rfl, hBo', hSn'⟩
                  have hFB := hide (hF9.out.turn hbutA.out hWA hstA.out hRA.out Bb hBo' hSn')
                  clear Bb hBo' hSn' hbutA hstA hRA bA hBgA hRs cO hF9
                  by_cases hk3 : k < len1
                  · have j5 : (k : Int) < (len1 : Int) := by omega
                    obtain ⟨bY, oY, rfl, hbYl, hcY⟩ := hY.out.cells (by omega)
                    obtain ⟨z, hz, ez⟩ := byte_of (hY.out.range k hk3)
                    have cY0 : Hid (w.cell? ⟨bY, oY + k, none⟩ = some (.int .u8 (z : Int))) := by
                      show _ = _
                      rw [hcY k hk3, ez]
                    have hDx := hide (dead_any g a' len0 c' posN.out WA hFB.out.ok wB (by rw [← hLH.out]; exact hFB.out.rn))
                    have cY := (hFB.out.bel.cell (p := ⟨bY, oY + k, none⟩) hbYl).trans cY0.out
                    have TX := hide (hT.out.below hFB.out.bel)
                    clear hcY ez
                    go_wp2_with fail
                    refine hDx.out.mono ?_
                    rintro e wy ⟨rfl, rfl⟩
                    have hFd := hide (callsIn_wide.1 (feed_in 5 (by omega) g a' c' L WA hFB.out.ok z hz wy hFB.out.rn hFB.out.hs hFB.out.hin TX.out hpos.out (by rw [hLH.out]; omega) hG.out hok.out))
                    go_wp2_with fail
                    refine hFd.out.mono ?_
                    rintro e wz ⟨V, rfl, hV, hVst, hRV, hbut⟩
                    have bz : Below w.heap.size w wz := hFB.out.bel.trans (hbut.below (by have := hFB.out.bel.size; omega) (fun k e => by have := hFB.out.hg; omega))
                    have cYz := (bz.cell (p := ⟨bY, oY + k, none⟩) hbYl).trans cY0.out
                    have hS2 := hide (hSt.out (Eps L 0) BB' _ z hz wz bz (bo_but hFB.out.bo hFB.out.rn hbut) hFB.out.sb)
                    have hdd2 : WA = noW → V = noW := fun e => by
                      rw [← mems_none hV]
                      intro m
                      cases em : inW V m with
                      | false => rfl
                      | true =>
                        obtain ⟨i, _, hi, _⟩ := (hVst m).1 em
                        unfold snW at hi
                        rw [e, inW_no] at hi
                        cases hi
                    replace hVst := hide hVst
                    replace hbut := hide hbut
                    replace hRV := hide hRV
                    replace bz := hide bz
                    clear cY
                    go_wp2_with fail
                    refine hS2.out.mono ?_
                    rintro e wu ⟨Bu, vU, BU, rfl, hBoU, hSnU⟩
                    have hFU := hide (hFB.out.turn hbut.out hV (fun m => (hVst.out m).trans (nxt_congr (fun m => hFB.out.st m) z m)) hRV.out Bu hBoU hSnU)
                    have hDU := hide (dead_any g a' len0 c' posN.out V hV wu (by rw [← hLH.out]; exact hFU.out.rn))
                    clear hBoU hSnU Bu hS2 hFd hDx cYz
                    by_cases e1 : WA = noW
                    · have e2 := hdd2 e1
                      rw [decide_eq_true e2] at hDU
                      rw [decide_eq_true e1, decide_eq_true e2]
                      replace e1 := hide e1
                      replace e2 := hide e2
                      go_wp2_with fail
                      refine hDU.out.mono ?_
                      rintro e wv ⟨rfl, rfl⟩
                      go_wp2_with fail
                      go_roundw
                      case rel => exact ⟨k + 1, _, V, BU, by go_num, by omega, hFU⟩
                      case measure => simp [RowKit.intOf]; omega
                    · rw [decide_eq_false e1]
                      replace e1 := hide e1
                      by_cases e2 : V = noW
                      · rw [decide_eq_true e2] at hDU
                        rw [decide_eq_true e2]
                        replace e2 := hide e2
                        go_wp2_with fail
                        refine hDU.out.mono ?_
                        rintro e wv ⟨rfl, rfl⟩
                        go_wp2_with fail
                        go_roundw
                        case rel => exact ⟨k + 1, _, V, BU, by go_num, by omega, hFU⟩
                        case measure => simp [RowKit.intOf]; omega
                      · rw [decide_eq_false e2] at hDU
                        rw [decide_eq_false e2]
                        replace e2 := hide e2
                        go_wp2_with fail
                        refine hDU.out.mono ?_
                        rintro e wv ⟨rfl, rfl⟩
                        go_wp2_with fail
                        go_roundw
                        case rel => exact ⟨k + 1, _, V, BU, by go_num, by omega, hFU⟩
                        case measure => simp [RowKit.intOf]; omega
                  · have j5 : ¬ ((k : Int) < (len1 : Int)) := by omega
                    go_wp2_with fail
                    go_roundw
                    case rel => exact ⟨k + 1, (Eps L 0), WA, BB', by go_num, by omega, hFB⟩
                    case measure => simp [RowKit.intOf]; omega
                | false =>
                  rw [hr2] at cO
                  by_cases hk3 : k < len1
                  · have j5 : (k : Int) < (len1 : Int) := by omega
                    obtain ⟨bY, oY, rfl, hbYl, hcY⟩ := hY.out.cells (by omega)
                    obtain ⟨z, hz, ez⟩ := byte_of (hY.out.range k hk3)
                    have cY0 : Hid (w.cell? ⟨bY, oY + k, none⟩ = some (.int .u8 (z : Int))) := by
                      show _ = _
                      rw [hcY k hk3, ez]
                    have hDx := hide (dead_any g a' len0 c' posN.out W hF9.out.ok w9 (by rw [← hLH.out]; exact hF9.out.rn))
                    have cY := (hF9.out.bel.cell (p := ⟨bY, oY + k, none⟩) hbYl).trans cY0.out
                    have TX := hide (hT.out.below hF9.out.bel)
                    clear hcY ez
                    go_wp2_with fail
                    refine hDx.out.mono ?_
                    rintro e wy ⟨rfl, rfl⟩
                    have hFd := hide (callsIn_wide.1 (feed_in 5 (by omega) g a' c' L W hF9.out.ok z hz wy hF9.out.rn hF9.out.hs hF9.out.hin TX.out hpos.out (by rw [hLH.out]; omega) hG.out hok.out))
                    go_wp2_with fail
                    refine hFd.out.mono ?_
                    rintro e wz ⟨V, rfl, hV, hVst, hRV, hbut⟩
                    have bz : Below w.heap.size w wz := hF9.out.bel.trans (hbut.below (by have := hF9.out.bel.size; omega) (fun k e => by have := hF9.out.hg; omega))
                    have cYz := (bz.cell (p := ⟨bY, oY + k, none⟩) hbYl).trans cY0.out
                    have hS2 := hide (hSt.out S BB _ z hz wz bz (bo_but hF9.out.bo hF9.out.rn hbut) hF9.out.sb)
                    have hdd2 : W = noW → V = noW := fun e => by
                      rw [← mems_none hV]
                      intro m
                      cases em : inW V m with
                      | false => rfl
                      | true =>
                        obtain ⟨i, _, hi, _⟩ := (hVst m).1 em
                        unfold snW at hi
                        rw [e, inW_no] at hi
                        cases hi
                    replace hVst := hide hVst
                    replace hbut := hide hbut
                    replace hRV := hide hRV
                    replace bz := hide bz
                    clear cY
                    go_wp2_with fail
                    refine hS2.out.mono ?_
                    rintro e wu ⟨Bu, vU, BU, rfl, hBoU, hSnU⟩
                    have hFU := hide (hF9.out.turn hbut.out hV (fun m => (hVst.out m).trans (nxt_congr (fun m => hF9.out.st m) z m)) hRV.out Bu hBoU hSnU)
                    have hDU := hide (dead_any g a' len0 c' posN.out V hV wu (by rw [← hLH.out]; exact hFU.out.rn))
                    clear hBoU hSnU Bu hS2 hFd hDx cYz
                    by_cases e1 : W = noW
                    · have e2 := hdd2 e1
                      rw [decide_eq_true e2] at hDU
                      rw [decide_eq_true e1, decide_eq_true e2]
                      replace e1 := hide e1
                      replace e2 := hide e2
                      go_wp2_with fail
                      refine hDU.out.mono ?_
                      rintro e wv ⟨rfl, rfl⟩
                      go_wp2_with fail
                      go_roundw
                      case rel => exact ⟨k + 1, _, V, BU, by go_num, by omega, hFU⟩
                      case measure => simp [RowKit.intOf]; omega
                    · rw [decide_eq_false e1]
                      replace e1 := hide e1
                      by_cases e2 : V = noW
                      · rw [decide_eq_true e2] at hDU
                        rw [decide_eq_true e2]
                        replace e2 := hide e2
                        go_wp2_with fail
                        refine hDU.out.mono ?_
                        rintro e wv ⟨rfl, rfl⟩
                        go_wp2_with fail
                        go_roundw
                        case rel => exact ⟨k + 1, _, V, BU, by go_num, by omega, hFU⟩
                        case measure => simp [RowKit.intOf]; omega
                      · rw [decide_eq_false e2] at hDU
                        rw [decide_eq_false e2]
                        replace e2 := hide e2
                        go_wp2_with fail
                        refine hDU.out.mono ?_
                        rintro e wv ⟨rfl, rfl⟩
                        go_wp2_with fail
                        go_roundw
                        case rel => exact ⟨k + 1, _, V, BU, by go_num, by omega, hFU⟩
                        case measure => simp [RowKit.intOf]; omega
                  · have j5 : ¬ ((k : Int) < (len1 : Int)) := by omega
                    go_wp2_with fail
                    go_roundw
                    case rel => exact ⟨k + 1, S, W, BB, by go_num, by omega, hF9⟩
                    case measure => simp [RowKit.intOf]; omega
              · have j6 : ¬ ((k : Int) < (len2 : Int)) := by omega
                by_cases hk3 : k < len1
                · have j5 : (k : Int) < (len1 : Int) := by omega
                  obtain ⟨bY, oY, rfl, hbYl, hcY⟩ := hY.out.cells (by omega)
                  obtain ⟨z, hz, ez⟩ := byte_of (hY.out.range k hk3)
                  have cY0 : Hid (w.cell? ⟨bY, oY + k, none⟩ = some (.int .u8 (z : Int))) := by
                    show _ = _
                    rw [hcY k hk3, ez]
                  have hDx := hide (dead_any g a' len0 c' posN.out W hF9.out.ok w9 (by rw [← hLH.out]; exact hF9.out.rn))
                  have cY := (hF9.out.bel.cell (p := ⟨bY, oY + k, none⟩) hbYl).trans cY0.out
                  have TX := hide (hT.out.below hF9.out.bel)
                  clear hcY ez
                  go_wp2_with fail
                  refine hDx.out.mono ?_
                  rintro e wy ⟨rfl, rfl⟩
                  have hFd := hide (callsIn_wide.1 (feed_in 5 (by omega) g a' c' L W hF9.out.ok z hz wy hF9.out.rn hF9.out.hs hF9.out.hin TX.out hpos.out (by rw [hLH.out]; omega) hG.out hok.out))
                  go_wp2_with fail
                  refine hFd.out.mono ?_
                  rintro e wz ⟨V, rfl, hV, hVst, hRV, hbut⟩
                  have bz : Below w.heap.size w wz := hF9.out.bel.trans (hbut.below (by have := hF9.out.bel.size; omega) (fun k e => by have := hF9.out.hg; omega))
                  have cYz := (bz.cell (p := ⟨bY, oY + k, none⟩) hbYl).trans cY0.out
                  have hS2 := hide (hSt.out S BB _ z hz wz bz (bo_but hF9.out.bo hF9.out.rn hbut) hF9.out.sb)
                  have hdd2 : W = noW → V = noW := fun e => by
                    rw [← mems_none hV]
                    intro m
                    cases em : inW V m with
                    | false => rfl
                    | true =>
                      obtain ⟨i, _, hi, _⟩ := (hVst m).1 em
                      unfold snW at hi
                      rw [e, inW_no] at hi
                      cases hi
                  replace hVst := hide hVst
                  replace hbut := hide hbut
                  replace hRV := hide hRV
                  replace bz := hide bz
                  clear cY
                  go_wp2_with fail
                  refine hS2.out.mono ?_
                  rintro e wu ⟨Bu, vU, BU, rfl, hBoU, hSnU⟩
                  have hFU := hide (hF9.out.turn hbut.out hV (fun m => (hVst.out m).trans (nxt_congr (fun m => hF9.out.st m) z m)) hRV.out Bu hBoU hSnU)
                  have hDU := hide (dead_any g a' len0 c' posN.out V hV wu (by rw [← hLH.out]; exact hFU.out.rn))
                  clear hBoU hSnU Bu hS2 hFd hDx cYz
                  by_cases e1 : W = noW
                  · have e2 := hdd2 e1
                    rw [decide_eq_true e2] at hDU
                    rw [decide_eq_true e1, decide_eq_true e2]
                    replace e1 := hide e1
                    replace e2 := hide e2
                    go_wp2_with fail
                    refine hDU.out.mono ?_
                    rintro e wv ⟨rfl, rfl⟩
                    go_wp2_with fail
                    go_roundw
                    case rel => exact ⟨k + 1, _, V, BU, by go_num, by omega, hFU⟩
                    case measure => simp [RowKit.intOf]; omega
                  · rw [decide_eq_false e1]
                    replace e1 := hide e1
                    by_cases e2 : V = noW
                    · rw [decide_eq_true e2] at hDU
                      rw [decide_eq_true e2]
                      replace e2 := hide e2
                      go_wp2_with fail
                      refine hDU.out.mono ?_
                      rintro e wv ⟨rfl, rfl⟩
                      go_wp2_with fail
                      go_roundw
                      case rel => exact ⟨k + 1, _, V, BU, by go_num, by omega, hFU⟩
                      case measure => simp [RowKit.intOf]; omega
                    · rw [decide_eq_false e2] at hDU
                      rw [decide_eq_false e2]
                      replace e2 := hide e2
                      go_wp2_with fail
                      refine hDU.out.mono ?_
                      rintro e wv ⟨rfl, rfl⟩
                      go_wp2_with fail
                      go_roundw
                      case rel => exact ⟨k + 1, _, V, BU, by go_num, by omega, hFU⟩
                      case measure => simp [RowKit.intOf]; omega
                · have j5 : ¬ ((k : Int) < (len1 : Int)) := by omega
                  go_wp2_with fail
                  go_roundw
                  case rel => exact ⟨k + 1, S, W, BB, by go_num, by omega, hF9⟩
                  case measure => simp [RowKit.intOf]; omega
        · have j2 : ¬ ((k : Int) < 40) := by omega
          go_wp2_with fail
          refine (works_any _ hTk.out).mono ?_
          rintro e w5 ⟨rfl, B5⟩
          have hb5 := hide (hF.out.bel.trans (B5.mono hF.out.bel.size))
          clear B5
          go_wp2_with fail
          go_ret
          exact ⟨rfl, hb5.out⟩
      · have j1 : ¬ ((k : Int) ≤ (len1 : Int)) := by omega
        go_wp2_with fail
        refine (works_any _ hTk.out).mono ?_
        rintro e w5 ⟨rfl, B5⟩
        have hb5 := hide (hF.out.bel.trans (B5.mono hF.out.bel.size))
        clear B5
        go_wp2_with fail
        go_ret
        exact ⟨rfl, hb5.out⟩
  · have hN := hide (fun W (b : Below w.heap.size w W) => new_bad a0 cap0 L W (hL.out.kept (fun k _ hk => b.block k hk) (fun k hk h => by have := b.size; omega)) hc)
    have hM := hide (fun W (b : Below w.heap.size w W) => rmatch_bad a0 cap0 L ⟨#[]⟩ W (hL.out.kept (fun k _ hk => b.block k hk) (fun k hk h => by have := b.size; omega)) (by unfold maxLen; omega) hc)
    rw [hLn0] at hN hM
    clear hc hL hLn
    go_enter Tryz.func5, Tryz.ntmps5
    go_wp2_with fail
    refine (hN.out _ (Below.refl _ _)).mono ?_
    rintro e w1 ⟨rfl, B1⟩
    have hb1 := hide B1
    clear B1
    go_wp2_with fail
    refine (hM.out _ hb1.out).mono ?_
    rintro e w2 ⟨rfl, B2'⟩
    have hb2 := hide (hb1.out.trans (B2'.mono hb1.out.size))
    have hT2 := hide (hT.out.below hb2.out)
    clear B2' hb1
    go_wp2_with fail
    refine (works_any _ hT2.out).mono ?_
    rintro e w5 ⟨rfl, B5⟩
    have hb5 := hide (hb2.out.trans (B5.mono hb2.out.size))
    clear B5
    go_wp2_with fail
    go_ret
    exact ⟨rfl, hb5.out⟩
theorem feedsW (a0 : Option Addr) (len0 cap0 : Nat) (L0 : List Ins) (a1 : Option Addr) (len1 cap1 : Nat) (l1 : List Int) (a2 : Option Addr) (len2 cap2 : Nat) (B2 : Nat → Bool) (w : World) (hT : Tab w) (h0 : HasI w a0 len0 cap0 L0) (h1 : HasY w a1 len1 cap1 l1) (h2 : HasO w a2 len2 cap2 B2) :
    Calls Tryz.prog 5 #[.slice a0 len0 cap0, .slice a1 len1 cap1, .slice a2 len2 cap2] w fun e w' => e = .returned (.bool true) ∧ Below w.heap.size w w' := by
  by_cases h : 150 < len0
  · exact feeds_big a0 len0 cap0 L0 a1 len1 cap1 l1 a2 len2 cap2 B2 w hT h0 h1 h2 h
  · exact feeds_small a0 len0 cap0 L0 a1 len1 cap1 l1 a2 len2 cap2 B2 w hT h0 h1 h2 (by omega)
end Go.Proofs.YtkfdikpnnkbgaaaGreatDoor
