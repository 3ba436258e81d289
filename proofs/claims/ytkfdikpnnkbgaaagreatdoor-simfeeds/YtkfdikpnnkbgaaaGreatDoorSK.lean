/-
  Whether a byte is in a set; a runner: whether it is made, dead; its beginning; what is wrong with a program and a text.
-/
import Derived.Test.YtkfdikpnnkbgaaaGreatDoorSJ
namespace Go.Proofs.YtkfdikpnnkbgaaaGreatDoor
open Go.RowKit Go.Shelf
set_option linter.unusedVariables false
set_option linter.unusedSimpArgs false

set_option maxHeartbeats 2000000 in
set_option maxRecDepth 100000 in
theorem has86 (s : S4) (hs : OkS s) (b : Nat) (hb : b < 256) (w : World) : Calls Tryz.prog 85 #[setV s, .int .u8 (b : Int)] w fun e w' => e = .returned (.bool (inS s b)) ∧ Below w.heap.size w w' := by
  have H := St.start Nope w
  obtain ⟨q, hq⟩ : ∃ q, q = b / 64 := ⟨_, rfl⟩
  obtain ⟨r, hr⟩ : ∃ r, r = b % 64 := ⟨_, rfl⟩
  have hq4 : q < 4 := by omega
  have hr64 : r < 64 := by omega
  have e1 : (b : Int) / 64 = (q : Int) := by omega
  have e2 : (b : Int) % 64 = (r : Int) := by omega
  have e3 : (b : Int).tdiv 64 = (q : Int) := by rw [Int.tdiv_eq_ediv_of_nonneg (by omega)]; omega
  have e4 : (b : Int).tmod 64 = (r : Int) := by rw [Int.tmod_eq_emod_of_nonneg (by omega)]; omega
  have u1 : IntKind.u8.wrap (q : Int) = (q : Int) := by simp [IntKind.wrap, IntKind.signed, IntKind.bits]; omega
  have u2 : IntKind.u8.wrap (r : Int) = (r : Int) := by simp [IntKind.wrap, IntKind.signed, IntKind.bits]; omega
  have i1 : (q : Int) < 4 := by omega
  obtain ⟨p1, p2⟩ := hs q hq4
  obtain ⟨z, hz⟩ : ∃ z : Nat, s.get q = (z : Int) := ⟨(s.get q).toNat, by omega⟩
  have e6 : ((z : Int) / 2 ^ r) = ((z / 2 ^ r : Nat) : Int) := by push_cast; rfl
  have hy : z / 2 ^ r < 18446744073709551616 := Nat.lt_of_le_of_lt (Nat.div_le_self _ _) (by omega)
  have hand := and_nat (z / 2 ^ r) 1 hy (by decide)
  generalize z / 2 ^ r = y at e6 hy hand
  have hres : Hid ((inS s b) = ((y % 2 : Nat) == 1)) := by
    show _ = _
    unfold inS
    rw [← hq, ← hr, hz, e6, Int.tmod_eq_emod_of_nonneg (by omega), Bool.eq_iff_iff, beq_iff_eq, beq_iff_eq]
    omega
  generalize hin : inS s b = res at hres
  replace hin := hide hin
  replace hq := hide hq
  replace hr := hide hr
  replace e6 := hide e6
  replace hz := hide hz
  replace hs := hide hs
  replace hand := hide hand
  clear p1 p2
  go_enter Tryz.func85, Tryz.ntmps85
  go_wp2_with (first | ((with_reducible refine at_box 24 ?_); refine wl_box25 H rfl ?_; clear H; intro g w1 H p1 p2; have c0 := H.cell 0 q rfl (v := .int .u64 (s.get q)) (by rcases (show q = 0 ∨ q = 1 ∨ q = 2 ∨ q = 3 by omega) with rfl | rfl | rfl | rfl <;> rfl)))
  go_ret
  refine ⟨?_, H.below⟩
  rw [hres.out]
  refine congrArg Ending.returned ?_
  try rw [hz.out]
  try rw [e6.out]
  have h2 : bits BinOp.and IntKind.u64 (y : Int) 1 = ((y % 2 : Nat) : Int) := by have := hand.out; rwa [Nat.and_one_is_mod] at this
  refine congrArg Value.bool ?_
  rw [h2, Bool.eq_iff_iff, beq_iff_eq, beq_iff_eq]
  omega
set_option maxHeartbeats 2000000 in
set_option maxRecDepth 100000 in
theorem has56 (s : S4) (hs : OkS s) (b : Nat) (hb : b < 256) (w : World) : Calls Tryz.prog 57 #[setV s, .int .u8 (b : Int)] w fun e w' => e = .returned (.bool (inS s b)) ∧ Below w.heap.size w w' := by
  have H := St.start Nope w
  obtain ⟨q, hq⟩ : ∃ q, q = b / 64 := ⟨_, rfl⟩
  obtain ⟨r, hr⟩ : ∃ r, r = b % 64 := ⟨_, rfl⟩
  have hq4 : q < 4 := by omega
  have hr64 : r < 64 := by omega
  have e1 : (b : Int) / 64 = (q : Int) := by omega
  have e2 : (b : Int) % 64 = (r : Int) := by omega
  have e3 : (b : Int).tdiv 64 = (q : Int) := by rw [Int.tdiv_eq_ediv_of_nonneg (by omega)]; omega
  have e4 : (b : Int).tmod 64 = (r : Int) := by rw [Int.tmod_eq_emod_of_nonneg (by omega)]; omega
  have u1 : IntKind.u8.wrap (q : Int) = (q : Int) := by simp [IntKind.wrap, IntKind.signed, IntKind.bits]; omega
  have u2 : IntKind.u8.wrap (r : Int) = (r : Int) := by simp [IntKind.wrap, IntKind.signed, IntKind.bits]; omega
  have i1 : (q : Int) < 4 := by omega
  obtain ⟨p1, p2⟩ := hs q hq4
  obtain ⟨z, hz⟩ : ∃ z : Nat, s.get q = (z : Int) := ⟨(s.get q).toNat, by omega⟩
  have e6 : ((z : Int) / 2 ^ r) = ((z / 2 ^ r : Nat) : Int) := by push_cast; rfl
  have hy : z / 2 ^ r < 18446744073709551616 := Nat.lt_of_le_of_lt (Nat.div_le_self _ _) (by omega)
  have hand := and_nat (z / 2 ^ r) 1 hy (by decide)
  generalize z / 2 ^ r = y at e6 hy hand
  have hres : Hid ((inS s b) = ((y % 2 : Nat) == 1)) := by
    show _ = _
    unfold inS
    rw [← hq, ← hr, hz, e6, Int.tmod_eq_emod_of_nonneg (by omega), Bool.eq_iff_iff, beq_iff_eq, beq_iff_eq]
    omega
  generalize hin : inS s b = res at hres
  replace hin := hide hin
  replace hq := hide hq
  replace hr := hide hr
  replace e6 := hide e6
  replace hz := hide hz
  replace hs := hide hs
  replace hand := hide hand
  clear p1 p2
  go_enter Tryz.func57, Tryz.ntmps57
  go_wp2_with (first | ((with_reducible refine at_box 24 ?_); refine wl_box25 H rfl ?_; clear H; intro g w1 H p1 p2; have c0 := H.cell 0 q rfl (v := .int .u64 (s.get q)) (by rcases (show q = 0 ∨ q = 1 ∨ q = 2 ∨ q = 3 by omega) with rfl | rfl | rfl | rfl <;> rfl)))
  go_ret
  refine ⟨?_, H.below⟩
  rw [hres.out]
  refine congrArg Ending.returned ?_
  try rw [hz.out]
  try rw [e6.out]
  refine congrArg Value.bool ?_
  rw [Bool.eq_iff_iff, beq_iff_eq, beq_iff_eq]
  first
  | omega
  | (rw [Int.tmod_eq_emod_of_nonneg (by omega)]; omega)
/-- A runner at g, of the program l, standing at W. -/
def Rn (w : World) (g : Nat) (ad : Option Addr) (n c : Nat) (W : List Nat) : Prop := w.heap[g]? = some (.cells (pA #[.slice ad n c] W) 111 (0, 0))
theorem Rn.l {w : World} {g : Nat} {ad : Option Addr} {n c : Nat} {W : List Nat} (h : Rn w g ad n c W) : w.cell? ⟨g, 0, none⟩ = some (.slice ad n c) := by
  rw [cell_of_row w g _ _ 111 (0, 0) h]
  unfold pA
  rw [Array.getElem?_append_left (by simp)]
  rfl
theorem Rn.kept {w w' : World} {g : Nat} {ad : Option Addr} {n c : Nat} {W : List Nat} (h : Rn w g ad n c W) (e : w'.heap[g]? = w.heap[g]?) : Rn w' g ad n c W := e.trans h
theorem Rn.lt {w : World} {g : Nat} {ad : Option Addr} {n c : Nat} {W : List Nat} (h : Rn w g ad n c W) : g < w.heap.size := (Array.getElem?_eq_some_iff.1 h).1
set_option maxHeartbeats 400000 in
theorem isMade_any (g : Nat) (ad : Option Addr) (n c : Nat) (hn : 0 < n) (w : World) (hl : w.cell? ⟨g, 0, none⟩ = some (.slice ad n c)) : Calls Tryz.prog 51 #[.pointer (some ⟨g, 0, none⟩)] w fun e w' => e = .returned (.bool true) ∧ w' = w := by
  have i1 : (0 : Int) < (n : Int) := by omega
  go_enter Tryz.func51, Tryz.ntmps51
  go_wp2_with fail
  go_ret
  exact ⟨rfl, rfl⟩
set_option maxHeartbeats 400000 in
theorem dead_any (g : Nat) (ad : Option Addr) (n c : Nat) (hn : 0 < n) (W : List Nat) (hW : OkW W) (w : World) (h : Rn w g ad n c W) : Calls Tryz.prog 21 #[.pointer (some ⟨g, 0, none⟩)] w fun e w' => e = .returned (.bool (decide (W = noW))) ∧ w' = w := by
  have H1 := hide (isMade_any g ad n c hn w h.l)
  have H2 : Hid (Calls Tryz.prog 54 #[.pointer (some ⟨g, 1, none⟩)] w fun e w' => e = .returned (.bool (decide (W = noW))) ∧ w' = w) := isEmpty_any g #[.slice ad n c] 111 W hW w h
  generalize decide (W = noW) = b at *
  go_enter Tryz.func21, Tryz.ntmps21
  go_wp2_with fail
  refine H1.out.mono ?_
  rintro e w1 ⟨rfl, rfl⟩
  go_wp2_with fail
  refine H2.out.mono ?_
  rintro e w1 ⟨rfl, rfl⟩
  go_wp2_with fail
  go_ret
  exact ⟨rfl, rfl⟩
theorem size103 : (Tryz.prog.info? 111).map (·.size) = some 33 := by kernel_rfl
theorem run_build103 (w : World) (ev : Operand → Value) (x : Operand) (dst : Option Nat) (ty : TypeId) (pos : String) (after : Array Edge) {ad : Option Addr} {n c : Nat} (hx : ev x = .slice ad n c) : (execOp ev ⟨dst, .build 111 #[(0, x)], ty, pos, after, none⟩).run Tryz.prog w = .ok (.value (.agg (pA #[.slice ad n c] noW))) w := by
  unfold execOp
  simp only [List.map_toArray, List.map_cons, List.map_nil, hx]
  kernel_rfl
theorem run_box103 (w : World) (ev : Operand → Value) (x : Operand) (dst : Option Nat) (ty : TypeId) (pos : String) (after : Array Edge) {ad : Option Addr} {n c : Nat} (hx : ev x = .agg (pA #[.slice ad n c] noW)) : (execOp ev ⟨dst, .box 111 x, ty, pos, after, none⟩).run Tryz.prog w = .ok (.value (.pointer (some ⟨w.heap.size, 0, none⟩))) (w.alloc (.cells (pA #[.slice ad n c] noW) 111)) := by
  unfold execOp
  simp only [hx]
  kernel_rfl
set_option maxHeartbeats 1000000 in
theorem begin_any (ad : Option Addr) (c : Nat) (L : List Ins) (w : World) (hL : HsI w (fun k => k < w.heap.size) ad L) (hG : GoL L) (hlen : L.length ≤ 2048) (h0 : 0 < L.length) :
    Calls Tryz.prog 36 #[.slice ad L.length c] w fun e w' => ∃ g W, e = .returned (.pointer (some ⟨g, 0, none⟩)) ∧ w.heap.size ≤ g ∧ Below w.heap.size w w' ∧ OkW W ∧ (∀ m, inW W m = true ↔ Eps L 0 m) ∧ Rn w' g ad L.length c W := by
  have hnew := heap_alloc_new w (.cells (pA #[.slice ad L.length c] noW) 111)
  have hB1 : Hid (Below w.heap.size w (w.alloc (.cells (pA #[.slice ad L.length c] noW) 111))) := (Below.refl _ w).alloc (Nat.le_refl _) _
  have hst := hide (callsIn_wide.1 (stand_in 5 (by omega) ad c L 0 w.heap.size #[.slice ad L.length c] 111 noW (w.alloc (.cells (pA #[.slice ad L.length c] noW) 111)) (hL.kept (fun k _ hk => hB1.out.block k hk) (fun k hk h => ⟨by simp; omega, by omega⟩)) hG hlen h0 OkW.no (fun i q h => by have := inW_no i; unfold snW at h; rw [this] at h; cases h) hnew))
  replace hL := hide hL
  generalize hln : L.length = n at *
  go_enter Tryz.func36, Tryz.ntmps36
  go_wp2_with (first | ((with_reducible refine at_build' 111 _ ?_); refine wl_val (run_build103 _ _ _ _ _ _ _ rfl) ?_) | ((with_reducible refine at_box 111 ?_); refine wl_val (run_box103 _ _ _ _ _ _ _ rfl) ?_))
  refine hst.out.mono ?_
  rintro e w2 ⟨⟨v, rfl⟩, hb, W, hW, hin, hg⟩
  replace hin := hide hin
  go_wp2_with fail
  go_ret
  refine ⟨w.heap.size, W, rfl, Nat.le_refl _, hB1.out.trans (hb.below (by simp) (fun k e => by omega)), hW, fun m => ?_, hg⟩
  have := hin.out m
  rw [inW_no] at this
  simpa using this
def chkS (L : List Ins) (s : ByteArray) : Int := if chkI L = 0 then (if 65536 < s.size then 3 else 0) else chkI L
set_option maxHeartbeats 1000000 in
theorem check_sim (ad : Option Addr) (c : Nat) (L : List Ins) (s : ByteArray) (w : World) (hL : HsI w (fun k => k < w.heap.size) ad L) : Calls Tryz.prog 35 #[.slice ad L.length c, .string s] w fun e w' => e = .returned (.int .i64 (chkS L s)) ∧ Below w.heap.size w w' := by
  have H := hide (chk_any ad c L w hL)
  unfold chkS
  generalize chkI L = r at H ⊢
  generalize L.length = n at *
  by_cases h0 : r = 0
  · subst h0
    rw [if_pos rfl]
    by_cases hs : 65536 < s.size
    · rw [if_pos hs]
      have i1 : (65536 : Int) < (s.size : Int) := by omega
      go_enter Tryz.func35, Tryz.ntmps35
      go_wp2_with fail
      refine H.out.mono ?_
      rintro e w1 ⟨rfl, B1⟩
      go_wp2_with fail
      go_ret
      exact ⟨rfl, B1⟩
    · rw [if_neg hs]
      have i1 : ¬ (65536 : Int) < (s.size : Int) := by omega
      go_enter Tryz.func35, Tryz.ntmps35
      go_wp2_with fail
      refine H.out.mono ?_
      rintro e w1 ⟨rfl, B1⟩
      go_wp2_with fail
      go_ret
      exact ⟨rfl, B1⟩
  · rw [if_neg h0]
    have i1 : (r == 0) = false := by simpa using h0
    replace h0 := hide h0
    go_enter Tryz.func35, Tryz.ntmps35
    go_wp2_with fail
    refine H.out.mono ?_
    rintro e w1 ⟨rfl, B1⟩
    go_wp2_with fail
    go_ret
    exact ⟨rfl, B1⟩
end Go.Proofs.YtkfdikpnnkbgaaaGreatDoor
