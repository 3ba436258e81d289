/-
  A number is put into a set; whether a set is empty; the iterator over a set is made.
-/
import Derived.Test.YtkfdikpnnkbgaaaGreatDoorSB
import Derived.Test.YtkfdikpnnkbgaaaGreatDoorX
import Derived.BigQuiet
import Derived.Laws.StructEq
import Derived.Deep.MidRow
import Derived.ChangeKeysEq
import Derived.Test.YtkfdikpnnkbgaaaGreatDoorDB
namespace Go.Proofs.YtkfdikpnnkbgaaaGreatDoor
open Go.RowKit
set_option linter.unusedVariables false
set_option linter.unusedSimpArgs false

theorem and_nat (x y : Nat) (hx : x < 18446744073709551616) (hy : y < 18446744073709551616) : bits BinOp.and IntKind.u64 (x : Int) (y : Int) = ((x &&& y : Nat) : Int) := u64_and_nat x y hx hy
theorem or_nat (x y : Nat) (hx : x < 18446744073709551616) (hy : y < 18446744073709551616) : bits BinOp.or IntKind.u64 (x : Int) (y : Int) = ((x ||| y : Nat) : Int) := u64_or_nat x y hx hy
theorem pow_wrap (r : Nat) (hr : r < 64) : IntKind.u64.wrap (2 ^ r) = ((2 ^ r : Nat) : Int) := by
  have h : 2 ^ r < 18446744073709551616 := Nat.pow_lt_pow_right (a := 2) (by decide) hr
  have e : ((2 : Int) ^ r) = ((2 ^ r : Nat) : Int) := by norm_cast
  rw [IntKind.wrap_u64, e]
  generalize 2 ^ r = z at h
  omega
set_option maxHeartbeats 2000000 in
theorem add_any (g : Nat) (pre : Array Value) (t : TypeId) (W : List Nat) (n : Nat) (hW : OkW W) (hn : n < 2048) (w : World) (hg : w.heap[g]? = some (.cells (pA pre W) t (0, 0))) :
    Calls Tryz.prog 86 #[.pointer (some ⟨g, pre.size, none⟩), .int .i64 (n : Int)] w fun e w' => e = .returned (.bool (!inW W n)) ∧ w'.heap[g]? = some (.cells (pA pre (addW W n)) t (0, 0)) ∧ But (fun k => k = g) w w' := by
  have hlen := hW.len
  have c0 : (pA pre W)[pre.size + n / 64]? = some (.int .u64 ((W.getD (n / 64) 0 : Nat) : Int)) := pA_at (by omega)
  have hx := hW.lt (n / 64)
  have hset := pA_set pre W (n / 64) (W.getD (n / 64) 0 ||| 2 ^ (n % 64))
  have hbit := and_off (W.getD (n / 64) 0) (n % 64)
  have hin : inW W n = (W.getD (n / 64) 0).testBit (n % 64) := rfl
  have hadd : addW W n = W.set (n / 64) (W.getD (n / 64) 0 ||| 2 ^ (n % 64)) := rfl
  rw [hin, hadd]
  clear hin hadd
  have hr : n % 64 < 64 := by omega
  have e1 : (n : Int).tdiv 64 = ((n / 64 : Nat) : Int) := by rw [Int.tdiv_eq_ediv_of_nonneg (by omega)]; omega
  have e3 : (n : Int) / 64 = ((n / 64 : Nat) : Int) := by omega
  have e2 : (n : Int).tmod 64 = ((n % 64 : Nat) : Int) := by rw [Int.tmod_eq_emod_of_nonneg (by omega)]; omega
  have q1 : ((n / 64 : Nat) : Int) < 32 := by omega
  generalize n / 64 = q at *
  generalize n % 64 = r at *
  generalize W.getD q 0 = x at *
  have s1 := pow_wrap r hr
  have hp : 2 ^ r < 18446744073709551616 := Nat.pow_lt_pow_right (a := 2) (by decide) hr
  have s2 := and_nat x (2 ^ r) hx hp
  have s3 := or_nat x (2 ^ r) hx hp
  generalize 2 ^ r = y at s1 s2 s3 hset hbit hp ⊢
  have c1 : w.cell? ⟨g, pre.size + q, none⟩ = some (.int .u64 (x : Int)) := by rw [cell_of_row w g _ _ t (0, 0) hg]; exact c0
  have f1 : w.frozen? ⟨g, pre.size + q, none⟩ = false := frozen_of_row w g _ _ t hg
  have hsr := setCell_eq_setRow w g (pre.size + q) (pA pre W) t (0, 0) (.int .u64 ((x ||| y : Nat) : Int)) hg
  rw [hset] at hsr
  replace hset := hide hset
  replace hsr := hide hsr
  replace hg := hide hg
  generalize pre.size = o at *
  have hres : (((x &&& y : Nat) : Int) == 0) = !x.testBit r := by
    cases hb : x.testBit r with
    | true =>
      have : ¬ (x &&& y = 0) := fun h => by rw [hbit.1 h] at hb; cases hb
      simp; omega
    | false => have := hbit.2 hb; simp [this]
  generalize (x &&& y : Nat) = a1 at *
  generalize hor : (x ||| y : Nat) = a2 at *
  have r0 : (0 : Int) ≤ r := by omega
  clear hbit e3 hor
  go_enter Tryz.func86, Tryz.ntmps86
  go_wp2_with fail
  go_quiet (fail)
  go_wp2_with fail
  go_ret
  have hg2 : (w.drewN nq).heap[g]? = some (.cells (pA pre W) t (0, 0)) := hg.out
  have hs2 := setCell_eq_setRow (w.drewN nq) g (o + q) (pA pre W) t (0, 0) (.int .u64 (a2 : Int)) hg2
  rw [hset.out] at hs2
  rw [hs2]
  exact ⟨rfl, setRow_heap _ _ _ _ t (0, 0) hg2, ((But.refl (fun k => k = g) w).drewN nq).setRow (fun _ => rfl) _⟩
theorem mid_words {w : World} {g : Nat} {pre : Array Value} {t : TypeId} {W : List Nat} (hg : w.heap[g]? = some (.cells (pA pre W) t (0, 0))) : w.rangeAt g pre.size (wA W).toList := fun j v hv => by
  rw [cell_of_row w g _ _ t (0, 0) hg]
  unfold pA
  rw [Array.getElem?_append_right (by omega), Nat.add_sub_cancel_left]
  simpa using hv
theorem load99 {w : World} {g : Nat} {pre : Array Value} {t : TypeId} {W : List Nat} (hW : OkW W) (hg : w.heap[g]? = some (.cells (pA pre W) t (0, 0))) : (loadVar 107 ⟨g, pre.size, none⟩).run Tryz.prog w = .ok (.agg (wA W)) w := by
  have hi : (Tryz.prog.info? 107).map (·.size) = some 32 := by kernel_rfl
  have := run_loadVar_mid (P := Tryz.prog) w g pre.size 107 (wA W).toList _ (mid_words hg) Tryz.underlying107 rfl (by rw [hi, Array.length_toList, wA_size, hW.len])
  simpa using this
theorem load101 {w : World} {g : Nat} {pre : Array Value} {t : TypeId} {W : List Nat} (hW : OkW W) (hg : w.heap[g]? = some (.cells (pA pre W) t (0, 0))) : (loadVar 109 ⟨g, pre.size, none⟩).run Tryz.prog w = .ok (.agg (wA W)) w := by
  have hi : (Tryz.prog.info? 109).map (·.size) = some 32 := by kernel_rfl
  have := run_loadVar_mid (P := Tryz.prog) w g pre.size 109 (wA W).toList _ (mid_words hg) Tryz.underlying109 rfl (by rw [hi, Array.length_toList, wA_size, hW.len])
  simpa using this
theorem plain22 : Tryz.prog.plainKey 22 = true := by kernel_rfl
theorem eq_items (W V : List Nat) (hW : OkW W) (hV : OkW V) (d : Nat) (w : World) : ∀ ks : List Nat, (∀ k ∈ ks, k < 32) → (Op.eqItems (d + 1) 22 1 (wA W) (wA V) ks).run Tryz.prog w = .ok (ks.all fun k => W.getD k 0 == V.getD k 0) w
  | [], _ => by simp [Op.eqItems]
  | k :: ks, h => by
    have hk := h k (by simp)
    have ih := eq_items W V hW hV d w ks (fun j hj => h j (by simp [hj]))
    have p1 : (part 22 (wA W) (k * 1)).run Tryz.prog w = .ok (.int .u64 ((W.getD k 0 : Nat) : Int)) w := run_part_plain _ plain22 (by rw [Nat.mul_one]; exact wA_at (by rw [hW.len]; exact hk))
    have p2 : (part 22 (wA V) (k * 1)).run Tryz.prog w = .ok (.int .u64 ((V.getD k 0 : Nat) : Int)) w := run_part_plain _ plain22 (by rw [Nat.mul_one]; exact wA_at (by rw [hV.len]; exact hk))
    have he : (Op.equalIn (d + 1) 22 (.int .u64 ((W.getD k 0 : Nat) : Int)) (.int .u64 ((V.getD k 0 : Nat) : Int))).run Tryz.prog w = .ok (((W.getD k 0 : Nat) : Int) == ((V.getD k 0 : Nat) : Int)) w := run_equalIn_int w d 22 .u64 .u64 _ _ Tryz.underlying22
    have e2 : (((W.getD k 0 : Nat) : Int) == ((V.getD k 0 : Nat) : Int)) = (W.getD k 0 == V.getD k 0) := by
      rw [Bool.eq_iff_iff, beq_iff_eq, beq_iff_eq]
      exact Int.ofNat_inj
    simp only [Op.eqItems, Sem.run_bind, p1, p2, he, Result.andThen_ok, e2, List.all_cons]
    cases (W.getD k 0 == V.getD k 0) <;> simp [ih]
theorem same_words {W V : List Nat} (hW : OkW W) (hV : OkW V) : ((List.range 32).all fun k => W.getD k 0 == V.getD k 0) = decide (W = V) := by
  rw [Bool.eq_iff_iff, List.all_eq_true, decide_eq_true_iff]
  constructor
  · intro h
    apply List.ext_getElem?
    intro k
    by_cases hk : k < 32
    · have := h k (by simpa using hk)
      have l1 : k < W.length := by rw [hW.len]; exact hk
      have l2 : k < V.length := by rw [hV.len]; exact hk
      rw [List.getElem?_eq_getElem l1, List.getElem?_eq_getElem l2]
      simpa [List.getD_eq_getElem?_getD, List.getElem?_eq_getElem l1, List.getElem?_eq_getElem l2] using this
    · rw [List.getElem?_eq_none (by rw [hW.len]; omega), List.getElem?_eq_none (by rw [hV.len]; omega)]
  · rintro rfl k _
    simp
theorem fields101 : Tryz.prog.underlying 109 = some (.struct (Tryz.prog.fieldsOf 109)) := by kernel_rfl
theorem held101 : Tryz.prog.stoodInHeld 109 = false := by kernel_rfl
theorem flds101 : (Tryz.prog.fieldsOf 109).toList.map (fun f => (f.type, f.offset, f.name)) = [(107, 0, "words")] := by kernel_rfl
theorem run_eq101 (W V : List Nat) (hW : OkW W) (hV : OkW V) (w : World) : (binOp .eql 109 (.agg (wA W)) (.agg (wA V))).run Tryz.prog w = .ok (.bool (decide (W = V))) w := by
  have hf : ∃ f, (Tryz.prog.fieldsOf 109).toList = [f] ∧ f.type = 107 ∧ f.offset = 0 ∧ f.name = "words" := by
    have h := flds101
    generalize (Tryz.prog.fieldsOf 109).toList = l at h
    match l with
    | [] => simp at h
    | [f] => simp at h; exact ⟨f, rfl, h.1, h.2.1, h.2.2⟩
    | _ :: _ :: _ => simp at h
  obtain ⟨f, hf, f1, f2, f3⟩ := hf
  have hi : ∃ i, Tryz.prog.info? 22 = some i := Option.isSome_iff_exists.1 (by kernel_rfl)
  obtain ⟨i, hi⟩ := hi
  have hc : Tryz.prog.cellsOf 22 = 1 := by kernel_rfl
  have i99 : (Tryz.prog.info? 107).map (·.size) = some 32 := by kernel_rfl
  have hp : ∀ (X : List Nat), OkW X → ∀ w, (part 107 (wA X) 0).run Tryz.prog w = .ok (.agg (wA X)) w := fun X hX w => by
    have ha : ∀ w, (isAgg 107).run Tryz.prog w = .ok true w := fun w => by kernel_rfl
    have hz : ∀ w, (sizeOf 107).run Tryz.prog w = .ok 32 w := fun w => by kernel_rfl
    have e : (wA X).extract 0 (0 + 32) = wA X := by
      have : (wA X).size = 32 := by rw [wA_size, hX.len]
      rw [Nat.zero_add, ← this, Array.extract_size]
    unfold part
    simp only [Sem.run_bind, ha, Result.andThen_ok, if_true, hz, Sem.run_pure, e]
  have h9 : ∀ w, (Op.equalIn 9999 107 (.agg (wA W)) (.agg (wA V))).run Tryz.prog w = .ok (decide (W = V)) w := fun w => by
    rw [run_equalIn_array w 9998 (e := 22) (n := 32) (wA W) (wA V) Tryz.underlying107 hi, hc, eq_items W V hW hV 9997 w _ (fun k hk => by simpa using hk), same_words hW hV]
  rw [run_eql_struct, run_equalIn_struct w 9999 109 (wA W) (wA V) fields101 held101, hf]
  simp [Op.eqFields, f1, f2, f3, hp W hW, hp V hV, h9]
  split <;> simp_all
theorem run_build101 (w : World) (ev : Operand → Value) (dst : Option Nat) (ty : TypeId) (pos : String) (after : Array Edge) : (execOp ev ⟨dst, .build 109 #[], ty, pos, after, none⟩).run Tryz.prog w = .ok (.value (.agg (wA noW))) w := by
  unfold execOp
  kernel_rfl
section
variable {w w' : World} {ops : Array Oper} {rest : List Oper} {a : Act} {Q : Exit → Act → World → Prop} {dst : Option Nat} {x y : Operand} {ty t : TypeId} {pos : String} {after : Array Edge}
theorem wl_loadV0 (t : TypeId) {ad : Addr} {v : Value} (hx : a.eval x = .pointer (some ad)) (hl : (loadVar t ad).run Tryz.prog w = .ok v w)
    (k : wpList Tryz.prog ops Q rest (a.put dst v) w) : wpList Tryz.prog ops Q (⟨dst, .load t x, ty, pos, after, none⟩ :: rest) a w := by
  refine wpList_plain rfl fun K hK => ?_
  unfold Oper.wp execOp
  simp only [hx, Instr.loadAt, Instr.sureAddr, Sem.run_bind, Sem.run_pure, Result.andThen_ok, hl]
  exact hK _ _ k
theorem at_build' (t : TypeId) (xs : Array (Nat × Operand)) (h : wpList Tryz.prog ops Q (⟨dst, .build t xs, ty, pos, after, none⟩ :: rest) a w) : wpList Tryz.prog ops Q (⟨dst, .build t xs, ty, pos, after, none⟩ :: rest) a w := h
theorem wl_eql101 {t2 : TypeId} {W V : List Nat} {b : Bool} (hx : a.eval x = .agg (wA W)) (hy : a.eval y = .agg (wA V)) (he : (binOp .eql 109 (.agg (wA W)) (.agg (wA V))).run Tryz.prog w = .ok (.bool b) w)
    (k : wpList Tryz.prog ops Q rest (a.put dst (.bool b)) w) : wpList Tryz.prog ops Q (⟨dst, .binOp .eql 109 x y t2, ty, pos, after, none⟩ :: rest) a w := by
  refine wl_val (w' := w) ?_ k
  have kg : Tryz.prog.eqGuardType Tryz.prog.depth 109 = false := by kernel_rfl
  have hq : (eqGuard .eql 109 x y (.agg (wA W)) (.agg (wA V))).run Tryz.prog w = .ok () w := by
    unfold eqGuard
    simp [kg]
  unfold execOp
  simp only [hx, hy, Sem.run_bind, hq, he, Result.andThen_ok, Sem.run_pure]
theorem at_eql (t t2 : TypeId) (h : wpList Tryz.prog ops Q (⟨dst, .binOp .eql t x y t2, ty, pos, after, none⟩ :: rest) a w) : wpList Tryz.prog ops Q (⟨dst, .binOp .eql t x y t2, ty, pos, after, none⟩ :: rest) a w := h
end
set_option maxHeartbeats 400000 in
theorem isEmpty_any (g : Nat) (pre : Array Value) (t : TypeId) (W : List Nat) (hW : OkW W) (w : World) (hg : w.heap[g]? = some (.cells (pA pre W) t (0, 0))) :
    Calls Tryz.prog 54 #[.pointer (some ⟨g, pre.size, none⟩)] w fun e w' => e = .returned (.bool (decide (W = noW))) ∧ w' = w := by
  have hl := hide (load101 hW hg)
  have he := hide (run_eq101 W noW hW OkW.no w)
  generalize decide (W = noW) = b at *
  generalize pre.size = o at *
  clear hg
  go_enter Tryz.func54, Tryz.ntmps54
  go_wp2_with (first | ((with_reducible refine at_load 109 ?_); refine wl_loadV0 109 rfl hl.out ?_) | ((with_reducible refine at_build' 109 _ ?_); refine wl_val (run_build101 _ _ _ _ _ _) ?_) | ((with_reducible refine at_eql 109 _ ?_); refine wl_eql101 rfl rfl he.out ?_))
  go_ret
  exact ⟨rfl, rfl⟩
set_option maxHeartbeats 400000 in
theorem all_in (n : Nat) (ad : Addr) (w : World) : CallsIn Fence.wide n Tryz.prog 53 #[.pointer (some ad)] w fun e w' => ∃ g, e = .returned (.func (.func 82) #[] #[.pointer (some ⟨g, 0, none⟩)]) ∧ w'.heap[g]? = some (.cells #[.pointer (some ad)] 114 (0, 0)) ∧ Below w.heap.size w w' ∧ w.heap.size ≤ g := by
  have hmf : ∀ (fn : Fn) (first cap : Array Value) (w : World), (Instr.makeFunc fn first cap).run Tryz.prog w = .ok (.func fn first cap) w := fun _ _ _ _ => rfl
  refine callsIn_of_wp Tryz.func53 rfl trivial ?_ rfl
  simp only [Tryz.ntmps53, List.size_toArray, List.length_cons, List.length_nil, Nat.reduceAdd, Nat.reduceSub, Array.replicate_succ, Array.replicate_zero, List.push_toArray, List.append_toArray, List.nil_append, List.cons_append]
  gi_wp2
  go_ret
  exact ⟨_, rfl, heap_alloc_new w _, (Below.refl _ w).alloc (Nat.le_refl _) _, Nat.le_refl _⟩
end Go.Proofs.YtkfdikpnnkbgaaaGreatDoor
