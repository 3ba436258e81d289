/-
  slices.Repeat of one code.
-/
import Derived.Test.YtkfdikpnnkbgaaaGreatDoorCG
import Derived.Laws.CopyRow
import Derived.Laws.MakeOwn
import Derived.Shelf.Lay
import Derived.Shelf.Bits.Mul64
namespace Go.Proofs.YtkfdikpnnkbgaaaGreatDoor
open Go.RowKit Go.Shelf Go.Lib
set_option linter.unusedVariables false
set_option linter.unusedSimpArgs false

shelf_lay Lays.n212 Nm 212 at Tryz as Tryz.laysMU
theorem mul_any (x y : Nat) (hx : x < 18446744073709551616) (hy : y < 18446744073709551616) (w : World) : Calls Tryz.prog 135 #[.int .u64 x, .int .u64 y] w fun e w' => e = .returned (.tuple #[.int .u64 ((x * y / 18446744073709551616 : Nat) : Int), .int .u64 ((x * y % 18446744073709551616 : Nat) : Int)]) ∧ w' = w :=
  Any.bits_Mul Tryz.laysMU x y hx hy w
theorem infoC : ∃ i, Tryz.prog.info? 66 = some i ∧ i.zero = some (cdV 0 .nilFunc) ∧ i.size = 2 ∧ i.bytes = 16 := by
  have h : (Tryz.prog.info? 66).map (fun i => (i.zero, i.size, i.bytes)) = some (some (cdV 0 .nilFunc), 2, 16) := by kernel_rfl
  cases hi : Tryz.prog.info? 66 with
  | none => rw [hi] at h; cases h
  | some i =>
    rw [hi] at h
    simp only [Option.map_some, Option.some.injEq, Prod.mk.injEq] at h
    exact ⟨i, rfl, h.1, h.2.1, h.2.2⟩
/-- copy of codes, as it runs. -/
theorem run_copy2 (w : World) (ty : TypeId) (g o dLen dCap : Nat) (a : Addr) (sLen sCap : Nat) (cur : Array Value) (cs : List Value) (hg : w.heap[g]? = some (.cells cur 66 (0, 0))) (hn : cs.length = Nat.min sLen dLen * 2)
    (hsrc : ∀ j v, cs[j]? = some v → w.cell? (a.add j) = some v) (hfit : o + cs.length ≤ cur.size) (h1 : ∀ v ∈ cs, v.oneCell' = true) :
    (Builtin.copy_ #[149, 149] ty #[.slice (some ⟨g, o, none⟩) dLen dCap, .slice (some a) sLen sCap]).run Tryz.prog w =
      .ok (goInt (Nat.min sLen dLen)) (w.setRow g (cur.toList.take o ++ cs ++ cur.toList.drop (o + cs.length)).toArray) := by
  have hl := run_loadCells_list (P := Tryz.prog) w a cs hsrc
  have hst := run_storeCells_at Tryz.prog g o 66 cs 0 cur w hg (by simpa using hfit) h1
  obtain ⟨i, hi, _, hs, _⟩ := infoC
  simp [Builtin.copy_, run_underlying Tryz.underlying149, Builtin.lenOf, Builtin.firstCells, sizeOf, typeInfo, hi, hs, ← hn, hl, hst]
/-- The same two cells, so many times. -/
def rp2 (x y : Value) : Nat → List Value
  | 0 => []
  | k + 1 => x :: y :: rp2 x y k
theorem rp2_len (x y : Value) : ∀ k, (rp2 x y k).length = k * 2
  | 0 => rfl
  | k + 1 => by simp [rp2, rp2_len x y k]; omega
theorem rp2_add (x y : Value) : ∀ k j, rp2 x y (k + j) = rp2 x y k ++ rp2 x y j
  | 0, j => by simp [rp2]
  | k + 1, j => by rw [show k + 1 + j = k + j + 1 by omega]; simp [rp2, rp2_add x y k j]
theorem rp2_mem (x y : Value) : ∀ k, ∀ v ∈ rp2 x y k, v = x ∨ v = y
  | 0, v, h => by simp [rp2] at h
  | k + 1, v, h => by
    simp only [rp2, List.mem_cons] at h
    rcases h with h | h | h
    · exact .inl h
    · exact .inr h
    · exact rp2_mem x y k v h
theorem made2 (n : Nat) : (madeCells (cdV 0 .nilFunc).cells (n * 2)).toList = rp2 (.int .i64 0) .nilFunc n := by
  apply List.ext_getElem?
  intro j
  have h1 : ∀ n j, j < n * 2 → (rp2 (.int .i64 0) .nilFunc n)[j]? = some (if j % 2 = 0 then .int .i64 0 else .nilFunc) := fun n => by
    induction n with
    | zero => intro j h; omega
    | succ n ih =>
      intro j h
      match j with
      | 0 => rfl
      | 1 => rfl
      | j + 2 =>
        simp only [rp2, List.getElem?_cons_succ]
        rw [ih j (by omega)]
        simp
  by_cases hj : j < n * 2
  · rw [h1 n j hj]
    rcases (show j % 2 = 0 ∨ j % 2 = 1 by omega) with h | h
    · simp [madeCells, hj, h, cdV, cdA, Value.cells]
    · simp [madeCells, hj, h, cdV, cdA, Value.cells]
  · rw [List.getElem?_eq_none (by simp [madeCells]; omega), List.getElem?_eq_none (by rw [rp2_len]; omega)]
section
variable {S : Nat → Prop} {w0 w w' : World} {L : List Ent} {ops : Array Oper} {rest : List Oper} {o : Oper} {a : Act} {Q : Exit → Act → World → Prop} {K : Act → World → Prop} {E : Prop} {dst : Option Nat} {x y : Operand} {ty : TypeId} {pos : String} {after : Array Edge}
theorem at_make (t : TypeId) (h : wpList Tryz.prog ops Q (⟨dst, .makeSlice t x y, ty, pos, after, none⟩ :: rest) a w) : wpList Tryz.prog ops Q (⟨dst, .makeSlice t x y, ty, pos, after, none⟩ :: rest) a w := h
/-- A slice of codes is made. -/
theorem wl_make99 {n : Nat} (hn : n ≤ 1000000) (hx : a.eval x = .int .i64 (n : Int)) (hy : a.eval y = .int .i64 (n : Int)) (k : ∀ g w2, g = w.heap.size → w2.heap[g]? = some (.cells (rp2 (.int .i64 0) .nilFunc n).toArray 66 (0, 0)) → Below w.heap.size w w2 → wpList Tryz.prog ops Q rest (a.put dst (.slice (some ⟨g, 0, none⟩) n n)) w2) :
    wpList Tryz.prog ops Q (⟨dst, .makeSlice 149 x y, ty, pos, after, none⟩ :: rest) a w := by
  obtain ⟨i, hi, hz, hs, hb⟩ := infoC
  have hr := run_make (P := Tryz.prog) w 149 66 i (cdV 0 .nilFunc) Tryz.underlying149 hi hz .i64 .i64 (n : Int) (n : Int) (by omega) (Int.le_refl _) (by rw [hb]; omega) (by omega)
  refine wl_val (w' := w.alloc (.cells (madeCells (cdV 0 .nilFunc).cells (n * 2)) 66)) ?_ (k _ _ rfl (by rw [heap_alloc_new, ← made2 n]) ((Below.refl _ w).alloc (Nat.le_refl _) _))
  unfold execOp
  simp only [hx, hy, Sem.run_bind, hr, Result.andThen_ok, Sem.run_pure, Int.toNat_natCast, hs]
theorem at_copy (h : wpList Tryz.prog ops Q (⟨dst, .call { callee := .builtin .copy, args := #[x, y], argTypes := #[149, 149] }, ty, pos, after, none⟩ :: rest) a w) : wpList Tryz.prog ops Q (⟨dst, .call { callee := .builtin .copy, args := #[x, y], argTypes := #[149, 149] }, ty, pos, after, none⟩ :: rest) a w := h
theorem wl_copy99 {v1 v2 u : Value} (hx : a.eval x = v1) (hy : a.eval y = v2) (hr : (Builtin.copy_ #[149, 149] ty #[v1, v2]).run Tryz.prog w = .ok u w') (h : wpList Tryz.prog ops Q rest (a.put dst u) w') : wpList Tryz.prog ops Q (⟨dst, .call { callee := .builtin .copy, args := #[x, y], argTypes := #[149, 149] }, ty, pos, after, none⟩ :: rest) a w := by
  refine wl_val ?_ h
  simp [execOp, resolve, invoke, builtin, hx, hy, hr, Result.andThen]
theorem step_copy99 (hgd : o.guard = none) (s x : Operand) (ho : o.op = .call { callee := .builtin .copy, args := #[s, x], argTypes := #[149, 149] }) (v1 v2 v' : Value) (w' : World) (hs : a.eval s = v1) (hx : a.eval x = v2)
    (hr : (Builtin.copy_ #[149, 149] o.type #[v1, v2]).run Tryz.prog w = .ok v' w') (h : K (a.put o.dst v') w') :
    if Region.wanted o (yielded ops a.tmps) = true then Oper.wp Tryz.prog o a w K Q else E := by
  have hw : Region.wanted o (yielded ops a.tmps) = true := by simp [Region.wanted, hgd]
  rw [if_pos hw]
  unfold Oper.wp
  simp [execOp, ho, resolve, invoke, builtin, hs, hx, hr, Result.andThen]
  exact h
end
/-- Between the rounds of Repeat: m of n are filled. -/
structure RpI (w : World) (g n : Nat) (x f : Value) (m : Nat) (W : World) : Prop where
  row : W.heap[g]? = some (.cells (rp2 x f m ++ rp2 (.int .i64 0) .nilFunc (n - m)).toArray 66 (0, 0))
  bel : Below w.heap.size w W
  le : w.heap.size ≤ g
theorem RpI.copy {w W : World} {g n m : Nat} {x f : Value} (hx : x.oneCell' = true) (hf : f.oneCell' = true) (h : RpI w g n x f m W) (hm : m < n) (ty : TypeId) : ∃ W', (Builtin.copy_ #[149, 149] ty #[.slice (some ⟨g, m * 2, none⟩) (n - m) (n - m), .slice (some ⟨g, 0, none⟩) m n]).run Tryz.prog W = .ok (goInt (Nat.min m (n - m))) W' ∧ RpI w g n x f (m + Nat.min m (n - m)) W' := by
  obtain ⟨k, hk⟩ : ∃ k, k = Nat.min m (n - m) := ⟨_, rfl⟩
  have hk1 : k ≤ m := by rw [hk]; exact Nat.min_le_left _ _
  have hk2 : k ≤ n - m := by rw [hk]; exact Nat.min_le_right _ _
  have hl : (rp2 x f k).length = k * 2 := rp2_len x f k
  refine ⟨_, run_copy2 W ty g (m * 2) (n - m) (n - m) ⟨g, 0, none⟩ m n _ (rp2 x f k) h.row (by rw [hl, hk]) (fun j v hj => ?_) (by simp [rp2_len]; omega) (fun v hv => by rcases rp2_mem x f k v hv with rfl | rfl; exact hx; exact hf), ?_, ?_, h.le⟩
  · rw [add_plain, Nat.zero_add, cell_of_row W g j _ 66 (0, 0) h.row]
    have e : rp2 x f m = rp2 x f k ++ rp2 x f (m - k) := by rw [← rp2_add]; congr 1; omega
    rw [e, List.append_assoc]
    have hj' := (List.getElem?_eq_some_iff.1 hj).1
    simp only [List.getElem?_toArray]
    rw [List.getElem?_append_left hj']
    exact hj
  · rw [← hk]
    rw [setRow_heap W g _ _ 66 (0, 0) h.row]
    have e : rp2 (.int .i64 0) .nilFunc (n - m) = rp2 (.int .i64 0) .nilFunc k ++ rp2 (.int .i64 0) .nilFunc (n - (m + k)) := by rw [← rp2_add]; congr 1; omega
    have l1 := rp2_len x f m
    have l2 := rp2_len (.int .i64 0) .nilFunc k
    congr 2
    rw [rp2_add, e, List.append_assoc]
    simp only [List.toList_toArray]
    rw [List.take_append_of_le_length (by omega), List.take_of_length_le (by omega)]
    rw [List.drop_append, List.drop_append]
    simp [l1, l2, hl]
    rw [List.drop_eq_nil_of_le (by omega), List.drop_eq_nil_of_le (by omega)]
    simp
  · exact h.bel.trans ⟨rfl, rfl, rfl, by simp [World.setRow], fun j hj => setRow_other W g j _ (by have := h.le; omega)⟩
set_option maxHeartbeats 2000000 in
set_option maxRecDepth 100000 in
theorem repeat_any (w : World) (gs z : Nat) (f : Value) (n : Nat) (hn : n ≤ 1000) (hf : f.oneCell' = true) (hgs : w.heap[gs]? = some (.cells (cdA z f) 66 (0, 0))) :
    Calls Tryz.prog 125 #[.slice (some ⟨gs, 0, none⟩) 1 1, .int .i64 (n : Int)] w fun e w' => ∃ g, e = .returned (.slice (some ⟨g, 0, none⟩) n n) ∧ w.heap.size ≤ g ∧ w'.heap[g]? = some (.cells (rp2 (.int .i64 (z : Int)) f n).toArray 66 (0, 0)) ∧ Below w.heap.size w w' := by
  have hgl := (Array.getElem?_eq_some_iff.1 hgs).1
  have hu : (IntKind.u64.wrap (n : Int)) = (n : Int) := by rw [IntKind.wrap_u64]; omega
  have hu2 : (IntKind.i64.wrap (n : Int)) = (n : Int) := by rw [IntKind.wrap_i64]; omega
  have n1 : ¬ ((n : Int) < 0) := by omega
  have MU := hide (mul_any 1 n (by omega) (by omega) w)
  rw [show 1 * n / 18446744073709551616 = 0 by omega, show 1 * n % 18446744073709551616 = n by omega] at MU
  have m1 : ¬ ((9223372036854775807 : Int) < (n : Int)) := by omega
  obtain ⟨m0, hm0⟩ : ∃ m0, m0 = Nat.min 1 n := ⟨_, rfl⟩
  replace hgs := hide hgs
  go_enter Tryz.func125, Tryz.ntmps125
  go_wp2_with fail
  refine MU.out.mono ?_
  rintro e w1 ⟨rfl, rfl⟩
  have hq : Hid (∀ (g : Nat) (w2 : World) (ty : TypeId), g = w1.heap.size → w2.heap[g]? = some (.cells (rp2 (.int .i64 0) .nilFunc n).toArray 66 (0, 0)) → Below w1.heap.size w1 w2 → ∃ w3, (Builtin.copy_ #[149, 149] ty #[.slice (some ⟨g, 0, none⟩) n n, .slice (some ⟨gs, 0, none⟩) 1 1]).run Tryz.prog w2 = .ok (.int .i64 (m0 : Int)) w3 ∧ RpI w1 g n (.int .i64 (z : Int)) f m0 w3) := fun g w2 ty hg hrow B2 => by
    have hl : (rp2 (.int .i64 (z : Int)) f m0).length = m0 * 2 := rp2_len _ _ _
    have hm1 : m0 ≤ 1 := by rw [hm0]; exact Nat.min_le_left _ _
    have hm2 : m0 ≤ n := by rw [hm0]; exact Nat.min_le_right _ _
    have hc := run_copy2 w2 ty g 0 n n ⟨gs, 0, none⟩ 1 1 _ (rp2 (.int .i64 (z : Int)) f m0) hrow (by rw [hl, hm0]) (fun j v hj => by
      rw [add_plain, Nat.zero_add, cell_of_row w2 gs j _ 66 (0, 0) ((B2.block gs hgl).trans hgs.out)]
      rcases (show m0 = 0 ∨ m0 = 1 by omega) with h | h
      · rw [h] at hj; simp [rp2] at hj
      · rw [h] at hj
        match j, hj with
        | 0, hj => simpa [rp2, cdA] using hj
        | 1, hj => simpa [rp2, cdA] using hj
        | j + 2, hj => simp [rp2] at hj) (by simp [rp2_len]; omega) (fun v hv => by rcases rp2_mem _ f _ v hv with rfl | rfl; rfl; exact hf)
    rw [← hm0] at hc
    refine ⟨_, hc, ?_, B2.trans ⟨rfl, rfl, rfl, by simp [World.setRow], fun j hj => setRow_other w2 g j _ (by omega)⟩, by omega⟩
    rw [setRow_heap w2 g _ _ 66 (0, 0) hrow]
    have e : rp2 (.int .i64 0) .nilFunc n = rp2 (.int .i64 0) .nilFunc m0 ++ rp2 (.int .i64 0) .nilFunc (n - m0) := by rw [← rp2_add]; congr 1; omega
    have l2 := rp2_len (.int .i64 0) .nilFunc m0
    congr 2
    simp only [List.take_zero, List.nil_append, Nat.zero_add]
    rw [hl, e, List.drop_append]
    simp [l2]
  have hm3 : Hid (m0 ≤ n ∧ (n = 0 ∨ 0 < m0)) := by
    show _ ∧ _
    have h1 : m0 = min 1 n := hm0
    omega
  replace hm0 := hide hm0
  go_wp2_with (first | ((with_reducible refine at_make 149 ?_); refine wl_make99 (n := n) (by omega) rfl rfl ?_; intro g w2 hg hrow B2; obtain ⟨w3, hcp, hRp⟩ := hq.out g w2 3 hg hrow B2; replace hcp := hide hcp; replace hRp := hide hRp; replace hg := hide hg; replace hrow := hide hrow; replace B2 := hide B2) | ((with_reducible refine at_copy ?_); refine wl_copy99 rfl rfl hcp.out ?_))
  go_loopw [8] (fun mv wr => ∃ m : Nat, mv = .int .i64 (m : Int) ∧ m ≤ n ∧ Hid (n = 0 ∨ 0 < m) ∧ Hid (RpI w1 g n (.int .i64 (z : Int)) f m wr)) (fun mv _ => n - (intOf mv).toNat)
  case atStart => exact ⟨m0, rfl, hm3.out.1, hm3.out.2, hRp⟩
  case round =>
    obtain ⟨m, rfl, hmn, hm0', hR⟩ := hrel
    by_cases hlt : m < n
    · have i1 : (m : Int) < (n : Int) := by omega
      have i2 : (m : Int) ≤ (n : Int) := by omega
      have i3 : (0 : Int) ≤ (m : Int) := by omega
      obtain ⟨w5, hcp5, hR5⟩ := (⟨hR.out.row, hR.out.bel.drew, hR.out.le⟩ : RpI w1 g n (.int .i64 (z : Int)) f m wr.drew).copy rfl hf hlt 3
      have hif : (if n = m then (some ⟨g, 0, none⟩ : Option Addr) else some ⟨g, m * 2, none⟩) = some ⟨g, m * 2, none⟩ := if_neg (by omega)
      obtain ⟨k5, hk5⟩ : ∃ k5, k5 = Nat.min m (n - m) := ⟨_, rfl⟩
      obtain ⟨d5, hd5⟩ : ∃ d5, d5 = n - m := ⟨_, rfl⟩
      rw [← hk5] at hcp5 hR5
      have hk6 : 0 < k5 := by
        have h1 : k5 = min m (n - m) := hk5
        have := hm0'.out
        omega
      have hk7 : k5 ≤ n - m := by rw [hk5]; exact Nat.min_le_right _ _
      have e5 : IntKind.i64.wrap ((m : Int) + (k5 : Int)) = ((m + k5 : Nat) : Int) := by rw [IntKind.wrap_i64]; omega
      replace hcp5 := hide hcp5
      replace hR5 := hide hR5
      replace hk5 := hide hk5
      have hltH := hide hlt
      have hcopy : Hid (∀ w', w' = wr → True) := fun _ _ => trivial
      go_wp2_with fail
      refine wp_region_noPanic ?_
      refine wp_region_held_drew (S := (fun _ => True)) (by kernel_rfl) trivial (fun hH0 => ?_)
      refine wpAnyH_take (i := 0) (oi := { dst := some 38, op := Op.move (Operand.tmp 8), type := 3, pos := "slices.go:528", after := #[], guard := none }) (v := ?_) rfl (by kernel_rfl) (by kernel_rfl) (by kernel_rfl) (fun _ _ _ h => h) (Or.inl ⟨by rfl, ?_⟩) hH0 ?_
      rotate_left
      · intro w' hw'
        obtain _ := hw'
        go_simp
        try with_reducible rfl
      try simp only [Act.put, List.setIfInBounds_toArray, List.set_cons_zero, List.set_cons_succ]
      refine wpAnyH_take (i := 1) (oi := { dst := some 39, op := Op.move (Operand.tmp 7), type := 149, pos := "slices.go:528", after := #[], guard := none }) (v := ?_) rfl (by kernel_rfl) (by kernel_rfl) (by kernel_rfl) (fun _ _ _ h => h) (Or.inl ⟨by rfl, ?_⟩) hH0 ?_
      rotate_left
      · intro w' hw'
        obtain _ := hw'
        go_simp
        try with_reducible rfl
      try simp only [Act.put, List.setIfInBounds_toArray, List.set_cons_zero, List.set_cons_succ]
      refine wpAnyH_take (i := 2) (oi := { dst := some 40, op := Op.move (Operand.tmp 8), type := 3, pos := "slices.go:528", after := #[], guard := none }) (v := ?_) rfl (by kernel_rfl) (by kernel_rfl) (by kernel_rfl) (fun _ _ _ h => h) (Or.inl ⟨by rfl, ?_⟩) hH0 ?_
      rotate_left
      · intro w' hw'
        obtain _ := hw'
        go_simp
        try with_reducible rfl
      try simp only [Act.put, List.setIfInBounds_toArray, List.set_cons_zero, List.set_cons_succ]
      refine wpAnyH_take (i := 3) (oi := { dst := some 41, op := Op.slice 149 (Operand.tmp 39) (some (Operand.tmp 40)) none none, type := 149, pos := "slices.go:528", after := #[{ on := 1, ground := Ground.data }, { on := 2, ground := Ground.data }], guard := none }) (v := ?_) rfl (by kernel_rfl) (by kernel_rfl) (by kernel_rfl) (fun _ _ _ h => h) (Or.inl ⟨by rfl, ?_⟩) hH0 ?_
      rotate_left
      · intro w' hw'
        obtain _ := hw'
        go_simp
        try with_reducible rfl
      try simp only [Act.put, List.setIfInBounds_toArray, List.set_cons_zero, List.set_cons_succ]
      refine wpAnyH_take (i := 4) (oi := { dst := some 42, op := Op.move (Operand.tmp 7), type := 149, pos := "slices.go:528", after := #[], guard := none }) (v := ?_) rfl (by kernel_rfl) (by kernel_rfl) (by kernel_rfl) (fun _ _ _ h => h) (Or.inl ⟨by rfl, ?_⟩) hH0 ?_
      rotate_left
      · intro w' hw'
        obtain _ := hw'
        go_simp
        try with_reducible rfl
      try simp only [Act.put, List.setIfInBounds_toArray, List.set_cons_zero, List.set_cons_succ]
      refine wpAnyH_take (i := 5) (oi := { dst := some 43, op := Op.move (Operand.tmp 8), type := 3, pos := "slices.go:528", after := #[], guard := none }) (v := ?_) rfl (by kernel_rfl) (by kernel_rfl) (by kernel_rfl) (fun _ _ _ h => h) (Or.inl ⟨by rfl, ?_⟩) hH0 ?_
      rotate_left
      · intro w' hw'
        obtain _ := hw'
        go_simp
        try with_reducible rfl
      try simp only [Act.put, List.setIfInBounds_toArray, List.set_cons_zero, List.set_cons_succ]
      refine wpAnyH_take (i := 6) (oi := { dst := some 44, op := Op.slice 149 (Operand.tmp 42) none (some (Operand.tmp 43)) none, type := 149, pos := "slices.go:528", after := #[{ on := 4, ground := Ground.data }, { on := 5, ground := Ground.data }], guard := none }) (v := ?_) rfl (by kernel_rfl) (by kernel_rfl) (by kernel_rfl) (fun _ _ _ h => h) (Or.inl ⟨by rfl, ?_⟩) hH0 ?_
      rotate_left
      · intro w' hw'
        obtain _ := hw'
        go_simp
        try with_reducible rfl
      try simp only [Act.put, List.setIfInBounds_toArray, List.set_cons_zero, List.set_cons_succ]
      refine wpAnyH_ready (rs := [7]) (by kernel_rfl) (by simp) ?_
      refine AllReadyH.cons (o := { dst := some 45, op := Op.call { callee := Callee.builtin Builtin.copy, args := #[Operand.tmp 41, Operand.tmp 44], argTypes := #[149, 149] }, type := 3, pos := "slices.go:528", after := #[{ on := 3, ground := Ground.data }, { on := 6, ground := Ground.data }], guard := none }) rfl (fun K hK => ?_) AllReadyH.nil
      refine step_copy99 rfl (.tmp 41) (.tmp 44) rfl _ _ _ _ rfl rfl hcp5.out ?_
      refine hK.out _ _ trivial (fun hH1 => ?_)
      clear hK
      try simp only [Act.put, List.setIfInBounds_toArray, List.set_cons_zero, List.set_cons_succ]
      refine wpAnyH_take (i := 8) (oi := { dst := some 46, op := Op.binOp BinOp.add 3 (Operand.tmp 38) (Operand.tmp 45) 3, type := 3, pos := "slices.go:528", after := #[{ on := 0, ground := Ground.data }, { on := 7, ground := Ground.data }], guard := none }) (v := ?_) rfl (by kernel_rfl) (by kernel_rfl) (by kernel_rfl) (fun _ _ _ h => h) (Or.inl ⟨by rfl, ?_⟩) hH1 ?_
      rotate_left
      · intro w' hw'
        obtain _ := hw'
        go_simp
        try with_reducible rfl
      try simp only [Act.put, List.setIfInBounds_toArray, List.set_cons_zero, List.set_cons_succ]
      refine wpAnyH_take (i := 9) (oi := { dst := some 8, op := Op.assign (Operand.tmp 46), type := 3, pos := "slices.go:528", after := #[{ on := 8, ground := Ground.data }, { on := 7, ground := Ground.chain }, { on := 0, ground := Ground.phase }, { on := 1, ground := Ground.phase }, { on := 2, ground := Ground.phase }, { on := 3, ground := Ground.phase }, { on := 4, ground := Ground.phase }, { on := 5, ground := Ground.phase }, { on := 6, ground := Ground.phase }, { on := 7, ground := Ground.phase }, { on := 8, ground := Ground.phase }], guard := none }) (v := ?_) rfl (by kernel_rfl) (by kernel_rfl) (by kernel_rfl) (fun _ _ _ h => h) (Or.inl ⟨by rfl, ?_⟩) hH1 ?_
      rotate_left
      · intro w' hw'
        obtain _ := hw'
        go_simp
        try with_reducible rfl
      try simp only [Act.put, List.setIfInBounds_toArray, List.set_cons_zero, List.set_cons_succ]
      refine wpAnyH_done (by kernel_rfl) ?_ _
      refine NoPanic.normal ?_
      go_wp2_with fail
      go_roundw
      case rel => exact ⟨m + k5, by go_num, by omega, Or.inr (by omega), hR5⟩
      case measure => simp [intOf]; omega
    · obtain rfl : m = n := by omega
      go_wp2_with fail
      go_ret
      refine ⟨g, rfl, hR.out.le, ?_, hR.out.bel⟩
      have := hR.out.row
      simpa [rp2] using this
end Go.Proofs.YtkfdikpnnkbgaaaGreatDoor
