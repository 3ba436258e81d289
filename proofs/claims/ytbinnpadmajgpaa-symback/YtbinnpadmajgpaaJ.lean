/-
  A row of bytes that grows; one step of Bytes' range (a region that draws its order).
-/
import Derived.Test.YtbinnpadmajgpaaI
import Derived.Maps.AppendAt
namespace Go.Proofs.Ytbinnpadmajgpaa
open Go.RowKit Go.Shelf
set_option linter.unusedVariables false
set_option linter.unusedSimpArgs false
attribute [local go_sem] Oper.semAt_some

/-- Nothing but the blocks in S, and new ones, has turned. -/
structure But (S : Nat → Prop) (w w' : World) : Prop where
  os : w'.os = w.os
  tape : w'.tape = w.tape
  output : w'.output = w.output
  size : w.heap.size ≤ w'.heap.size
  block : ∀ k, k < w.heap.size → ¬ S k → w'.heap[k]? = w.heap[k]?
theorem But.below {S : Nat → Prop} {w w' : World} {B : Nat} (h : But S w w') (hB : B ≤ w.heap.size) (hS : ∀ k, S k → B ≤ k) : Below B w w' :=
  ⟨h.os, h.tape, h.output, h.size, fun k hk => h.block k (by omega) (fun hs => by have := hS k hs; omega)⟩
theorem ownsR_kept {w w' : World} {base n : Nat} {e : TypeId} {v : Value} {xs : List Value} (h : w.ownsRow base e 1 v n xs) (hk : ∀ k cur, base ≤ k → w.heap[k]? = some (.cells cur e (0, 0)) → w'.heap[k]? = some (.cells cur e (0, 0))) : w'.ownsRow base e 1 v n xs := by
  refine ⟨h.1, ?_⟩
  rcases h.2 with h1 | ⟨g, cap, cur, rfl, h2, h3, h4⟩
  · exact .inl h1
  · exact .inr ⟨g, cap, cur, rfl, h2, hk g cur h2 h3, h4⟩
theorem own_one {w : World} {base n : Nat} {e : TypeId} {v : Value} {xs : List Value} (h : w.ownsRow base e 1 v n xs) : v.oneCell' = true := by
  rcases h.2 with ⟨rfl, _⟩ | ⟨_, _, _, rfl, _⟩ <;> rfl
theorem one23 : ∀ w, (sizeOf 23).run Try.prog w = .ok 1 w := fun w => by kernel_rfl
theorem store_box {w : World} {g : Nat} {u v : Value} {T : TypeId} (h1 : ∀ w, (sizeOf T).run Try.prog w = .ok 1 w) (h : w.heap[g]? = some (.cells #[u] T (0, 0))) (hv : v.oneCell' = true) : (storeVar T ⟨g, 0, none⟩ v).run Try.prog w = .ok () (w.setCell ⟨g, 0, none⟩ v) := by
  have hc := cell_row h 0 (v := u) rfl
  have hf := frozen_of_row w g 0 _ T h
  have hcs : v.cells = #[v] := by cases v <;> first | rfl | cases hv
  have e : (storeCells ⟨g, 0, none⟩ [v]).run Try.prog w = .ok () (w.setCell ⟨g, 0, none⟩ v) := by simp [storeCells, go_sem, run_store Try.prog w _ v _ hv, stored, hc, hf]
  unfold storeVar
  simp only [Sem.run_bind, h1, Result.andThen_ok, hcs]
  simpa using e
/-- More bytes behind a row of one's own whose slice lies in a box: behind calls that left all as it was. -/
theorem row_push {g3 base : Nat} {pre y : List Int} {W W5 : World} {v : Value} (h1 : W.heap[g3]? = some (.cells #[v] 23 (0, 0))) (h2 : W.ownsRow base 5 1 v pre.length (pre.map (Value.int .u8))) (hb : base ≤ W.heap.size) (hl : pre.length + y.length ≤ 1000000000) (h5 : Below W.heap.size W W5) {a5 : Option Addr} {n5 c5 : Nat} (hy : V.Has W5 a5 n5 c5 y) (hp : 0 < y.length) :
    ∃ v6 w6, (Builtin.append_ #[23, 23] 23 #[v, .slice a5 n5 c5]).run Try.prog W5 = .ok v6 w6 ∧ v6.oneCell' = true ∧ (storeVar 23 ⟨g3, 0, none⟩ v6).run Try.prog w6 = .ok () (w6.setCell ⟨g3, 0, none⟩ v6) ∧
      ((w6.setCell ⟨g3, 0, none⟩ v6).heap[g3]? = some (.cells #[v6] 23 (0, 0)) ∧ (w6.setCell ⟨g3, 0, none⟩ v6).ownsRow base 5 1 v6 (pre ++ y).length ((pre ++ y).map (Value.int .u8)) ∧ (∀ k, v6.ownBlock = some k → v.ownBlock = some k ∨ W.heap.size ≤ k) ∧ But (fun k => k = g3 ∨ v.ownBlock = some k) W (w6.setCell ⟨g3, 0, none⟩ v6)) := by
  obtain ⟨i, hi, hz, hs, hby⟩ := info_parts V.info5
  have l2 := (Array.getElem?_eq_some_iff.1 h1).1
  have hs5 := h5.size
  have hyl := hy.hlen
  have hold : ∀ b, b < W.heap.size → W5.heap[b]? = W.heap[b]? := fun b hb => h5.block b hb
  have ho1 : W5.ownsRow base 5 1 v pre.length (pre.map (Value.int .u8)) := ownsR_kept h2 (fun k cur _ e => (hold k (Array.getElem?_eq_some_iff.1 e).1).trans e)
  obtain ⟨b5, off5, rfl, _, hc5⟩ := V.cells_of_has hy (by omega)
  obtain ⟨v', w', r1, r2, r3, _, r5⟩ := run_append_own_at (P := Try.prog) W5 base 23 23 5 i (.int .u8 0) 1 1 Try.underlying23 hi hz hs hby rfl (by decide) v pre.length (pre.map (Value.int .u8)) ho1 ⟨b5, off5, none⟩ n5 c5 (y.map (Value.int .u8)) (by simp [hyl]) hc5
    (fun u hu => by obtain ⟨x, _, rfl⟩ := List.mem_map.1 hu; rfl) (by unfold maxLen; omega) (by omega) (by omega)
  have hvb : ∀ k, v.ownBlock = some k → base ≤ k ∧ ∃ cur, W.heap[k]? = some (.cells cur 5 (0, 0)) := fun k e => by
    rcases h2.2 with ⟨rfl, _⟩ | ⟨g, cap, cur, rfl, q1, q2, _⟩
    · cases e
    · cases e; exact ⟨q1, cur, q2⟩
  have hnw : ∀ k, k < W.heap.size → v.ownBlock ≠ some k → w'.heap[k]? = W.heap[k]? := fun k hk hn => (r3.block k (by omega) (fun e => hn e.symm)).trans (hold k hk)
  have hv2 : v.ownBlock ≠ some g3 := fun e => by
    obtain ⟨_, cur, hc⟩ := hvb g3 e
    rw [h1] at hc
    simp at hc
  have e2 := (hnw g3 l2 hv2).trans h1
  have ot : ∀ k, k ≠ g3 → (w'.setCell ⟨g3, 0, none⟩ v').heap[k]? = w'.heap[k]? := fun k hk => Below.heap_setCell w' ⟨g3, 0, none⟩ _ k hk
  have hsz := r3.size
  have hone := own_one r2
  refine ⟨v', w', r1, hone, store_box one23 e2 hone, heap_setCell_same w' g3 0 _ 23 _ e2, ?_, ?_, ?_⟩
  · have := ownsR_kept (w' := w'.setCell ⟨g3, 0, none⟩ v') r2 (fun k cur hk e => (ot k (fun ek => by rw [ek, e2] at e; simp at e)).trans e)
    rw [List.length_append, List.map_append, hyl]
    exact this
  · intro k e
    rcases r5 with r5 | r5
    · exact .inl (by rw [← r5]; exact e)
    · rw [r5] at e; cases e; exact .inr hs5
  · refine ⟨by have a := r3.os; have b := h5.os; exact a.trans b, by have a := r3.tape; have b := h5.tape; exact a.trans b, by have a := r3.output; have b := h5.output; exact a.trans b, by simp [World.setCell]; omega, fun k hk hn => ?_⟩
    rw [ot k (fun e => hn (.inl e))]
    exact hnw k hk (fun e => hn (.inr e))
section
variable {w w' : World} {dst : Option Nat} {x y : Operand} {ty : TypeId} {pos : String} {after : Array Edge}
theorem app23 {ev : Operand → Value} {v v1 v6 : Value} {w6 : World} (hx : ev x = v) (hy : ev y = v1) (hr : (Builtin.append_ #[23, 23] 23 #[v, v1]).run Try.prog w = .ok v6 w6) : (execOp ev ⟨dst, .call { callee := .builtin .append, args := #[x, y], argTypes := #[23, 23] }, 23, pos, after, none⟩).run Try.prog w = .ok (.value v6) w6 := by
  simp [execOp, resolve, invoke, builtin, hx, hy, hr, Result.andThen]
theorem st23 {ev : Operand → Value} {ad : Addr} {v6 : Value} (hx : ev x = .pointer (some ad)) (hy : ev y = v6) (hr : (storeVar 23 ad v6).run Try.prog w = .ok () w') : (execOp ev ⟨dst, .store 23 x y, ty, pos, after, none⟩).run Try.prog w = .ok .skip w' := by
  unfold execOp
  simp only [hx, hy, Instr.storeAt, Instr.sureAddr, Sem.run_bind, Sem.run_pure, Result.andThen_ok, hr]
end
set_option maxHeartbeats 4000000 in
set_option maxRecDepth 100000 in
theorem reg9_7 (l0 n0 : Nat) (w : World) (g3 g4 : Nat) (v : Value) (last s : Tx) (q : Nat) (hq0 : cmn last s = q) (h1 : last.length ≤ 1000) (h2 : s.length ≤ 1000) (hv0 : w.heap[g3]? = some (.cells #[v] 23 (0, 0))) (hl0 : w.heap[g4]? = some (.cells #[encStr last] 9 (0, 0))) (Fin : World → Prop) (hpush0 : ∀ w5 a5 n5 c5, Below w.heap.size w w5 → V.Has w5 a5 n5 c5 (V.enc q ++ V.pb (num (s.drop q))) → ∃ v6 w6, (Builtin.append_ #[23, 23] 23 #[v, .slice a5 n5 c5]).run Try.prog w5 = .ok v6 w6 ∧ v6.oneCell' = true ∧ (storeVar 23 ⟨g3, 0, none⟩ v6).run Try.prog w6 = .ok () (w6.setCell ⟨g3, 0, none⟩ v6) ∧ Fin (w6.setCell ⟨g3, 0, none⟩ v6))
    (u0 u1 u2 u5 u7 u8 u9 u10 u11 u12 u13 u14 u15 u16 u17 u18 u19 u20 u21 u22 u23 u24 u25 : Value) (Q : Exit → Act → World → Prop)
    (h : ∀ (a4 a5 : Option Addr) (n4 c4 n5 c5 : Nat) (v6 : Value) (w' : World), Fin w' → Q .normal { tmps := (List.toArray ((u0 :: u1 :: u2 :: .pointer (some ⟨g3, 0, none⟩) :: .pointer (some ⟨g4, 0, none⟩) :: u5 :: encStr s :: u7 :: u8 :: u9 :: u10 :: u11 :: u12 :: u13 :: u14 :: u15 :: u16 :: u17 :: v :: encStr last :: encStr s :: .agg #[.int .u64 (q : Int), .slice a4 n4 c4] :: .slice a5 n5 c5 :: v6 :: u24 :: u25 :: []) : List Value)), defers := [] } w') :
    (Code.region 7 #[{ dst := some 18, op := Op.load 23 (Operand.tmp 3), type := 23, pos := "bytes.go:22", after := #[], guard := none }, { dst := some 19, op := Op.load 9 (Operand.tmp 4), type := 9, pos := "bytes.go:22", after := #[], guard := none }, { dst := some 20, op := Op.move (Operand.tmp 6), type := 9, pos := "bytes.go:22", after := #[], guard := none }, { dst := some 21, op := Op.call { callee := Callee.value (Operand.func 24), args := #[Operand.tmp 19, Operand.tmp 20], argTypes := #[9, 9] }, type := 55, pos := "bytes.go:22", after := #[{ on := 1, ground := Ground.data }, { on := 2, ground := Ground.data }], guard := none }, { dst := some 22, op := Op.call { callee := Callee.value (Operand.func 25), args := #[Operand.tmp 21], argTypes := #[55] }, type := 23, pos := "bytes.go:22", after := #[{ on := 3, ground := Ground.data }, { on := 3, ground := Ground.chain }], guard := none }, { dst := some 23, op := Op.call { callee := Callee.builtin Builtin.append, args := #[Operand.tmp 18, Operand.tmp 22], argTypes := #[23, 23] }, type := 23, pos := "bytes.go:22", after := #[{ on := 0, ground := Ground.data }, { on := 4, ground := Ground.data }, { on := 4, ground := Ground.chain }], guard := none }, { dst := none, op := Op.store 23 (Operand.tmp 3) (Operand.tmp 23), type := 0, pos := "bytes.go:22", after := #[{ on := 5, ground := Ground.data }, { on := 5, ground := Ground.chain }, { on := 0, ground := Ground.phase }, { on := 1, ground := Ground.phase }, { on := 2, ground := Ground.phase }, { on := 3, ground := Ground.phase }, { on := 4, ground := Ground.phase }, { on := 5, ground := Ground.phase }], guard := none }] true).wpIn (Fence.wide.inRound l0) n0 Try.prog Q { tmps := (List.toArray ((u0 :: u1 :: u2 :: .pointer (some ⟨g3, 0, none⟩) :: .pointer (some ⟨g4, 0, none⟩) :: u5 :: encStr s :: u7 :: u8 :: u9 :: u10 :: u11 :: u12 :: u13 :: u14 :: u15 :: u16 :: u17 :: u18 :: u19 :: u20 :: u21 :: u22 :: u23 :: u24 :: u25 :: []) : List Value)), defers := [] } w := by
  have hD : Below w.heap.size w w.drew := (Below.refl _ w).drew
  have hpush := hide hpush0
  have hv : Hid (∀ w1, Below w.heap.size w w1 → w1.heap[g3]? = some (.cells #[v] 23 (0, 0))) := fun w1 hb => (hb.block g3 (Array.getElem?_eq_some_iff.1 hv0).1).trans hv0
  have hl : Hid (∀ w1, Below w.heap.size w w1 → w1.heap[g4]? = some (.cells #[encStr last] 9 (0, 0))) := fun w1 hb => (hb.block g4 (Array.getElem?_eq_some_iff.1 hl0).1).trans hl0
  have hpart : Hid (∀ w, Calls Try.prog 24 #[encStr last, encStr s] w fun e w' => ∃ a n c, e = .returned (.agg #[.int .u64 (q : Int), .slice a n c]) ∧ V.Has w' a n c (num (s.drop q)) ∧ Below w.heap.size w w') := fun w => by
    have := partOf_any last s w (by omega) (by omega)
    rwa [hq0] at this
  have hq : q < 18446744073709551616 := by have := (cmn_le last s).1; omega
  have h1 : last.length ≤ 100000 := by omega
  have h2 : s.length ≤ 100000 := by omega
  clear hpush0 hv0 hl0
  replace h := hide h
  refine Code.wpIn_mono NoPanic.imp ?_
  refine wpIn_region_any (by kernel_rfl) ?_
  change wpAnyIn _ _ _ _ _ _ _ _ _ (World.drew w)
  refine anyIn_inRound l0 (noDefer _ (by kernel_rfl)) _ _ _ _ ?_
  refine wpAnyIn_take (i := 2) (oi := { dst := some 20, op := Op.move (Operand.tmp 6), type := 9, pos := "bytes.go:22", after := #[], guard := none }) (v := ?_) rfl rfl (by kernel_rfl) (by kernel_rfl) (by kernel_rfl) (fun _ _ _ h => h) ⟨Or.inl ⟨by rfl, ?_⟩, fun _ => rfl⟩ ?_
  rotate_left
  · intro w'
    go_simp
    try with_reducible rfl
  try simp only [Act.put, List.setIfInBounds_toArray, List.set_cons_zero, List.set_cons_succ]
  refine wpAnyIn_ready (rs := [0, 1]) (by kernel_rfl) (by simp) ?_
  refine (AllReadyIn.cons (o := { dst := some 18, op := Op.load 23 (Operand.tmp 3), type := 23, pos := "bytes.go:22", after := #[], guard := none }) rfl (fun K0 hK0 => ?_) (AllReadyIn.cons (o := { dst := some 19, op := Op.load 9 (Operand.tmp 4), type := 9, pos := "bytes.go:22", after := #[], guard := none }) rfl (fun K1 hK1 => ?_) AllReadyIn.nil))
  · refine wpI_ldg 23 wide_fn rfl (by rfl) rfl (ldv23 (cell_row (hv.out _ hD) 0 rfl)) (hK0 _ _ ?_)
    clear hK0 K0
    try simp only [Act.put, List.setIfInBounds_toArray, List.set_cons_zero, List.set_cons_succ]
    refine wpAnyIn_ready (rs := [1]) (by kernel_rfl) (by simp) ?_
    refine (AllReadyIn.cons (o := { dst := some 19, op := Op.load 9 (Operand.tmp 4), type := 9, pos := "bytes.go:22", after := #[], guard := none }) rfl (fun K1 hK1 => ?_) AllReadyIn.nil)
    refine wpI_ldg 9 wide_fn rfl (by rfl) rfl (ldv9 (cell_row (hl.out _ hD) 0 rfl)) (hK1 _ _ ?_)
    clear hK1 K1
    try simp only [Act.put, List.setIfInBounds_toArray, List.set_cons_zero, List.set_cons_succ]
    refine wpAnyIn_ready (rs := [3]) (by kernel_rfl) (by simp) ?_
    refine (AllReadyIn.cons (o := { dst := some 21, op := Op.call { callee := Callee.value (Operand.func 24), args := #[Operand.tmp 19, Operand.tmp 20], argTypes := #[9, 9] }, type := 55, pos := "bytes.go:22", after := #[{ on := 1, ground := Ground.data }, { on := 2, ground := Ground.data }], guard := none }) rfl (fun K3 hK3 => ?_) AllReadyIn.nil)
    go_simp
    refine ⟨trivial, fun h => (by cases h), (callsIn_wide.2 (hpart.out _)).mono ?_⟩
    rintro e w4 ⟨a4, n4, c4, rfl, H4, B4⟩
    have E4 : Below w.heap.size w w4 := hD.trans B4
    clear B4
    refine hK3 _ _ ?_
    clear hK3 K3
    try simp only [Act.put, List.setIfInBounds_toArray, List.set_cons_zero, List.set_cons_succ]
    refine wpAnyIn_ready (rs := [4]) (by kernel_rfl) (by simp) ?_
    refine (AllReadyIn.cons (o := { dst := some 22, op := Op.call { callee := Callee.value (Operand.func 25), args := #[Operand.tmp 21], argTypes := #[55] }, type := 23, pos := "bytes.go:22", after := #[{ on := 3, ground := Ground.data }, { on := 3, ground := Ground.chain }], guard := none }) rfl (fun K4 hK4 => ?_) AllReadyIn.nil)
    go_simp
    refine ⟨trivial, fun h => (by cases h), (callsIn_wide.2 (pbytes_any q hq a4 n4 c4 _ _ H4 (by have := H4.hlen; rw [num_len, List.length_drop] at this; omega))).mono ?_⟩
    rintro e w5 ⟨a5, n5, c5, rfl, H5, B5⟩
    have E5 : Below w.heap.size w w5 := E4.trans (B5.mono E4.size)
    clear B5
    refine hK4 _ _ ?_
    clear hK4 K4
    try simp only [Act.put, List.setIfInBounds_toArray, List.set_cons_zero, List.set_cons_succ]
    refine wpAnyIn_ready (rs := [5]) (by kernel_rfl) (by simp) ?_
    refine (AllReadyIn.cons (o := { dst := some 23, op := Op.call { callee := Callee.builtin Builtin.append, args := #[Operand.tmp 18, Operand.tmp 22], argTypes := #[23, 23] }, type := 23, pos := "bytes.go:22", after := #[{ on := 0, ground := Ground.data }, { on := 4, ground := Ground.data }, { on := 4, ground := Ground.chain }], guard := none }) rfl (fun K5 hK5 => ?_) AllReadyIn.nil)
    obtain ⟨v6, w6, hr6, hc6, hp6⟩ := hpush.out w5 a5 n5 c5 E5 H5
    refine wpI_run wide_fn (by rfl) (fun c => nofun) (app23 rfl rfl hr6) (hK5 _ _ ?_)
    clear hK5 K5
    try simp only [Act.put, List.setIfInBounds_toArray, List.set_cons_zero, List.set_cons_succ]
    refine wpAnyIn_ready (rs := [6]) (by kernel_rfl) (by simp) ?_
    refine (AllReadyIn.cons (o := { dst := none, op := Op.store 23 (Operand.tmp 3) (Operand.tmp 23), type := 0, pos := "bytes.go:22", after := #[{ on := 5, ground := Ground.data }, { on := 5, ground := Ground.chain }, { on := 0, ground := Ground.phase }, { on := 1, ground := Ground.phase }, { on := 2, ground := Ground.phase }, { on := 3, ground := Ground.phase }, { on := 4, ground := Ground.phase }, { on := 5, ground := Ground.phase }], guard := none }) rfl (fun K6 hK6 => ?_) AllReadyIn.nil)
    refine wpI_run2 wide_fn (by rfl) (fun c => nofun) (st23 rfl rfl hp6.1) (hK6 _ _ ?_)
    clear hK6 K6
    try simp only [Act.put, List.setIfInBounds_toArray, List.set_cons_zero, List.set_cons_succ]
    refine wpAnyIn_done (by kernel_rfl) ?_ _
    refine NoPanic.normal ?_
    exact h.out _ _ _ _ _ _ _ _ hp6.2
  · refine wpI_ldg 9 wide_fn rfl (by rfl) rfl (ldv9 (cell_row (hl.out _ hD) 0 rfl)) (hK1 _ _ ?_)
    clear hK1 K1
    try simp only [Act.put, List.setIfInBounds_toArray, List.set_cons_zero, List.set_cons_succ]
    refine wpAnyIn_ready (rs := [0, 3]) (by kernel_rfl) (by simp) ?_
    refine (AllReadyIn.cons (o := { dst := some 18, op := Op.load 23 (Operand.tmp 3), type := 23, pos := "bytes.go:22", after := #[], guard := none }) rfl (fun K0 hK0 => ?_) (AllReadyIn.cons (o := { dst := some 21, op := Op.call { callee := Callee.value (Operand.func 24), args := #[Operand.tmp 19, Operand.tmp 20], argTypes := #[9, 9] }, type := 55, pos := "bytes.go:22", after := #[{ on := 1, ground := Ground.data }, { on := 2, ground := Ground.data }], guard := none }) rfl (fun K3 hK3 => ?_) AllReadyIn.nil))
    · refine wpI_ldg 23 wide_fn rfl (by rfl) rfl (ldv23 (cell_row (hv.out _ hD) 0 rfl)) (hK0 _ _ ?_)
      clear hK0 K0
      try simp only [Act.put, List.setIfInBounds_toArray, List.set_cons_zero, List.set_cons_succ]
      refine wpAnyIn_ready (rs := [3]) (by kernel_rfl) (by simp) ?_
      refine (AllReadyIn.cons (o := { dst := some 21, op := Op.call { callee := Callee.value (Operand.func 24), args := #[Operand.tmp 19, Operand.tmp 20], argTypes := #[9, 9] }, type := 55, pos := "bytes.go:22", after := #[{ on := 1, ground := Ground.data }, { on := 2, ground := Ground.data }], guard := none }) rfl (fun K3 hK3 => ?_) AllReadyIn.nil)
      go_simp
      refine ⟨trivial, fun h => (by cases h), (callsIn_wide.2 (hpart.out _)).mono ?_⟩
      rintro e w4 ⟨a4, n4, c4, rfl, H4, B4⟩
      have E4 : Below w.heap.size w w4 := hD.trans B4
      clear B4
      refine hK3 _ _ ?_
      clear hK3 K3
      try simp only [Act.put, List.setIfInBounds_toArray, List.set_cons_zero, List.set_cons_succ]
      refine wpAnyIn_ready (rs := [4]) (by kernel_rfl) (by simp) ?_
      refine (AllReadyIn.cons (o := { dst := some 22, op := Op.call { callee := Callee.value (Operand.func 25), args := #[Operand.tmp 21], argTypes := #[55] }, type := 23, pos := "bytes.go:22", after := #[{ on := 3, ground := Ground.data }, { on := 3, ground := Ground.chain }], guard := none }) rfl (fun K4 hK4 => ?_) AllReadyIn.nil)
      go_simp
      refine ⟨trivial, fun h => (by cases h), (callsIn_wide.2 (pbytes_any q hq a4 n4 c4 _ _ H4 (by have := H4.hlen; rw [num_len, List.length_drop] at this; omega))).mono ?_⟩
      rintro e w5 ⟨a5, n5, c5, rfl, H5, B5⟩
      have E5 : Below w.heap.size w w5 := E4.trans (B5.mono E4.size)
      clear B5
      refine hK4 _ _ ?_
      clear hK4 K4
      try simp only [Act.put, List.setIfInBounds_toArray, List.set_cons_zero, List.set_cons_succ]
      refine wpAnyIn_ready (rs := [5]) (by kernel_rfl) (by simp) ?_
      refine (AllReadyIn.cons (o := { dst := some 23, op := Op.call { callee := Callee.builtin Builtin.append, args := #[Operand.tmp 18, Operand.tmp 22], argTypes := #[23, 23] }, type := 23, pos := "bytes.go:22", after := #[{ on := 0, ground := Ground.data }, { on := 4, ground := Ground.data }, { on := 4, ground := Ground.chain }], guard := none }) rfl (fun K5 hK5 => ?_) AllReadyIn.nil)
      obtain ⟨v6, w6, hr6, hc6, hp6⟩ := hpush.out w5 a5 n5 c5 E5 H5
      refine wpI_run wide_fn (by rfl) (fun c => nofun) (app23 rfl rfl hr6) (hK5 _ _ ?_)
      clear hK5 K5
      try simp only [Act.put, List.setIfInBounds_toArray, List.set_cons_zero, List.set_cons_succ]
      refine wpAnyIn_ready (rs := [6]) (by kernel_rfl) (by simp) ?_
      refine (AllReadyIn.cons (o := { dst := none, op := Op.store 23 (Operand.tmp 3) (Operand.tmp 23), type := 0, pos := "bytes.go:22", after := #[{ on := 5, ground := Ground.data }, { on := 5, ground := Ground.chain }, { on := 0, ground := Ground.phase }, { on := 1, ground := Ground.phase }, { on := 2, ground := Ground.phase }, { on := 3, ground := Ground.phase }, { on := 4, ground := Ground.phase }, { on := 5, ground := Ground.phase }], guard := none }) rfl (fun K6 hK6 => ?_) AllReadyIn.nil)
      refine wpI_run2 wide_fn (by rfl) (fun c => nofun) (st23 rfl rfl hp6.1) (hK6 _ _ ?_)
      clear hK6 K6
      try simp only [Act.put, List.setIfInBounds_toArray, List.set_cons_zero, List.set_cons_succ]
      refine wpAnyIn_done (by kernel_rfl) ?_ _
      refine NoPanic.normal ?_
      exact h.out _ _ _ _ _ _ _ _ hp6.2
    · go_simp
      refine ⟨trivial, fun h => (by cases h), (callsIn_wide.2 (hpart.out _)).mono ?_⟩
      rintro e w4 ⟨a4, n4, c4, rfl, H4, B4⟩
      have E4 : Below w.heap.size w w4 := hD.trans B4
      clear B4
      refine hK3 _ _ ?_
      clear hK3 K3
      try simp only [Act.put, List.setIfInBounds_toArray, List.set_cons_zero, List.set_cons_succ]
      refine wpAnyIn_ready (rs := [0, 4]) (by kernel_rfl) (by simp) ?_
      refine (AllReadyIn.cons (o := { dst := some 18, op := Op.load 23 (Operand.tmp 3), type := 23, pos := "bytes.go:22", after := #[], guard := none }) rfl (fun K0 hK0 => ?_) (AllReadyIn.cons (o := { dst := some 22, op := Op.call { callee := Callee.value (Operand.func 25), args := #[Operand.tmp 21], argTypes := #[55] }, type := 23, pos := "bytes.go:22", after := #[{ on := 3, ground := Ground.data }, { on := 3, ground := Ground.chain }], guard := none }) rfl (fun K4 hK4 => ?_) AllReadyIn.nil))
      · refine wpI_ldg 23 wide_fn rfl (by rfl) rfl (ldv23 (cell_row (hv.out _ E4) 0 rfl)) (hK0 _ _ ?_)
        clear hK0 K0
        try simp only [Act.put, List.setIfInBounds_toArray, List.set_cons_zero, List.set_cons_succ]
        refine wpAnyIn_ready (rs := [4]) (by kernel_rfl) (by simp) ?_
        refine (AllReadyIn.cons (o := { dst := some 22, op := Op.call { callee := Callee.value (Operand.func 25), args := #[Operand.tmp 21], argTypes := #[55] }, type := 23, pos := "bytes.go:22", after := #[{ on := 3, ground := Ground.data }, { on := 3, ground := Ground.chain }], guard := none }) rfl (fun K4 hK4 => ?_) AllReadyIn.nil)
        go_simp
        refine ⟨trivial, fun h => (by cases h), (callsIn_wide.2 (pbytes_any q hq a4 n4 c4 _ _ H4 (by have := H4.hlen; rw [num_len, List.length_drop] at this; omega))).mono ?_⟩
        rintro e w5 ⟨a5, n5, c5, rfl, H5, B5⟩
        have E5 : Below w.heap.size w w5 := E4.trans (B5.mono E4.size)
        clear B5
        refine hK4 _ _ ?_
        clear hK4 K4
        try simp only [Act.put, List.setIfInBounds_toArray, List.set_cons_zero, List.set_cons_succ]
        refine wpAnyIn_ready (rs := [5]) (by kernel_rfl) (by simp) ?_
        refine (AllReadyIn.cons (o := { dst := some 23, op := Op.call { callee := Callee.builtin Builtin.append, args := #[Operand.tmp 18, Operand.tmp 22], argTypes := #[23, 23] }, type := 23, pos := "bytes.go:22", after := #[{ on := 0, ground := Ground.data }, { on := 4, ground := Ground.data }, { on := 4, ground := Ground.chain }], guard := none }) rfl (fun K5 hK5 => ?_) AllReadyIn.nil)
        obtain ⟨v6, w6, hr6, hc6, hp6⟩ := hpush.out w5 a5 n5 c5 E5 H5
        refine wpI_run wide_fn (by rfl) (fun c => nofun) (app23 rfl rfl hr6) (hK5 _ _ ?_)
        clear hK5 K5
        try simp only [Act.put, List.setIfInBounds_toArray, List.set_cons_zero, List.set_cons_succ]
        refine wpAnyIn_ready (rs := [6]) (by kernel_rfl) (by simp) ?_
        refine (AllReadyIn.cons (o := { dst := none, op := Op.store 23 (Operand.tmp 3) (Operand.tmp 23), type := 0, pos := "bytes.go:22", after := #[{ on := 5, ground := Ground.data }, { on := 5, ground := Ground.chain }, { on := 0, ground := Ground.phase }, { on := 1, ground := Ground.phase }, { on := 2, ground := Ground.phase }, { on := 3, ground := Ground.phase }, { on := 4, ground := Ground.phase }, { on := 5, ground := Ground.phase }], guard := none }) rfl (fun K6 hK6 => ?_) AllReadyIn.nil)
        refine wpI_run2 wide_fn (by rfl) (fun c => nofun) (st23 rfl rfl hp6.1) (hK6 _ _ ?_)
        clear hK6 K6
        try simp only [Act.put, List.setIfInBounds_toArray, List.set_cons_zero, List.set_cons_succ]
        refine wpAnyIn_done (by kernel_rfl) ?_ _
        refine NoPanic.normal ?_
        exact h.out _ _ _ _ _ _ _ _ hp6.2
      · go_simp
        refine ⟨trivial, fun h => (by cases h), (callsIn_wide.2 (pbytes_any q hq a4 n4 c4 _ _ H4 (by have := H4.hlen; rw [num_len, List.length_drop] at this; omega))).mono ?_⟩
        rintro e w5 ⟨a5, n5, c5, rfl, H5, B5⟩
        have E5 : Below w.heap.size w w5 := E4.trans (B5.mono E4.size)
        clear B5
        refine hK4 _ _ ?_
        clear hK4 K4
        try simp only [Act.put, List.setIfInBounds_toArray, List.set_cons_zero, List.set_cons_succ]
        refine wpAnyIn_ready (rs := [0]) (by kernel_rfl) (by simp) ?_
        refine (AllReadyIn.cons (o := { dst := some 18, op := Op.load 23 (Operand.tmp 3), type := 23, pos := "bytes.go:22", after := #[], guard := none }) rfl (fun K0 hK0 => ?_) AllReadyIn.nil)
        refine wpI_ldg 23 wide_fn rfl (by rfl) rfl (ldv23 (cell_row (hv.out _ E5) 0 rfl)) (hK0 _ _ ?_)
        clear hK0 K0
        try simp only [Act.put, List.setIfInBounds_toArray, List.set_cons_zero, List.set_cons_succ]
        refine wpAnyIn_ready (rs := [5]) (by kernel_rfl) (by simp) ?_
        refine (AllReadyIn.cons (o := { dst := some 23, op := Op.call { callee := Callee.builtin Builtin.append, args := #[Operand.tmp 18, Operand.tmp 22], argTypes := #[23, 23] }, type := 23, pos := "bytes.go:22", after := #[{ on := 0, ground := Ground.data }, { on := 4, ground := Ground.data }, { on := 4, ground := Ground.chain }], guard := none }) rfl (fun K5 hK5 => ?_) AllReadyIn.nil)
        obtain ⟨v6, w6, hr6, hc6, hp6⟩ := hpush.out w5 a5 n5 c5 E5 H5
        refine wpI_run wide_fn (by rfl) (fun c => nofun) (app23 rfl rfl hr6) (hK5 _ _ ?_)
        clear hK5 K5
        try simp only [Act.put, List.setIfInBounds_toArray, List.set_cons_zero, List.set_cons_succ]
        refine wpAnyIn_ready (rs := [6]) (by kernel_rfl) (by simp) ?_
        refine (AllReadyIn.cons (o := { dst := none, op := Op.store 23 (Operand.tmp 3) (Operand.tmp 23), type := 0, pos := "bytes.go:22", after := #[{ on := 5, ground := Ground.data }, { on := 5, ground := Ground.chain }, { on := 0, ground := Ground.phase }, { on := 1, ground := Ground.phase }, { on := 2, ground := Ground.phase }, { on := 3, ground := Ground.phase }, { on := 4, ground := Ground.phase }, { on := 5, ground := Ground.phase }], guard := none }) rfl (fun K6 hK6 => ?_) AllReadyIn.nil)
        refine wpI_run2 wide_fn (by rfl) (fun c => nofun) (st23 rfl rfl hp6.1) (hK6 _ _ ?_)
        clear hK6 K6
        try simp only [Act.put, List.setIfInBounds_toArray, List.set_cons_zero, List.set_cons_succ]
        refine wpAnyIn_done (by kernel_rfl) ?_ _
        refine NoPanic.normal ?_
        exact h.out _ _ _ _ _ _ _ _ hp6.2

end Go.Proofs.Ytbinnpadmajgpaa
