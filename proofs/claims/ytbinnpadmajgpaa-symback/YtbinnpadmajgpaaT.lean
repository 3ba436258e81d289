/-
  SymNumbers: the region that makes another table (a region that draws its order).
-/
import Derived.Test.YtbinnpadmajgpaaS
import Derived.Deep.Onto
namespace Go.Proofs.Ytbinnpadmajgpaa
open Go.RowKit Go.Shelf
set_option linter.unusedVariables false
set_option linter.unusedSimpArgs false

section
variable {w w' : World} {ops : Array Oper} {o : Oper} {a : Act} {Q : Exit → Act → World → Prop} {K : Act → World → Prop} {E : Prop}
theorem step_skip2 (hgd : Region.wanted o (yielded ops a.tmps) = true) (hr : (execOp a.eval o).run Try.prog w = .ok .skip w') (h : K (a.put o.dst undef) w') : if Region.wanted o (yielded ops a.tmps) = true then Oper.wp Try.prog o a w K Q else E := by
  rw [if_pos hgd]
  unfold Oper.wp
  rw [hr]
  exact h
end
section
variable {w w' : World} {dst : Option Nat} {x y : Operand} {ty : TypeId} {pos : String} {after : Array Edge} {gd : Option (Nat × Bool)}
theorem run_slLo (ev : Operand → Value) {u v r : Value} (hx : ev x = u) (hy : ev y = v) (hr : (Instr.sliceAt 22 u (some v) none none).run Try.prog w = .ok r w) : (execOp ev ⟨dst, .slice 22 x (some y) none none, ty, pos, after, gd⟩).run Try.prog w = .ok (.value r) w := by
  unfold execOp
  simp only [hx, hy, Option.map_some, Option.map_none, Sem.run_bind, hr, Result.andThen_ok, Sem.run_pure]
theorem run_slHi (ev : Operand → Value) {u v r : Value} (hx : ev x = u) (hy : ev y = v) (hr : (Instr.sliceAt 22 u none (some v) none).run Try.prog w = .ok r w) : (execOp ev ⟨dst, .slice 22 x none (some y) none, ty, pos, after, gd⟩).run Try.prog w = .ok (.value r) w := by
  unfold execOp
  simp only [hx, hy, Option.map_some, Option.map_none, Sem.run_bind, hr, Result.andThen_ok, Sem.run_pure]
theorem bs0 (ev : Operand → Value) : (execOp ev ⟨dst, .buildSlice 22 0 #[], ty, pos, after, none⟩).run Try.prog w = .ok (.value (.slice (some ⟨w.heap.size, 0, none⟩) 0 0)) (w.alloc (.cells #[] 9)) := by
  unfold execOp
  kernel_rfl
theorem st27 {ev : Operand → Value} {ad : Addr} {v6 : Value} (hx : ev x = .pointer (some ad)) (hy : ev y = v6) (hr : (storeVar 27 ad v6).run Try.prog w = .ok () w') : (execOp ev ⟨dst, .store 27 x y, ty, pos, after, none⟩).run Try.prog w = .ok .skip w' := by
  unfold execOp
  simp only [hx, hy, Instr.storeAt, Instr.sureAddr, Sem.run_bind, Sem.run_pure, Result.andThen_ok, hr]
end
theorem alloc27 (ev : Operand → Value) (dst : Option Nat) (ty : TypeId) (pos : String) (after : Array Edge) (w : World) : (execOp ev ⟨dst, .alloc 27, ty, pos, after, none⟩).run Try.prog w = .ok (.value (.pointer (some ⟨w.heap.size, 0, none⟩))) (w.alloc (.cells #[.slice none 0 0] 27)) := by
  unfold execOp
  kernel_rfl
theorem one27 : ∀ w, (sizeOf 27).run Try.prog w = .ok 1 w := fun w => by kernel_rfl
theorem store27 {w : World} {g : Nat} {u v : Value} (h : w.heap[g]? = some (.cells #[u] 27 (0, 0))) (hv : v.oneCell' = true := by rfl) : (storeVar 27 ⟨g, 0, none⟩ (.agg #[v])).run Try.prog w = .ok () (w.setCell ⟨g, 0, none⟩ v) := by
  have hc := cell_row h 0 (v := u) rfl
  have hf := frozen_of_row w g 0 _ 27 h
  have e : (storeCells ⟨g, 0, none⟩ [v]).run Try.prog w = .ok () (w.setCell ⟨g, 0, none⟩ v) := by simp [storeCells, go_sem, run_store Try.prog w _ v _ hv, stored, hc, hf]
  unfold storeVar
  simp only [Sem.run_bind, one27, Result.andThen_ok, Value.cells]
  simpa using e
theorem below_set {w0 w : World} {g : Nat} (H : Below w0.heap.size w0 w) (hg : w0.heap.size ≤ g) (v : Value) : Below w0.heap.size w0 (w.setCell ⟨g, 0, none⟩ v) := H.setCell hg v
/-- A box of a table that was made behind w0. -/
def BoxN (w0 w : World) (g : Nat) : Prop := w.heap[g]? = some (.cells #[.slice none 0 0] 27 (0, 0)) ∧ w0.heap.size ≤ g
theorem box_new {w0 w : World} {g : Nat} (H : Below w0.heap.size w0 w) (hg : w.heap.size = g) : BoxN w0 (w.alloc (.cells #[.slice none 0 0] 27)) g := by
  subst hg
  exact ⟨heap_alloc_new w _, H.size⟩
theorem box_alloc {w0 w : World} {g : Nat} {o : Obj} (h : BoxN w0 w g) : BoxN w0 (w.alloc o) g := ⟨(Below.heap_alloc _ _ _ (Array.getElem?_eq_some_iff.1 h.1).1).trans h.1, h.2⟩
theorem box_below {w0 w w' : World} {g : Nat} (h : BoxN w0 w g) (hb : Below w.heap.size w w') : BoxN w0 w' g := ⟨(hb.block _ (Array.getElem?_eq_some_iff.1 h.1).1).trans h.1, h.2⟩
theorem box_grown {w0 w w' : World} {g base m : Nat} {v : Value} {xs : List Value} (h : BoxN w0 w g) (O : w.ownsRow base 9 1 v m xs) (G : w.grownBy w' v.ownBlock) : BoxN w0 w' g :=
  ⟨(G.block g (Array.getElem?_eq_some_iff.1 h.1).1 (fun e => by
    rcases O.2 with ⟨rfl, _⟩ | ⟨g', cap, cur, rfl, _, q2, _⟩
    · cases e
    · cases e
      have := h.1
      rw [q2] at this
      simp at this)).trans h.1, h.2⟩
theorem hasS_box {w : World} {g : Nat} {a : Addr} {n c : Nat} {L : List Tx} {T : TypeId} (h : w.heap[g]? = some (.cells #[.slice none 0 0] T (0, 0))) (TV : HasS w (some a) n c L) (v : Value) : TabV (w.setCell ⟨g, 0, none⟩ v) (.agg #[.slice (some a) n c]) L := by
  refine ⟨a, n, c, rfl, TV.hlen, TV.le, TV.capb, TV.form, fun i hi => ?_⟩
  obtain ⟨b, off, e1, e2, e3⟩ := TV.cells i hi
  refine ⟨b, off, e1, by simpa [World.setCell] using e2, ?_⟩
  rw [World.cell?_setCell_far _ _ _ _ (show g ≠ b from fun e => ?_)]
  · exact e3
  · subst e
    rw [cell_of_row w g (off + i) _ _ _ h] at e3
    generalize off + i = j at e3
    rcases j with _ | j
    · simp at e3
    · simp at e3
theorem app_txt {w : World} {base m q c : Nat} {v : Value} {xs ys : List Tx} {ad : Addr} (O : w.ownsRow base 9 1 v m (xs.map encStr)) (hb : base ≤ w.heap.size) (hc : ∀ j u, (ys.map encStr)[j]? = some u → w.cell? (ad.add j) = some u) (hl : ys.length = q) (hm : m + q ≤ 100000) :
    ∃ v' w', (Builtin.append_ #[22, 22] 22 #[v, .slice (some ad) q c]).run Try.prog w = .ok v' w' ∧ w'.ownsRow base 9 1 v' (m + q) ((xs ++ ys).map encStr) ∧ w.grownBy w' v.ownBlock := by
  obtain ⟨i, hi, hz, hs, hby⟩ := info_parts info9
  obtain ⟨v', w', r1, r2, r3, _, _⟩ := run_append_own_at (P := Try.prog) w base 22 22 9 i (.string ByteArray.empty) 1 16 Try.underlying22 hi hz hs hby rfl (by decide) v m (xs.map encStr) O ad q c (ys.map encStr) (by simp [hl]) hc (fun u hu => by obtain ⟨x, _, rfl⟩ := List.mem_map.1 hu; rfl) (by unfold maxLen; omega) (by omega) hb
  exact ⟨v', w', r1, by rw [List.map_append]; exact r2, r3⟩
theorem src_take {w : World} {ad : Addr} {l : List Tx} (h : ∀ j u, (l.map encStr)[j]? = some u → w.cell? (ad.add j) = some u) (k : Nat) : ∀ j u, ((l.take k).map encStr)[j]? = some u → w.cell? (ad.add j) = some u := fun j u e => h j u (by
  rw [List.map_take, List.getElem?_take] at e
  split at e
  · exact e
  · cases e)
set_option maxHeartbeats 4000000 in
set_option maxRecDepth 100000 in
theorem reg4_17 (w : World) (g n c k n1 c1 : Nat) (ad1 : Addr) (l T : List Tx) (hn : l.length = n) (hn2 : n ≤ 1000) (hkn : k ≤ n) (hn1 : n1 = n - k) (hs1 : ∀ W, (Instr.sliceAt 22 (.slice (some ⟨g, 0, none⟩) n c) (some (.int .i64 (k : Int))) none none).run Try.prog W = .ok (.slice (some ad1) n1 c1) W) (hs2 : ∀ W, (Instr.sliceAt 22 (.slice (some ⟨g, 0, none⟩) n c) none (some (.int .i64 (k : Int))) none).run Try.prog W = .ok (.slice (some ⟨g, 0, none⟩) k c) W) (hc1 : ∀ W, Below w.heap.size w W → ∀ j u, ((l.drop k).map encStr)[j]? = some u → W.cell? (ad1.add j) = some u) (hc2 : ∀ W, Below w.heap.size w W → ∀ j u, (l.map encStr)[j]? = some u → W.cell? ((⟨g, 0, none⟩ : Addr).add j) = some u) (hM : ∀ W a n' c', Below w.heap.size w W → HasS W a n' c' (l.drop k ++ l.take k ++ l) → Calls Try.prog 7 #[.slice a n' c'] W fun e w' => ∃ v, e = .returned (.tuple #[v, .int .i64 0]) ∧ TabV w' v T ∧ Below W.heap.size W w')
    (u1 u2 u3 u4 u5 u6 u7 u8 u9 u10 u11 u12 u14 u15 u16 u17 u18 u19 u20 u21 u22 u23 u24 u25 u26 u27 u28 u29 u30 u31 u32 u33 u34 u35 u36 u37 u38 u39 u40 u41 u42 u43 u44 u45 u46 u47 u48 u49 u50 u51 u52 u53 u54 u55 u56 u57 u58 u59 u60 u61 u62 u63 u64 u65 u66 u67 u68 u69 u70 u71 u72 u73 u74 u75 u76 u77 u78 u79 u80 u81 u82 u83 u84 u85 u86 u87 u88 u89 u90 u91 u92 u93 u94 u95 u96 u97 u98 u99 u100 u101 u102 u103 u104 : Value) (Q : Exit → Act → World → Prop)
    (h : ∀ (w' : World) (gB : Nat) (X75 X79 X83 X85 sl : Value), Below w.heap.size w w' → w.heap.size ≤ gB → w'.heap[gB]? = some (.cells #[sl] 27 (0, 0)) → TabV w' (.agg #[sl]) T → Q .normal { tmps := (List.toArray ((.slice (some ⟨g, 0, none⟩) n c :: u1 :: u2 :: u3 :: u4 :: u5 :: u6 :: u7 :: u8 :: u9 :: u10 :: u11 :: u12 :: .int .i64 (k : Int) :: .pointer (some ⟨gB, 0, none⟩) :: .int .i64 0 :: u16 :: u17 :: u18 :: u19 :: u20 :: u21 :: u22 :: u23 :: u24 :: u25 :: u26 :: u27 :: u28 :: u29 :: u30 :: u31 :: u32 :: u33 :: u34 :: u35 :: u36 :: u37 :: u38 :: u39 :: u40 :: u41 :: u42 :: u43 :: u44 :: u45 :: u46 :: u47 :: u48 :: u49 :: u50 :: u51 :: u52 :: u53 :: u54 :: u55 :: u56 :: u57 :: u58 :: u59 :: u60 :: u61 :: u62 :: u63 :: u64 :: u65 :: u66 :: u67 :: u68 :: u69 :: u70 :: u71 :: u72 :: u73 :: .tuple #[.agg #[sl], .int .i64 0] :: X75 :: .slice (some ⟨g, 0, none⟩) n c :: .int .i64 (k : Int) :: .slice (some ad1) n1 c1 :: X79 :: .slice (some ⟨g, 0, none⟩) n c :: .int .i64 (k : Int) :: .slice (some ⟨g, 0, none⟩) k c :: X83 :: .slice (some ⟨g, 0, none⟩) n c :: X85 :: .tuple #[.agg #[sl], .int .i64 0] :: .agg #[sl] :: .int .i64 0 :: u89 :: u90 :: u91 :: u92 :: u93 :: u94 :: u95 :: u96 :: u97 :: u98 :: u99 :: u100 :: u101 :: u102 :: u103 :: u104 :: []) : List Value)), defers := [] } w') :
    (Code.region 17 #[{ dst := some 75, op := Op.buildSlice 22 0 #[], type := 22, pos := "law.go:115", after := #[], guard := none }, { dst := some 76, op := Op.move (Operand.tmp 0), type := 22, pos := "law.go:115", after := #[], guard := none }, { dst := some 77, op := Op.move (Operand.tmp 13), type := 3, pos := "law.go:115", after := #[], guard := none }, { dst := some 78, op := Op.slice 22 (Operand.tmp 76) (some (Operand.tmp 77)) none none, type := 22, pos := "law.go:115", after := #[{ on := 1, ground := Ground.data }, { on := 2, ground := Ground.data }], guard := none }, { dst := some 79, op := Op.call { callee := Callee.builtin Builtin.append, args := #[Operand.tmp 75, Operand.tmp 78], argTypes := #[22, 22] }, type := 22, pos := "law.go:115", after := #[{ on := 0, ground := Ground.data }, { on := 3, ground := Ground.data }], guard := none }, { dst := some 80, op := Op.move (Operand.tmp 0), type := 22, pos := "law.go:115", after := #[], guard := none }, { dst := some 81, op := Op.move (Operand.tmp 13), type := 3, pos := "law.go:115", after := #[], guard := none }, { dst := some 82, op := Op.slice 22 (Operand.tmp 80) none (some (Operand.tmp 81)) none, type := 22, pos := "law.go:115", after := #[{ on := 5, ground := Ground.data }, { on := 6, ground := Ground.data }], guard := none }, { dst := some 83, op := Op.call { callee := Callee.builtin Builtin.append, args := #[Operand.tmp 79, Operand.tmp 82], argTypes := #[22, 22] }, type := 22, pos := "law.go:115", after := #[{ on := 4, ground := Ground.data }, { on := 7, ground := Ground.data }, { on := 4, ground := Ground.chain }], guard := none }, { dst := some 84, op := Op.move (Operand.tmp 0), type := 22, pos := "law.go:115", after := #[], guard := none }, { dst := some 85, op := Op.call { callee := Callee.builtin Builtin.append, args := #[Operand.tmp 83, Operand.tmp 84], argTypes := #[22, 22] }, type := 22, pos := "law.go:115", after := #[{ on := 8, ground := Ground.data }, { on := 9, ground := Ground.data }, { on := 8, ground := Ground.chain }], guard := none }, { dst := some 86, op := Op.call { callee := Callee.value (Operand.func 7), args := #[Operand.tmp 85], argTypes := #[22] }, type := 29, pos := "law.go:115", after := #[{ on := 10, ground := Ground.data }, { on := 10, ground := Ground.chain }], guard := none }, { dst := some 74, op := Op.move (Operand.tmp 86), type := 29, pos := "law.go:115", after := #[{ on := 11, ground := Ground.data }], guard := none }, { dst := some 87, op := Op.extract (Operand.tmp 74) 0, type := 27, pos := "law.go:115", after := #[{ on := 12, ground := Ground.data }], guard := none }, { dst := some 88, op := Op.extract (Operand.tmp 74) 1, type := 28, pos := "law.go:115", after := #[{ on := 12, ground := Ground.data }, { on := 16, ground := Ground.gcOnly Departure.lateStores }], guard := none }, { dst := some 14, op := Op.alloc 27, type := 0, pos := "law.go:115", after := #[], guard := none }, { dst := none, op := Op.store 27 (Operand.tmp 14) (Operand.tmp 87), type := 0, pos := "law.go:115", after := #[{ on := 15, ground := Ground.data }, { on := 13, ground := Ground.data }, { on := 11, ground := Ground.chain }, { on := 0, ground := Ground.phase }, { on := 1, ground := Ground.phase }, { on := 2, ground := Ground.phase }, { on := 3, ground := Ground.phase }, { on := 4, ground := Ground.phase }, { on := 5, ground := Ground.phase }, { on := 6, ground := Ground.phase }, { on := 7, ground := Ground.phase }, { on := 8, ground := Ground.phase }, { on := 9, ground := Ground.phase }, { on := 10, ground := Ground.phase }, { on := 11, ground := Ground.phase }, { on := 12, ground := Ground.phase }, { on := 13, ground := Ground.phase }, { on := 14, ground := Ground.textOnly Departure.lateStores }, { on := 15, ground := Ground.phase }], guard := none }, { dst := some 15, op := Op.assign (Operand.tmp 88), type := 28, pos := "law.go:115", after := #[{ on := 14, ground := Ground.data }, { on := 16, ground := Ground.chain }, { on := 0, ground := Ground.phase }, { on := 1, ground := Ground.phase }, { on := 2, ground := Ground.phase }, { on := 3, ground := Ground.phase }, { on := 4, ground := Ground.phase }, { on := 5, ground := Ground.phase }, { on := 6, ground := Ground.phase }, { on := 7, ground := Ground.phase }, { on := 8, ground := Ground.phase }, { on := 9, ground := Ground.phase }, { on := 10, ground := Ground.phase }, { on := 11, ground := Ground.phase }, { on := 12, ground := Ground.phase }, { on := 13, ground := Ground.phase }, { on := 14, ground := Ground.phase }, { on := 15, ground := Ground.phase }, { on := 16, ground := Ground.phase }], guard := none }] true).wp Try.prog Q { tmps := (List.toArray ((.slice (some ⟨g, 0, none⟩) n c :: u1 :: u2 :: u3 :: u4 :: u5 :: u6 :: u7 :: u8 :: u9 :: u10 :: u11 :: u12 :: .int .i64 (k : Int) :: u14 :: u15 :: u16 :: u17 :: u18 :: u19 :: u20 :: u21 :: u22 :: u23 :: u24 :: u25 :: u26 :: u27 :: u28 :: u29 :: u30 :: u31 :: u32 :: u33 :: u34 :: u35 :: u36 :: u37 :: u38 :: u39 :: u40 :: u41 :: u42 :: u43 :: u44 :: u45 :: u46 :: u47 :: u48 :: u49 :: u50 :: u51 :: u52 :: u53 :: u54 :: u55 :: u56 :: u57 :: u58 :: u59 :: u60 :: u61 :: u62 :: u63 :: u64 :: u65 :: u66 :: u67 :: u68 :: u69 :: u70 :: u71 :: u72 :: u73 :: u74 :: u75 :: u76 :: u77 :: u78 :: u79 :: u80 :: u81 :: u82 :: u83 :: u84 :: u85 :: u86 :: u87 :: u88 :: u89 :: u90 :: u91 :: u92 :: u93 :: u94 :: u95 :: u96 :: u97 :: u98 :: u99 :: u100 :: u101 :: u102 :: u103 :: u104 :: []) : List Value)), defers := [] } w := by
  have n1b : n1 ≤ 1000 := by omega
  replace hn1 := hide hn1
  have H : Below w.heap.size w w.drew := (Below.refl _ w).drew
  replace hs1 := hide hs1
  replace hs2 := hide hs2
  replace hc1 := hide hc1
  replace hc2 := hide hc2
  replace hM := hide hM
  replace h := hide h
  refine wp_region_noPanic ?_
  refine wp_region_any (by kernel_rfl) ?_
  change wpAny _ _ _ _ _ _ _ (World.drew w)
  refine wpAny_take (i := 1) (oi := { dst := some 76, op := Op.move (Operand.tmp 0), type := 22, pos := "law.go:115", after := #[], guard := none }) (v := ?_) rfl (by kernel_rfl) (by kernel_rfl) (by kernel_rfl) (fun _ _ _ h => h) (Or.inl ⟨by rfl, ?_⟩) ?_
  rotate_left
  · intro w'
    go_simp
    try with_reducible rfl
  try simp only [Act.put, List.setIfInBounds_toArray, List.set_cons_zero, List.set_cons_succ]
  refine wpAny_take (i := 2) (oi := { dst := some 77, op := Op.move (Operand.tmp 13), type := 3, pos := "law.go:115", after := #[], guard := none }) (v := ?_) rfl (by kernel_rfl) (by kernel_rfl) (by kernel_rfl) (fun _ _ _ h => h) (Or.inl ⟨by rfl, ?_⟩) ?_
  rotate_left
  · intro w'
    go_simp
    try with_reducible rfl
  try simp only [Act.put, List.setIfInBounds_toArray, List.set_cons_zero, List.set_cons_succ]
  refine wpAny_take (i := 3) (oi := { dst := some 78, op := Op.slice 22 (Operand.tmp 76) (some (Operand.tmp 77)) none none, type := 22, pos := "law.go:115", after := #[{ on := 1, ground := Ground.data }, { on := 2, ground := Ground.data }], guard := none }) (v := .slice (some ad1) n1 c1) rfl (by kernel_rfl) (by kernel_rfl) (by kernel_rfl) (fun _ _ _ h => h) (Or.inl ⟨by rfl, ?_⟩) ?_
  · intro w'
    exact run_slLo _ rfl rfl (hs1.out _)
  try simp only [Act.put, List.setIfInBounds_toArray, List.set_cons_zero, List.set_cons_succ]
  refine wpAny_take (i := 5) (oi := { dst := some 80, op := Op.move (Operand.tmp 0), type := 22, pos := "law.go:115", after := #[], guard := none }) (v := ?_) rfl (by kernel_rfl) (by kernel_rfl) (by kernel_rfl) (fun _ _ _ h => h) (Or.inl ⟨by rfl, ?_⟩) ?_
  rotate_left
  · intro w'
    go_simp
    try with_reducible rfl
  try simp only [Act.put, List.setIfInBounds_toArray, List.set_cons_zero, List.set_cons_succ]
  refine wpAny_take (i := 6) (oi := { dst := some 81, op := Op.move (Operand.tmp 13), type := 3, pos := "law.go:115", after := #[], guard := none }) (v := ?_) rfl (by kernel_rfl) (by kernel_rfl) (by kernel_rfl) (fun _ _ _ h => h) (Or.inl ⟨by rfl, ?_⟩) ?_
  rotate_left
  · intro w'
    go_simp
    try with_reducible rfl
  try simp only [Act.put, List.setIfInBounds_toArray, List.set_cons_zero, List.set_cons_succ]
  refine wpAny_take (i := 7) (oi := { dst := some 82, op := Op.slice 22 (Operand.tmp 80) none (some (Operand.tmp 81)) none, type := 22, pos := "law.go:115", after := #[{ on := 5, ground := Ground.data }, { on := 6, ground := Ground.data }], guard := none }) (v := .slice (some ⟨g, 0, none⟩) k c) rfl (by kernel_rfl) (by kernel_rfl) (by kernel_rfl) (fun _ _ _ h => h) (Or.inl ⟨by rfl, ?_⟩) ?_
  · intro w'
    exact run_slHi _ rfl rfl (hs2.out _)
  try simp only [Act.put, List.setIfInBounds_toArray, List.set_cons_zero, List.set_cons_succ]
  refine wpAny_take (i := 9) (oi := { dst := some 84, op := Op.move (Operand.tmp 0), type := 22, pos := "law.go:115", after := #[], guard := none }) (v := ?_) rfl (by kernel_rfl) (by kernel_rfl) (by kernel_rfl) (fun _ _ _ h => h) (Or.inl ⟨by rfl, ?_⟩) ?_
  rotate_left
  · intro w'
    go_simp
    try with_reducible rfl
  try simp only [Act.put, List.setIfInBounds_toArray, List.set_cons_zero, List.set_cons_succ]
  refine wpAny_ready (rs := [0, 15]) (by kernel_rfl) (by simp) ?_
  refine (AllReady.cons (o := { dst := some 75, op := Op.buildSlice 22 0 #[], type := 22, pos := "law.go:115", after := #[], guard := none }) rfl (fun K0 hK0 => ?_) (AllReady.cons (o := { dst := some 14, op := Op.alloc 27, type := 0, pos := "law.go:115", after := #[], guard := none }) rfl (fun K15 hK15 => ?_) AllReady.nil))
  · refine step_val2 (by rfl) (bs0 _) ?_
    refine hK0 _ _ ?_
    have O := World.ownsRow.mono (empty_row _) H.size
    replace H := H.alloc H.size (.cells #[] 9)
    clear hK0 K0
    try simp only [Act.put, List.setIfInBounds_toArray, List.set_cons_zero, List.set_cons_succ]
    refine wpAny_ready (rs := [4, 15]) (by kernel_rfl) (by simp) ?_
    refine (AllReady.cons (o := { dst := some 79, op := Op.call { callee := Callee.builtin Builtin.append, args := #[Operand.tmp 75, Operand.tmp 78], argTypes := #[22, 22] }, type := 22, pos := "law.go:115", after := #[{ on := 0, ground := Ground.data }, { on := 3, ground := Ground.data }], guard := none }) rfl (fun K4 hK4 => ?_) (AllReady.cons (o := { dst := some 14, op := Op.alloc 27, type := 0, pos := "law.go:115", after := #[], guard := none }) rfl (fun K15 hK15 => ?_) AllReady.nil))
    · obtain ⟨v4, w4, r4, O4, G4⟩ := app_txt (q := n1) (c := c1) O H.size (hc1.out _ H) (by rw [List.length_drop]; have := hn1.out; omega) (by omega)
      refine step_val2 (by rfl) (app22 rfl rfl r4) ?_
      refine hK4 _ _ ?_
      replace H := H.grown G4 H.size (fun j e => (O.lt j e).1)
      replace O := O4
      clear r4 G4
      clear hK4 K4
      try simp only [Act.put, List.setIfInBounds_toArray, List.set_cons_zero, List.set_cons_succ]
      refine wpAny_ready (rs := [8, 15]) (by kernel_rfl) (by simp) ?_
      refine (AllReady.cons (o := { dst := some 83, op := Op.call { callee := Callee.builtin Builtin.append, args := #[Operand.tmp 79, Operand.tmp 82], argTypes := #[22, 22] }, type := 22, pos := "law.go:115", after := #[{ on := 4, ground := Ground.data }, { on := 7, ground := Ground.data }, { on := 4, ground := Ground.chain }], guard := none }) rfl (fun K8 hK8 => ?_) (AllReady.cons (o := { dst := some 14, op := Op.alloc 27, type := 0, pos := "law.go:115", after := #[], guard := none }) rfl (fun K15 hK15 => ?_) AllReady.nil))
      · obtain ⟨v8, w8, r8, O8, G8⟩ := app_txt (q := k) (c := c) O H.size (src_take (hc2.out _ H) k) (by rw [List.length_take]; omega) (by omega)
        refine step_val2 (by rfl) (app22 rfl rfl r8) ?_
        refine hK8 _ _ ?_
        replace H := H.grown G8 H.size (fun j e => (O.lt j e).1)
        replace O := O8
        clear r8 G8
        clear hK8 K8
        try simp only [Act.put, List.setIfInBounds_toArray, List.set_cons_zero, List.set_cons_succ]
        refine wpAny_ready (rs := [10, 15]) (by kernel_rfl) (by simp) ?_
        refine (AllReady.cons (o := { dst := some 85, op := Op.call { callee := Callee.builtin Builtin.append, args := #[Operand.tmp 83, Operand.tmp 84], argTypes := #[22, 22] }, type := 22, pos := "law.go:115", after := #[{ on := 8, ground := Ground.data }, { on := 9, ground := Ground.data }, { on := 8, ground := Ground.chain }], guard := none }) rfl (fun K10 hK10 => ?_) (AllReady.cons (o := { dst := some 14, op := Op.alloc 27, type := 0, pos := "law.go:115", after := #[], guard := none }) rfl (fun K15 hK15 => ?_) AllReady.nil))
        · obtain ⟨v10, w10, r10, O10, G10⟩ := app_txt (q := n) (c := c) O H.size (hc2.out _ H) (hn) (by omega)
          refine step_val2 (by rfl) (app22 rfl rfl r10) ?_
          refine hK10 _ _ ?_
          replace H := H.grown G10 H.size (fun j e => (O.lt j e).1)
          replace O := O10
          clear r10 G10
          clear hK10 K10
          try simp only [Act.put, List.setIfInBounds_toArray, List.set_cons_zero, List.set_cons_succ]
          refine wpAny_ready (rs := [11, 15]) (by kernel_rfl) (by simp) ?_
          refine (AllReady.cons (o := { dst := some 86, op := Op.call { callee := Callee.value (Operand.func 7), args := #[Operand.tmp 85], argTypes := #[22] }, type := 29, pos := "law.go:115", after := #[{ on := 10, ground := Ground.data }, { on := 10, ground := Ground.chain }], guard := none }) rfl (fun K11 hK11 => ?_) (AllReady.cons (o := { dst := some 14, op := Op.alloc 27, type := 0, pos := "law.go:115", after := #[], guard := none }) rfl (fun K15 hK15 => ?_) AllReady.nil))
          · rw [show 0 + n1 + k + n = n + n by have := hn1.out; omega] at O
            obtain ⟨a11, c11, e11, H11⟩ := hasS_of_owns O
            subst e11
            go_simp
            refine (hM.out _ _ _ _ H (by simpa using H11)).mono ?_
            rintro e w11 ⟨v11, rfl, ⟨at_, nt_, ct_, rfl, TV⟩, B11⟩
            refine hK11 _ _ ?_
            replace H := H.trans (B11.mono H.size)
            clear O H11 B11
            clear hK11 K11
            try simp only [Act.put, List.setIfInBounds_toArray, List.set_cons_zero, List.set_cons_succ]
            refine wpAny_take (i := 12) (oi := { dst := some 74, op := Op.move (Operand.tmp 86), type := 29, pos := "law.go:115", after := #[{ on := 11, ground := Ground.data }], guard := none }) (v := ?_) rfl (by kernel_rfl) (by kernel_rfl) (by kernel_rfl) (fun _ _ _ h => h) (Or.inl ⟨by rfl, ?_⟩) ?_
            rotate_left
            · intro w'
              go_simp
              try with_reducible rfl
            try simp only [Act.put, List.setIfInBounds_toArray, List.set_cons_zero, List.set_cons_succ]
            refine wpAny_take (i := 13) (oi := { dst := some 87, op := Op.extract (Operand.tmp 74) 0, type := 27, pos := "law.go:115", after := #[{ on := 12, ground := Ground.data }], guard := none }) (v := ?_) rfl (by kernel_rfl) (by kernel_rfl) (by kernel_rfl) (fun _ _ _ h => h) (Or.inl ⟨by rfl, ?_⟩) ?_
            rotate_left
            · intro w'
              go_simp
              try with_reducible rfl
            try simp only [Act.put, List.setIfInBounds_toArray, List.set_cons_zero, List.set_cons_succ]
            refine wpAny_take (i := 14) (oi := { dst := some 88, op := Op.extract (Operand.tmp 74) 1, type := 28, pos := "law.go:115", after := #[{ on := 12, ground := Ground.data }, { on := 16, ground := Ground.gcOnly Departure.lateStores }], guard := none }) (v := ?_) rfl (by kernel_rfl) (by kernel_rfl) (by kernel_rfl) (fun _ _ _ h => h) (Or.inl ⟨by rfl, ?_⟩) ?_
            rotate_left
            · intro w'
              go_simp
              try with_reducible rfl
            try simp only [Act.put, List.setIfInBounds_toArray, List.set_cons_zero, List.set_cons_succ]
            refine wpAny_ready (rs := [15]) (by kernel_rfl) (by simp) ?_
            refine (AllReady.cons (o := { dst := some 14, op := Op.alloc 27, type := 0, pos := "law.go:115", after := #[], guard := none }) rfl (fun K15 hK15 => ?_) AllReady.nil)
            refine step_val2 (by rfl) (alloc27 _ _ _ _ _ _) ?_
            refine hK15 _ _ ?_
            have Bx := box_new (g := w11.heap.size) H (by simp)
            replace TV := TV.kept ((Below.refl _ _).alloc (Nat.le_refl _) (.cells #[.slice none 0 0] 27)) (Nat.le_refl _)
            replace H := H.alloc H.size (.cells #[.slice none 0 0] 27)
            clear hK15 K15
            try simp only [Act.put, List.setIfInBounds_toArray, List.set_cons_zero, List.set_cons_succ]
            refine wpAny_ready (rs := [16]) (by kernel_rfl) (by simp) ?_
            refine (AllReady.cons (o := { dst := none, op := Op.store 27 (Operand.tmp 14) (Operand.tmp 87), type := 0, pos := "law.go:115", after := #[{ on := 15, ground := Ground.data }, { on := 13, ground := Ground.data }, { on := 11, ground := Ground.chain }, { on := 0, ground := Ground.phase }, { on := 1, ground := Ground.phase }, { on := 2, ground := Ground.phase }, { on := 3, ground := Ground.phase }, { on := 4, ground := Ground.phase }, { on := 5, ground := Ground.phase }, { on := 6, ground := Ground.phase }, { on := 7, ground := Ground.phase }, { on := 8, ground := Ground.phase }, { on := 9, ground := Ground.phase }, { on := 10, ground := Ground.phase }, { on := 11, ground := Ground.phase }, { on := 12, ground := Ground.phase }, { on := 13, ground := Ground.phase }, { on := 14, ground := Ground.textOnly Departure.lateStores }, { on := 15, ground := Ground.phase }], guard := none }) rfl (fun K16 hK16 => ?_) AllReady.nil)
            refine step_skip2 (by rfl) (st27 rfl rfl (store27 Bx.1)) ?_
            refine hK16 _ _ ?_
            have F1 := heap_setCell_same _ _ 0 _ 27 (.slice (some at_) nt_ ct_) Bx.1
            have F2 := hasS_box Bx.1 TV (.slice (some at_) nt_ ct_)
            replace H := below_set H Bx.2 (.slice (some at_) nt_ ct_)
            clear hK16 K16
            try simp only [Act.put, List.setIfInBounds_toArray, List.set_cons_zero, List.set_cons_succ]
            refine wpAny_take (i := 17) (oi := { dst := some 15, op := Op.assign (Operand.tmp 88), type := 28, pos := "law.go:115", after := #[{ on := 14, ground := Ground.data }, { on := 16, ground := Ground.chain }, { on := 0, ground := Ground.phase }, { on := 1, ground := Ground.phase }, { on := 2, ground := Ground.phase }, { on := 3, ground := Ground.phase }, { on := 4, ground := Ground.phase }, { on := 5, ground := Ground.phase }, { on := 6, ground := Ground.phase }, { on := 7, ground := Ground.phase }, { on := 8, ground := Ground.phase }, { on := 9, ground := Ground.phase }, { on := 10, ground := Ground.phase }, { on := 11, ground := Ground.phase }, { on := 12, ground := Ground.phase }, { on := 13, ground := Ground.phase }, { on := 14, ground := Ground.phase }, { on := 15, ground := Ground.phase }, { on := 16, ground := Ground.phase }], guard := none }) (v := ?_) rfl (by kernel_rfl) (by kernel_rfl) (by kernel_rfl) (fun _ _ _ h => h) (Or.inl ⟨by rfl, ?_⟩) ?_
            rotate_left
            · intro w'
              go_simp
              try with_reducible rfl
            try simp only [Act.put, List.setIfInBounds_toArray, List.set_cons_zero, List.set_cons_succ]
            refine wpAny_done (by kernel_rfl) ?_ _
            refine NoPanic.normal ?_
            exact h.out _ _ _ _ _ _ _ H Bx.2 F1 F2
          · refine step_val2 (by rfl) (alloc27 _ _ _ _ _ _) ?_
            refine hK15 _ _ ?_
            have Bx := box_new (g := w10.heap.size) H (by simp)
            replace O := O.alloc (.cells #[.slice none 0 0] 27)
            replace H := H.alloc H.size (.cells #[.slice none 0 0] 27)
            clear hK15 K15
            try simp only [Act.put, List.setIfInBounds_toArray, List.set_cons_zero, List.set_cons_succ]
            refine wpAny_ready (rs := [11]) (by kernel_rfl) (by simp) ?_
            refine (AllReady.cons (o := { dst := some 86, op := Op.call { callee := Callee.value (Operand.func 7), args := #[Operand.tmp 85], argTypes := #[22] }, type := 29, pos := "law.go:115", after := #[{ on := 10, ground := Ground.data }, { on := 10, ground := Ground.chain }], guard := none }) rfl (fun K11 hK11 => ?_) AllReady.nil)
            rw [show 0 + n1 + k + n = n + n by have := hn1.out; omega] at O
            obtain ⟨a11, c11, e11, H11⟩ := hasS_of_owns O
            subst e11
            go_simp
            refine (hM.out _ _ _ _ H (by simpa using H11)).mono ?_
            rintro e w11 ⟨v11, rfl, ⟨at_, nt_, ct_, rfl, TV⟩, B11⟩
            refine hK11 _ _ ?_
            replace Bx := box_below Bx B11
            replace H := H.trans (B11.mono H.size)
            clear O H11 B11
            clear hK11 K11
            try simp only [Act.put, List.setIfInBounds_toArray, List.set_cons_zero, List.set_cons_succ]
            refine wpAny_take (i := 12) (oi := { dst := some 74, op := Op.move (Operand.tmp 86), type := 29, pos := "law.go:115", after := #[{ on := 11, ground := Ground.data }], guard := none }) (v := ?_) rfl (by kernel_rfl) (by kernel_rfl) (by kernel_rfl) (fun _ _ _ h => h) (Or.inl ⟨by rfl, ?_⟩) ?_
            rotate_left
            · intro w'
              go_simp
              try with_reducible rfl
            try simp only [Act.put, List.setIfInBounds_toArray, List.set_cons_zero, List.set_cons_succ]
            refine wpAny_take (i := 13) (oi := { dst := some 87, op := Op.extract (Operand.tmp 74) 0, type := 27, pos := "law.go:115", after := #[{ on := 12, ground := Ground.data }], guard := none }) (v := ?_) rfl (by kernel_rfl) (by kernel_rfl) (by kernel_rfl) (fun _ _ _ h => h) (Or.inl ⟨by rfl, ?_⟩) ?_
            rotate_left
            · intro w'
              go_simp
              try with_reducible rfl
            try simp only [Act.put, List.setIfInBounds_toArray, List.set_cons_zero, List.set_cons_succ]
            refine wpAny_take (i := 14) (oi := { dst := some 88, op := Op.extract (Operand.tmp 74) 1, type := 28, pos := "law.go:115", after := #[{ on := 12, ground := Ground.data }, { on := 16, ground := Ground.gcOnly Departure.lateStores }], guard := none }) (v := ?_) rfl (by kernel_rfl) (by kernel_rfl) (by kernel_rfl) (fun _ _ _ h => h) (Or.inl ⟨by rfl, ?_⟩) ?_
            rotate_left
            · intro w'
              go_simp
              try with_reducible rfl
            try simp only [Act.put, List.setIfInBounds_toArray, List.set_cons_zero, List.set_cons_succ]
            refine wpAny_ready (rs := [16]) (by kernel_rfl) (by simp) ?_
            refine (AllReady.cons (o := { dst := none, op := Op.store 27 (Operand.tmp 14) (Operand.tmp 87), type := 0, pos := "law.go:115", after := #[{ on := 15, ground := Ground.data }, { on := 13, ground := Ground.data }, { on := 11, ground := Ground.chain }, { on := 0, ground := Ground.phase }, { on := 1, ground := Ground.phase }, { on := 2, ground := Ground.phase }, { on := 3, ground := Ground.phase }, { on := 4, ground := Ground.phase }, { on := 5, ground := Ground.phase }, { on := 6, ground := Ground.phase }, { on := 7, ground := Ground.phase }, { on := 8, ground := Ground.phase }, { on := 9, ground := Ground.phase }, { on := 10, ground := Ground.phase }, { on := 11, ground := Ground.phase }, { on := 12, ground := Ground.phase }, { on := 13, ground := Ground.phase }, { on := 14, ground := Ground.textOnly Departure.lateStores }, { on := 15, ground := Ground.phase }], guard := none }) rfl (fun K16 hK16 => ?_) AllReady.nil)
            refine step_skip2 (by rfl) (st27 rfl rfl (store27 Bx.1)) ?_
            refine hK16 _ _ ?_
            have F1 := heap_setCell_same _ _ 0 _ 27 (.slice (some at_) nt_ ct_) Bx.1
            have F2 := hasS_box Bx.1 TV (.slice (some at_) nt_ ct_)
            replace H := below_set H Bx.2 (.slice (some at_) nt_ ct_)
            clear hK16 K16
            try simp only [Act.put, List.setIfInBounds_toArray, List.set_cons_zero, List.set_cons_succ]
            refine wpAny_take (i := 17) (oi := { dst := some 15, op := Op.assign (Operand.tmp 88), type := 28, pos := "law.go:115", after := #[{ on := 14, ground := Ground.data }, { on := 16, ground := Ground.chain }, { on := 0, ground := Ground.phase }, { on := 1, ground := Ground.phase }, { on := 2, ground := Ground.phase }, { on := 3, ground := Ground.phase }, { on := 4, ground := Ground.phase }, { on := 5, ground := Ground.phase }, { on := 6, ground := Ground.phase }, { on := 7, ground := Ground.phase }, { on := 8, ground := Ground.phase }, { on := 9, ground := Ground.phase }, { on := 10, ground := Ground.phase }, { on := 11, ground := Ground.phase }, { on := 12, ground := Ground.phase }, { on := 13, ground := Ground.phase }, { on := 14, ground := Ground.phase }, { on := 15, ground := Ground.phase }, { on := 16, ground := Ground.phase }], guard := none }) (v := ?_) rfl (by kernel_rfl) (by kernel_rfl) (by kernel_rfl) (fun _ _ _ h => h) (Or.inl ⟨by rfl, ?_⟩) ?_
            rotate_left
            · intro w'
              go_simp
              try with_reducible rfl
            try simp only [Act.put, List.setIfInBounds_toArray, List.set_cons_zero, List.set_cons_succ]
            refine wpAny_done (by kernel_rfl) ?_ _
            refine NoPanic.normal ?_
            exact h.out _ _ _ _ _ _ _ H Bx.2 F1 F2
        · refine step_val2 (by rfl) (alloc27 _ _ _ _ _ _) ?_
          refine hK15 _ _ ?_
          have Bx := box_new (g := w8.heap.size) H (by simp)
          replace O := O.alloc (.cells #[.slice none 0 0] 27)
          replace H := H.alloc H.size (.cells #[.slice none 0 0] 27)
          clear hK15 K15
          try simp only [Act.put, List.setIfInBounds_toArray, List.set_cons_zero, List.set_cons_succ]
          refine wpAny_ready (rs := [10]) (by kernel_rfl) (by simp) ?_
          refine (AllReady.cons (o := { dst := some 85, op := Op.call { callee := Callee.builtin Builtin.append, args := #[Operand.tmp 83, Operand.tmp 84], argTypes := #[22, 22] }, type := 22, pos := "law.go:115", after := #[{ on := 8, ground := Ground.data }, { on := 9, ground := Ground.data }, { on := 8, ground := Ground.chain }], guard := none }) rfl (fun K10 hK10 => ?_) AllReady.nil)
          obtain ⟨v10, w10, r10, O10, G10⟩ := app_txt (q := n) (c := c) O H.size (hc2.out _ H) (hn) (by omega)
          refine step_val2 (by rfl) (app22 rfl rfl r10) ?_
          refine hK10 _ _ ?_
          replace Bx := box_grown Bx O G10
          replace H := H.grown G10 H.size (fun j e => (O.lt j e).1)
          replace O := O10
          clear r10 G10
          clear hK10 K10
          try simp only [Act.put, List.setIfInBounds_toArray, List.set_cons_zero, List.set_cons_succ]
          refine wpAny_ready (rs := [11]) (by kernel_rfl) (by simp) ?_
          refine (AllReady.cons (o := { dst := some 86, op := Op.call { callee := Callee.value (Operand.func 7), args := #[Operand.tmp 85], argTypes := #[22] }, type := 29, pos := "law.go:115", after := #[{ on := 10, ground := Ground.data }, { on := 10, ground := Ground.chain }], guard := none }) rfl (fun K11 hK11 => ?_) AllReady.nil)
          rw [show 0 + n1 + k + n = n + n by have := hn1.out; omega] at O
          obtain ⟨a11, c11, e11, H11⟩ := hasS_of_owns O
          subst e11
          go_simp
          refine (hM.out _ _ _ _ H (by simpa using H11)).mono ?_
          rintro e w11 ⟨v11, rfl, ⟨at_, nt_, ct_, rfl, TV⟩, B11⟩
          refine hK11 _ _ ?_
          replace Bx := box_below Bx B11
          replace H := H.trans (B11.mono H.size)
          clear O H11 B11
          clear hK11 K11
          try simp only [Act.put, List.setIfInBounds_toArray, List.set_cons_zero, List.set_cons_succ]
          refine wpAny_take (i := 12) (oi := { dst := some 74, op := Op.move (Operand.tmp 86), type := 29, pos := "law.go:115", after := #[{ on := 11, ground := Ground.data }], guard := none }) (v := ?_) rfl (by kernel_rfl) (by kernel_rfl) (by kernel_rfl) (fun _ _ _ h => h) (Or.inl ⟨by rfl, ?_⟩) ?_
          rotate_left
          · intro w'
            go_simp
            try with_reducible rfl
          try simp only [Act.put, List.setIfInBounds_toArray, List.set_cons_zero, List.set_cons_succ]
          refine wpAny_take (i := 13) (oi := { dst := some 87, op := Op.extract (Operand.tmp 74) 0, type := 27, pos := "law.go:115", after := #[{ on := 12, ground := Ground.data }], guard := none }) (v := ?_) rfl (by kernel_rfl) (by kernel_rfl) (by kernel_rfl) (fun _ _ _ h => h) (Or.inl ⟨by rfl, ?_⟩) ?_
          rotate_left
          · intro w'
            go_simp
            try with_reducible rfl
          try simp only [Act.put, List.setIfInBounds_toArray, List.set_cons_zero, List.set_cons_succ]
          refine wpAny_take (i := 14) (oi := { dst := some 88, op := Op.extract (Operand.tmp 74) 1, type := 28, pos := "law.go:115", after := #[{ on := 12, ground := Ground.data }, { on := 16, ground := Ground.gcOnly Departure.lateStores }], guard := none }) (v := ?_) rfl (by kernel_rfl) (by kernel_rfl) (by kernel_rfl) (fun _ _ _ h => h) (Or.inl ⟨by rfl, ?_⟩) ?_
          rotate_left
          · intro w'
            go_simp
            try with_reducible rfl
          try simp only [Act.put, List.setIfInBounds_toArray, List.set_cons_zero, List.set_cons_succ]
          refine wpAny_ready (rs := [16]) (by kernel_rfl) (by simp) ?_
          refine (AllReady.cons (o := { dst := none, op := Op.store 27 (Operand.tmp 14) (Operand.tmp 87), type := 0, pos := "law.go:115", after := #[{ on := 15, ground := Ground.data }, { on := 13, ground := Ground.data }, { on := 11, ground := Ground.chain }, { on := 0, ground := Ground.phase }, { on := 1, ground := Ground.phase }, { on := 2, ground := Ground.phase }, { on := 3, ground := Ground.phase }, { on := 4, ground := Ground.phase }, { on := 5, ground := Ground.phase }, { on := 6, ground := Ground.phase }, { on := 7, ground := Ground.phase }, { on := 8, ground := Ground.phase }, { on := 9, ground := Ground.phase }, { on := 10, ground := Ground.phase }, { on := 11, ground := Ground.phase }, { on := 12, ground := Ground.phase }, { on := 13, ground := Ground.phase }, { on := 14, ground := Ground.textOnly Departure.lateStores }, { on := 15, ground := Ground.phase }], guard := none }) rfl (fun K16 hK16 => ?_) AllReady.nil)
          refine step_skip2 (by rfl) (st27 rfl rfl (store27 Bx.1)) ?_
          refine hK16 _ _ ?_
          have F1 := heap_setCell_same _ _ 0 _ 27 (.slice (some at_) nt_ ct_) Bx.1
          have F2 := hasS_box Bx.1 TV (.slice (some at_) nt_ ct_)
          replace H := below_set H Bx.2 (.slice (some at_) nt_ ct_)
          clear hK16 K16
          try simp only [Act.put, List.setIfInBounds_toArray, List.set_cons_zero, List.set_cons_succ]
          refine wpAny_take (i := 17) (oi := { dst := some 15, op := Op.assign (Operand.tmp 88), type := 28, pos := "law.go:115", after := #[{ on := 14, ground := Ground.data }, { on := 16, ground := Ground.chain }, { on := 0, ground := Ground.phase }, { on := 1, ground := Ground.phase }, { on := 2, ground := Ground.phase }, { on := 3, ground := Ground.phase }, { on := 4, ground := Ground.phase }, { on := 5, ground := Ground.phase }, { on := 6, ground := Ground.phase }, { on := 7, ground := Ground.phase }, { on := 8, ground := Ground.phase }, { on := 9, ground := Ground.phase }, { on := 10, ground := Ground.phase }, { on := 11, ground := Ground.phase }, { on := 12, ground := Ground.phase }, { on := 13, ground := Ground.phase }, { on := 14, ground := Ground.phase }, { on := 15, ground := Ground.phase }, { on := 16, ground := Ground.phase }], guard := none }) (v := ?_) rfl (by kernel_rfl) (by kernel_rfl) (by kernel_rfl) (fun _ _ _ h => h) (Or.inl ⟨by rfl, ?_⟩) ?_
          rotate_left
          · intro w'
            go_simp
            try with_reducible rfl
          try simp only [Act.put, List.setIfInBounds_toArray, List.set_cons_zero, List.set_cons_succ]
          refine wpAny_done (by kernel_rfl) ?_ _
          refine NoPanic.normal ?_
          exact h.out _ _ _ _ _ _ _ H Bx.2 F1 F2
      · refine step_val2 (by rfl) (alloc27 _ _ _ _ _ _) ?_
        refine hK15 _ _ ?_
        have Bx := box_new (g := w4.heap.size) H (by simp)
        replace O := O.alloc (.cells #[.slice none 0 0] 27)
        replace H := H.alloc H.size (.cells #[.slice none 0 0] 27)
        clear hK15 K15
        try simp only [Act.put, List.setIfInBounds_toArray, List.set_cons_zero, List.set_cons_succ]
        refine wpAny_ready (rs := [8]) (by kernel_rfl) (by simp) ?_
        refine (AllReady.cons (o := { dst := some 83, op := Op.call { callee := Callee.builtin Builtin.append, args := #[Operand.tmp 79, Operand.tmp 82], argTypes := #[22, 22] }, type := 22, pos := "law.go:115", after := #[{ on := 4, ground := Ground.data }, { on := 7, ground := Ground.data }, { on := 4, ground := Ground.chain }], guard := none }) rfl (fun K8 hK8 => ?_) AllReady.nil)
        obtain ⟨v8, w8, r8, O8, G8⟩ := app_txt (q := k) (c := c) O H.size (src_take (hc2.out _ H) k) (by rw [List.length_take]; omega) (by omega)
        refine step_val2 (by rfl) (app22 rfl rfl r8) ?_
        refine hK8 _ _ ?_
        replace Bx := box_grown Bx O G8
        replace H := H.grown G8 H.size (fun j e => (O.lt j e).1)
        replace O := O8
        clear r8 G8
        clear hK8 K8
        try simp only [Act.put, List.setIfInBounds_toArray, List.set_cons_zero, List.set_cons_succ]
        refine wpAny_ready (rs := [10]) (by kernel_rfl) (by simp) ?_
        refine (AllReady.cons (o := { dst := some 85, op := Op.call { callee := Callee.builtin Builtin.append, args := #[Operand.tmp 83, Operand.tmp 84], argTypes := #[22, 22] }, type := 22, pos := "law.go:115", after := #[{ on := 8, ground := Ground.data }, { on := 9, ground := Ground.data }, { on := 8, ground := Ground.chain }], guard := none }) rfl (fun K10 hK10 => ?_) AllReady.nil)
        obtain ⟨v10, w10, r10, O10, G10⟩ := app_txt (q := n) (c := c) O H.size (hc2.out _ H) (hn) (by omega)
        refine step_val2 (by rfl) (app22 rfl rfl r10) ?_
        refine hK10 _ _ ?_
        replace Bx := box_grown Bx O G10
        replace H := H.grown G10 H.size (fun j e => (O.lt j e).1)
        replace O := O10
        clear r10 G10
        clear hK10 K10
        try simp only [Act.put, List.setIfInBounds_toArray, List.set_cons_zero, List.set_cons_succ]
        refine wpAny_ready (rs := [11]) (by kernel_rfl) (by simp) ?_
        refine (AllReady.cons (o := { dst := some 86, op := Op.call { callee := Callee.value (Operand.func 7), args := #[Operand.tmp 85], argTypes := #[22] }, type := 29, pos := "law.go:115", after := #[{ on := 10, ground := Ground.data }, { on := 10, ground := Ground.chain }], guard := none }) rfl (fun K11 hK11 => ?_) AllReady.nil)
        rw [show 0 + n1 + k + n = n + n by have := hn1.out; omega] at O
        obtain ⟨a11, c11, e11, H11⟩ := hasS_of_owns O
        subst e11
        go_simp
        refine (hM.out _ _ _ _ H (by simpa using H11)).mono ?_
        rintro e w11 ⟨v11, rfl, ⟨at_, nt_, ct_, rfl, TV⟩, B11⟩
        refine hK11 _ _ ?_
        replace Bx := box_below Bx B11
        replace H := H.trans (B11.mono H.size)
        clear O H11 B11
        clear hK11 K11
        try simp only [Act.put, List.setIfInBounds_toArray, List.set_cons_zero, List.set_cons_succ]
        refine wpAny_take (i := 12) (oi := { dst := some 74, op := Op.move (Operand.tmp 86), type := 29, pos := "law.go:115", after := #[{ on := 11, ground := Ground.data }], guard := none }) (v := ?_) rfl (by kernel_rfl) (by kernel_rfl) (by kernel_rfl) (fun _ _ _ h => h) (Or.inl ⟨by rfl, ?_⟩) ?_
        rotate_left
        · intro w'
          go_simp
          try with_reducible rfl
        try simp only [Act.put, List.setIfInBounds_toArray, List.set_cons_zero, List.set_cons_succ]
        refine wpAny_take (i := 13) (oi := { dst := some 87, op := Op.extract (Operand.tmp 74) 0, type := 27, pos := "law.go:115", after := #[{ on := 12, ground := Ground.data }], guard := none }) (v := ?_) rfl (by kernel_rfl) (by kernel_rfl) (by kernel_rfl) (fun _ _ _ h => h) (Or.inl ⟨by rfl, ?_⟩) ?_
        rotate_left
        · intro w'
          go_simp
          try with_reducible rfl
        try simp only [Act.put, List.setIfInBounds_toArray, List.set_cons_zero, List.set_cons_succ]
        refine wpAny_take (i := 14) (oi := { dst := some 88, op := Op.extract (Operand.tmp 74) 1, type := 28, pos := "law.go:115", after := #[{ on := 12, ground := Ground.data }, { on := 16, ground := Ground.gcOnly Departure.lateStores }], guard := none }) (v := ?_) rfl (by kernel_rfl) (by kernel_rfl) (by kernel_rfl) (fun _ _ _ h => h) (Or.inl ⟨by rfl, ?_⟩) ?_
        rotate_left
        · intro w'
          go_simp
          try with_reducible rfl
        try simp only [Act.put, List.setIfInBounds_toArray, List.set_cons_zero, List.set_cons_succ]
        refine wpAny_ready (rs := [16]) (by kernel_rfl) (by simp) ?_
        refine (AllReady.cons (o := { dst := none, op := Op.store 27 (Operand.tmp 14) (Operand.tmp 87), type := 0, pos := "law.go:115", after := #[{ on := 15, ground := Ground.data }, { on := 13, ground := Ground.data }, { on := 11, ground := Ground.chain }, { on := 0, ground := Ground.phase }, { on := 1, ground := Ground.phase }, { on := 2, ground := Ground.phase }, { on := 3, ground := Ground.phase }, { on := 4, ground := Ground.phase }, { on := 5, ground := Ground.phase }, { on := 6, ground := Ground.phase }, { on := 7, ground := Ground.phase }, { on := 8, ground := Ground.phase }, { on := 9, ground := Ground.phase }, { on := 10, ground := Ground.phase }, { on := 11, ground := Ground.phase }, { on := 12, ground := Ground.phase }, { on := 13, ground := Ground.phase }, { on := 14, ground := Ground.textOnly Departure.lateStores }, { on := 15, ground := Ground.phase }], guard := none }) rfl (fun K16 hK16 => ?_) AllReady.nil)
        refine step_skip2 (by rfl) (st27 rfl rfl (store27 Bx.1)) ?_
        refine hK16 _ _ ?_
        have F1 := heap_setCell_same _ _ 0 _ 27 (.slice (some at_) nt_ ct_) Bx.1
        have F2 := hasS_box Bx.1 TV (.slice (some at_) nt_ ct_)
        replace H := below_set H Bx.2 (.slice (some at_) nt_ ct_)
        clear hK16 K16
        try simp only [Act.put, List.setIfInBounds_toArray, List.set_cons_zero, List.set_cons_succ]
        refine wpAny_take (i := 17) (oi := { dst := some 15, op := Op.assign (Operand.tmp 88), type := 28, pos := "law.go:115", after := #[{ on := 14, ground := Ground.data }, { on := 16, ground := Ground.chain }, { on := 0, ground := Ground.phase }, { on := 1, ground := Ground.phase }, { on := 2, ground := Ground.phase }, { on := 3, ground := Ground.phase }, { on := 4, ground := Ground.phase }, { on := 5, ground := Ground.phase }, { on := 6, ground := Ground.phase }, { on := 7, ground := Ground.phase }, { on := 8, ground := Ground.phase }, { on := 9, ground := Ground.phase }, { on := 10, ground := Ground.phase }, { on := 11, ground := Ground.phase }, { on := 12, ground := Ground.phase }, { on := 13, ground := Ground.phase }, { on := 14, ground := Ground.phase }, { on := 15, ground := Ground.phase }, { on := 16, ground := Ground.phase }], guard := none }) (v := ?_) rfl (by kernel_rfl) (by kernel_rfl) (by kernel_rfl) (fun _ _ _ h => h) (Or.inl ⟨by rfl, ?_⟩) ?_
        rotate_left
        · intro w'
          go_simp
          try with_reducible rfl
        try simp only [Act.put, List.setIfInBounds_toArray, List.set_cons_zero, List.set_cons_succ]
        refine wpAny_done (by kernel_rfl) ?_ _
        refine NoPanic.normal ?_
        exact h.out _ _ _ _ _ _ _ H Bx.2 F1 F2
    · refine step_val2 (by rfl) (alloc27 _ _ _ _ _ _) ?_
      refine hK15 _ _ ?_
      have Bx := box_new (g := w.heap.size + 1) H (by simp)
      replace O := O.alloc (.cells #[.slice none 0 0] 27)
      replace H := H.alloc H.size (.cells #[.slice none 0 0] 27)
      clear hK15 K15
      try simp only [Act.put, List.setIfInBounds_toArray, List.set_cons_zero, List.set_cons_succ]
      refine wpAny_ready (rs := [4]) (by kernel_rfl) (by simp) ?_
      refine (AllReady.cons (o := { dst := some 79, op := Op.call { callee := Callee.builtin Builtin.append, args := #[Operand.tmp 75, Operand.tmp 78], argTypes := #[22, 22] }, type := 22, pos := "law.go:115", after := #[{ on := 0, ground := Ground.data }, { on := 3, ground := Ground.data }], guard := none }) rfl (fun K4 hK4 => ?_) AllReady.nil)
      obtain ⟨v4, w4, r4, O4, G4⟩ := app_txt (q := n1) (c := c1) O H.size (hc1.out _ H) (by rw [List.length_drop]; have := hn1.out; omega) (by omega)
      refine step_val2 (by rfl) (app22 rfl rfl r4) ?_
      refine hK4 _ _ ?_
      replace Bx := box_grown Bx O G4
      replace H := H.grown G4 H.size (fun j e => (O.lt j e).1)
      replace O := O4
      clear r4 G4
      clear hK4 K4
      try simp only [Act.put, List.setIfInBounds_toArray, List.set_cons_zero, List.set_cons_succ]
      refine wpAny_ready (rs := [8]) (by kernel_rfl) (by simp) ?_
      refine (AllReady.cons (o := { dst := some 83, op := Op.call { callee := Callee.builtin Builtin.append, args := #[Operand.tmp 79, Operand.tmp 82], argTypes := #[22, 22] }, type := 22, pos := "law.go:115", after := #[{ on := 4, ground := Ground.data }, { on := 7, ground := Ground.data }, { on := 4, ground := Ground.chain }], guard := none }) rfl (fun K8 hK8 => ?_) AllReady.nil)
      obtain ⟨v8, w8, r8, O8, G8⟩ := app_txt (q := k) (c := c) O H.size (src_take (hc2.out _ H) k) (by rw [List.length_take]; omega) (by omega)
      refine step_val2 (by rfl) (app22 rfl rfl r8) ?_
      refine hK8 _ _ ?_
      replace Bx := box_grown Bx O G8
      replace H := H.grown G8 H.size (fun j e => (O.lt j e).1)
      replace O := O8
      clear r8 G8
      clear hK8 K8
      try simp only [Act.put, List.setIfInBounds_toArray, List.set_cons_zero, List.set_cons_succ]
      refine wpAny_ready (rs := [10]) (by kernel_rfl) (by simp) ?_
      refine (AllReady.cons (o := { dst := some 85, op := Op.call { callee := Callee.builtin Builtin.append, args := #[Operand.tmp 83, Operand.tmp 84], argTypes := #[22, 22] }, type := 22, pos := "law.go:115", after := #[{ on := 8, ground := Ground.data }, { on := 9, ground := Ground.data }, { on := 8, ground := Ground.chain }], guard := none }) rfl (fun K10 hK10 => ?_) AllReady.nil)
      obtain ⟨v10, w10, r10, O10, G10⟩ := app_txt (q := n) (c := c) O H.size (hc2.out _ H) (hn) (by omega)
      refine step_val2 (by rfl) (app22 rfl rfl r10) ?_
      refine hK10 _ _ ?_
      replace Bx := box_grown Bx O G10
      replace H := H.grown G10 H.size (fun j e => (O.lt j e).1)
      replace O := O10
      clear r10 G10
      clear hK10 K10
      try simp only [Act.put, List.setIfInBounds_toArray, List.set_cons_zero, List.set_cons_succ]
      refine wpAny_ready (rs := [11]) (by kernel_rfl) (by simp) ?_
      refine (AllReady.cons (o := { dst := some 86, op := Op.call { callee := Callee.value (Operand.func 7), args := #[Operand.tmp 85], argTypes := #[22] }, type := 29, pos := "law.go:115", after := #[{ on := 10, ground := Ground.data }, { on := 10, ground := Ground.chain }], guard := none }) rfl (fun K11 hK11 => ?_) AllReady.nil)
      rw [show 0 + n1 + k + n = n + n by have := hn1.out; omega] at O
      obtain ⟨a11, c11, e11, H11⟩ := hasS_of_owns O
      subst e11
      go_simp
      refine (hM.out _ _ _ _ H (by simpa using H11)).mono ?_
      rintro e w11 ⟨v11, rfl, ⟨at_, nt_, ct_, rfl, TV⟩, B11⟩
      refine hK11 _ _ ?_
      replace Bx := box_below Bx B11
      replace H := H.trans (B11.mono H.size)
      clear O H11 B11
      clear hK11 K11
      try simp only [Act.put, List.setIfInBounds_toArray, List.set_cons_zero, List.set_cons_succ]
      refine wpAny_take (i := 12) (oi := { dst := some 74, op := Op.move (Operand.tmp 86), type := 29, pos := "law.go:115", after := #[{ on := 11, ground := Ground.data }], guard := none }) (v := ?_) rfl (by kernel_rfl) (by kernel_rfl) (by kernel_rfl) (fun _ _ _ h => h) (Or.inl ⟨by rfl, ?_⟩) ?_
      rotate_left
      · intro w'
        go_simp
        try with_reducible rfl
      try simp only [Act.put, List.setIfInBounds_toArray, List.set_cons_zero, List.set_cons_succ]
      refine wpAny_take (i := 13) (oi := { dst := some 87, op := Op.extract (Operand.tmp 74) 0, type := 27, pos := "law.go:115", after := #[{ on := 12, ground := Ground.data }], guard := none }) (v := ?_) rfl (by kernel_rfl) (by kernel_rfl) (by kernel_rfl) (fun _ _ _ h => h) (Or.inl ⟨by rfl, ?_⟩) ?_
      rotate_left
      · intro w'
        go_simp
        try with_reducible rfl
      try simp only [Act.put, List.setIfInBounds_toArray, List.set_cons_zero, List.set_cons_succ]
      refine wpAny_take (i := 14) (oi := { dst := some 88, op := Op.extract (Operand.tmp 74) 1, type := 28, pos := "law.go:115", after := #[{ on := 12, ground := Ground.data }, { on := 16, ground := Ground.gcOnly Departure.lateStores }], guard := none }) (v := ?_) rfl (by kernel_rfl) (by kernel_rfl) (by kernel_rfl) (fun _ _ _ h => h) (Or.inl ⟨by rfl, ?_⟩) ?_
      rotate_left
      · intro w'
        go_simp
        try with_reducible rfl
      try simp only [Act.put, List.setIfInBounds_toArray, List.set_cons_zero, List.set_cons_succ]
      refine wpAny_ready (rs := [16]) (by kernel_rfl) (by simp) ?_
      refine (AllReady.cons (o := { dst := none, op := Op.store 27 (Operand.tmp 14) (Operand.tmp 87), type := 0, pos := "law.go:115", after := #[{ on := 15, ground := Ground.data }, { on := 13, ground := Ground.data }, { on := 11, ground := Ground.chain }, { on := 0, ground := Ground.phase }, { on := 1, ground := Ground.phase }, { on := 2, ground := Ground.phase }, { on := 3, ground := Ground.phase }, { on := 4, ground := Ground.phase }, { on := 5, ground := Ground.phase }, { on := 6, ground := Ground.phase }, { on := 7, ground := Ground.phase }, { on := 8, ground := Ground.phase }, { on := 9, ground := Ground.phase }, { on := 10, ground := Ground.phase }, { on := 11, ground := Ground.phase }, { on := 12, ground := Ground.phase }, { on := 13, ground := Ground.phase }, { on := 14, ground := Ground.textOnly Departure.lateStores }, { on := 15, ground := Ground.phase }], guard := none }) rfl (fun K16 hK16 => ?_) AllReady.nil)
      refine step_skip2 (by rfl) (st27 rfl rfl (store27 Bx.1)) ?_
      refine hK16 _ _ ?_
      have F1 := heap_setCell_same _ _ 0 _ 27 (.slice (some at_) nt_ ct_) Bx.1
      have F2 := hasS_box Bx.1 TV (.slice (some at_) nt_ ct_)
      replace H := below_set H Bx.2 (.slice (some at_) nt_ ct_)
      clear hK16 K16
      try simp only [Act.put, List.setIfInBounds_toArray, List.set_cons_zero, List.set_cons_succ]
      refine wpAny_take (i := 17) (oi := { dst := some 15, op := Op.assign (Operand.tmp 88), type := 28, pos := "law.go:115", after := #[{ on := 14, ground := Ground.data }, { on := 16, ground := Ground.chain }, { on := 0, ground := Ground.phase }, { on := 1, ground := Ground.phase }, { on := 2, ground := Ground.phase }, { on := 3, ground := Ground.phase }, { on := 4, ground := Ground.phase }, { on := 5, ground := Ground.phase }, { on := 6, ground := Ground.phase }, { on := 7, ground := Ground.phase }, { on := 8, ground := Ground.phase }, { on := 9, ground := Ground.phase }, { on := 10, ground := Ground.phase }, { on := 11, ground := Ground.phase }, { on := 12, ground := Ground.phase }, { on := 13, ground := Ground.phase }, { on := 14, ground := Ground.phase }, { on := 15, ground := Ground.phase }, { on := 16, ground := Ground.phase }], guard := none }) (v := ?_) rfl (by kernel_rfl) (by kernel_rfl) (by kernel_rfl) (fun _ _ _ h => h) (Or.inl ⟨by rfl, ?_⟩) ?_
      rotate_left
      · intro w'
        go_simp
        try with_reducible rfl
      try simp only [Act.put, List.setIfInBounds_toArray, List.set_cons_zero, List.set_cons_succ]
      refine wpAny_done (by kernel_rfl) ?_ _
      refine NoPanic.normal ?_
      exact h.out _ _ _ _ _ _ _ H Bx.2 F1 F2
  · refine step_val2 (by rfl) (alloc27 _ _ _ _ _ _) ?_
    refine hK15 _ _ ?_
    have Bx := box_new (g := w.heap.size) H (by simp)
    replace H := H.alloc H.size (.cells #[.slice none 0 0] 27)
    clear hK15 K15
    try simp only [Act.put, List.setIfInBounds_toArray, List.set_cons_zero, List.set_cons_succ]
    refine wpAny_ready (rs := [0]) (by kernel_rfl) (by simp) ?_
    refine (AllReady.cons (o := { dst := some 75, op := Op.buildSlice 22 0 #[], type := 22, pos := "law.go:115", after := #[], guard := none }) rfl (fun K0 hK0 => ?_) AllReady.nil)
    refine step_val2 (by rfl) (bs0 _) ?_
    refine hK0 _ _ ?_
    have O := World.ownsRow.mono (empty_row _) H.size
    replace Bx := box_alloc (o := .cells #[] 9) Bx
    replace H := H.alloc H.size (.cells #[] 9)
    clear hK0 K0
    try simp only [Act.put, List.setIfInBounds_toArray, List.set_cons_zero, List.set_cons_succ]
    refine wpAny_ready (rs := [4]) (by kernel_rfl) (by simp) ?_
    refine (AllReady.cons (o := { dst := some 79, op := Op.call { callee := Callee.builtin Builtin.append, args := #[Operand.tmp 75, Operand.tmp 78], argTypes := #[22, 22] }, type := 22, pos := "law.go:115", after := #[{ on := 0, ground := Ground.data }, { on := 3, ground := Ground.data }], guard := none }) rfl (fun K4 hK4 => ?_) AllReady.nil)
    obtain ⟨v4, w4, r4, O4, G4⟩ := app_txt (q := n1) (c := c1) O H.size (hc1.out _ H) (by rw [List.length_drop]; have := hn1.out; omega) (by omega)
    refine step_val2 (by rfl) (app22 rfl rfl r4) ?_
    refine hK4 _ _ ?_
    replace Bx := box_grown Bx O G4
    replace H := H.grown G4 H.size (fun j e => (O.lt j e).1)
    replace O := O4
    clear r4 G4
    clear hK4 K4
    try simp only [Act.put, List.setIfInBounds_toArray, List.set_cons_zero, List.set_cons_succ]
    refine wpAny_ready (rs := [8]) (by kernel_rfl) (by simp) ?_
    refine (AllReady.cons (o := { dst := some 83, op := Op.call { callee := Callee.builtin Builtin.append, args := #[Operand.tmp 79, Operand.tmp 82], argTypes := #[22, 22] }, type := 22, pos := "law.go:115", after := #[{ on := 4, ground := Ground.data }, { on := 7, ground := Ground.data }, { on := 4, ground := Ground.chain }], guard := none }) rfl (fun K8 hK8 => ?_) AllReady.nil)
    obtain ⟨v8, w8, r8, O8, G8⟩ := app_txt (q := k) (c := c) O H.size (src_take (hc2.out _ H) k) (by rw [List.length_take]; omega) (by omega)
    refine step_val2 (by rfl) (app22 rfl rfl r8) ?_
    refine hK8 _ _ ?_
    replace Bx := box_grown Bx O G8
    replace H := H.grown G8 H.size (fun j e => (O.lt j e).1)
    replace O := O8
    clear r8 G8
    clear hK8 K8
    try simp only [Act.put, List.setIfInBounds_toArray, List.set_cons_zero, List.set_cons_succ]
    refine wpAny_ready (rs := [10]) (by kernel_rfl) (by simp) ?_
    refine (AllReady.cons (o := { dst := some 85, op := Op.call { callee := Callee.builtin Builtin.append, args := #[Operand.tmp 83, Operand.tmp 84], argTypes := #[22, 22] }, type := 22, pos := "law.go:115", after := #[{ on := 8, ground := Ground.data }, { on := 9, ground := Ground.data }, { on := 8, ground := Ground.chain }], guard := none }) rfl (fun K10 hK10 => ?_) AllReady.nil)
    obtain ⟨v10, w10, r10, O10, G10⟩ := app_txt (q := n) (c := c) O H.size (hc2.out _ H) (hn) (by omega)
    refine step_val2 (by rfl) (app22 rfl rfl r10) ?_
    refine hK10 _ _ ?_
    replace Bx := box_grown Bx O G10
    replace H := H.grown G10 H.size (fun j e => (O.lt j e).1)
    replace O := O10
    clear r10 G10
    clear hK10 K10
    try simp only [Act.put, List.setIfInBounds_toArray, List.set_cons_zero, List.set_cons_succ]
    refine wpAny_ready (rs := [11]) (by kernel_rfl) (by simp) ?_
    refine (AllReady.cons (o := { dst := some 86, op := Op.call { callee := Callee.value (Operand.func 7), args := #[Operand.tmp 85], argTypes := #[22] }, type := 29, pos := "law.go:115", after := #[{ on := 10, ground := Ground.data }, { on := 10, ground := Ground.chain }], guard := none }) rfl (fun K11 hK11 => ?_) AllReady.nil)
    rw [show 0 + n1 + k + n = n + n by have := hn1.out; omega] at O
    obtain ⟨a11, c11, e11, H11⟩ := hasS_of_owns O
    subst e11
    go_simp
    refine (hM.out _ _ _ _ H (by simpa using H11)).mono ?_
    rintro e w11 ⟨v11, rfl, ⟨at_, nt_, ct_, rfl, TV⟩, B11⟩
    refine hK11 _ _ ?_
    replace Bx := box_below Bx B11
    replace H := H.trans (B11.mono H.size)
    clear O H11 B11
    clear hK11 K11
    try simp only [Act.put, List.setIfInBounds_toArray, List.set_cons_zero, List.set_cons_succ]
    refine wpAny_take (i := 12) (oi := { dst := some 74, op := Op.move (Operand.tmp 86), type := 29, pos := "law.go:115", after := #[{ on := 11, ground := Ground.data }], guard := none }) (v := ?_) rfl (by kernel_rfl) (by kernel_rfl) (by kernel_rfl) (fun _ _ _ h => h) (Or.inl ⟨by rfl, ?_⟩) ?_
    rotate_left
    · intro w'
      go_simp
      try with_reducible rfl
    try simp only [Act.put, List.setIfInBounds_toArray, List.set_cons_zero, List.set_cons_succ]
    refine wpAny_take (i := 13) (oi := { dst := some 87, op := Op.extract (Operand.tmp 74) 0, type := 27, pos := "law.go:115", after := #[{ on := 12, ground := Ground.data }], guard := none }) (v := ?_) rfl (by kernel_rfl) (by kernel_rfl) (by kernel_rfl) (fun _ _ _ h => h) (Or.inl ⟨by rfl, ?_⟩) ?_
    rotate_left
    · intro w'
      go_simp
      try with_reducible rfl
    try simp only [Act.put, List.setIfInBounds_toArray, List.set_cons_zero, List.set_cons_succ]
    refine wpAny_take (i := 14) (oi := { dst := some 88, op := Op.extract (Operand.tmp 74) 1, type := 28, pos := "law.go:115", after := #[{ on := 12, ground := Ground.data }, { on := 16, ground := Ground.gcOnly Departure.lateStores }], guard := none }) (v := ?_) rfl (by kernel_rfl) (by kernel_rfl) (by kernel_rfl) (fun _ _ _ h => h) (Or.inl ⟨by rfl, ?_⟩) ?_
    rotate_left
    · intro w'
      go_simp
      try with_reducible rfl
    try simp only [Act.put, List.setIfInBounds_toArray, List.set_cons_zero, List.set_cons_succ]
    refine wpAny_ready (rs := [16]) (by kernel_rfl) (by simp) ?_
    refine (AllReady.cons (o := { dst := none, op := Op.store 27 (Operand.tmp 14) (Operand.tmp 87), type := 0, pos := "law.go:115", after := #[{ on := 15, ground := Ground.data }, { on := 13, ground := Ground.data }, { on := 11, ground := Ground.chain }, { on := 0, ground := Ground.phase }, { on := 1, ground := Ground.phase }, { on := 2, ground := Ground.phase }, { on := 3, ground := Ground.phase }, { on := 4, ground := Ground.phase }, { on := 5, ground := Ground.phase }, { on := 6, ground := Ground.phase }, { on := 7, ground := Ground.phase }, { on := 8, ground := Ground.phase }, { on := 9, ground := Ground.phase }, { on := 10, ground := Ground.phase }, { on := 11, ground := Ground.phase }, { on := 12, ground := Ground.phase }, { on := 13, ground := Ground.phase }, { on := 14, ground := Ground.textOnly Departure.lateStores }, { on := 15, ground := Ground.phase }], guard := none }) rfl (fun K16 hK16 => ?_) AllReady.nil)
    refine step_skip2 (by rfl) (st27 rfl rfl (store27 Bx.1)) ?_
    refine hK16 _ _ ?_
    have F1 := heap_setCell_same _ _ 0 _ 27 (.slice (some at_) nt_ ct_) Bx.1
    have F2 := hasS_box Bx.1 TV (.slice (some at_) nt_ ct_)
    replace H := below_set H Bx.2 (.slice (some at_) nt_ ct_)
    clear hK16 K16
    try simp only [Act.put, List.setIfInBounds_toArray, List.set_cons_zero, List.set_cons_succ]
    refine wpAny_take (i := 17) (oi := { dst := some 15, op := Op.assign (Operand.tmp 88), type := 28, pos := "law.go:115", after := #[{ on := 14, ground := Ground.data }, { on := 16, ground := Ground.chain }, { on := 0, ground := Ground.phase }, { on := 1, ground := Ground.phase }, { on := 2, ground := Ground.phase }, { on := 3, ground := Ground.phase }, { on := 4, ground := Ground.phase }, { on := 5, ground := Ground.phase }, { on := 6, ground := Ground.phase }, { on := 7, ground := Ground.phase }, { on := 8, ground := Ground.phase }, { on := 9, ground := Ground.phase }, { on := 10, ground := Ground.phase }, { on := 11, ground := Ground.phase }, { on := 12, ground := Ground.phase }, { on := 13, ground := Ground.phase }, { on := 14, ground := Ground.phase }, { on := 15, ground := Ground.phase }, { on := 16, ground := Ground.phase }], guard := none }) (v := ?_) rfl (by kernel_rfl) (by kernel_rfl) (by kernel_rfl) (fun _ _ _ h => h) (Or.inl ⟨by rfl, ?_⟩) ?_
    rotate_left
    · intro w'
      go_simp
      try with_reducible rfl
    try simp only [Act.put, List.setIfInBounds_toArray, List.set_cons_zero, List.set_cons_succ]
    refine wpAny_done (by kernel_rfl) ?_ _
    refine NoPanic.normal ?_
    exact h.out _ _ _ _ _ _ _ H Bx.2 F1 F2

end Go.Proofs.Ytbinnpadmajgpaa
