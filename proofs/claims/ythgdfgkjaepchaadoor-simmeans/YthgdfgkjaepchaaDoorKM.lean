/-
  Rows of bools; Reach of a set of bytes. Reach of a set of bytes. Reach of patterns one behind the other, and of one of several. Reach of a pattern that is repeated. Reach of a pattern that is repeated: the walk. Reach of any pattern that may be; Means. SimMeans: the walk.
-/
import Derived.Test.YthgdfgkjaepchaaDoorRA
import Derived.Test.YthgdfgkjaepchaaDoorKX
namespace Go.Proofs.YthgdfgkjaepchaaDoor
open Go.RowKit
set_option linter.unusedVariables false
set_option linter.unusedSimpArgs false

theorem info4 : ∃ i, Tryd.prog.info? 4 = some i ∧ i.zero = some (.bool false) ∧ i.size = 1 ∧ i.bytes = 1 := by
  have h : (Tryd.prog.info? 4).map (fun i => (i.zero, i.size, i.bytes)) = some (some (.bool false), 1, 1) := by kernel_rfl
  cases hi : Tryd.prog.info? 4 with
  | none => rw [hi] at h; cases h
  | some i =>
    rw [hi] at h
    simp only [Option.map_some, Option.some.injEq, Prod.mk.injEq] at h
    exact ⟨i, rfl, h.1, h.2.1, h.2.2⟩
/-- Bools as cells. -/
def bolA (B : List Bool) : Array Value := (B.map Value.bool).toArray
theorem bolA_size (B : List Bool) : (bolA B).size = B.length := by simp [bolA]
theorem bolA_at {B : List Bool} {k : Nat} {b : Bool} (h : B[k]? = some b) : (bolA B)[k]? = some (.bool b) := by simp [bolA, h]
theorem bolA_set (B : List Bool) (k : Nat) (b : Bool) : (bolA B).setIfInBounds k (.bool b) = bolA (B.set k b) := by
  simp [bolA, List.map_set]
theorem made4 (n : Nat) : madeCells (Value.bool false).cells (n * 1) = bolA (List.replicate n false) := by
  apply Array.ext'
  apply List.ext_getElem?
  intro j
  by_cases hj : j < n
  · simp [madeCells, hj, bolA, Value.cells, Nat.mod_one]
  · rw [List.getElem?_eq_none (by simp [madeCells]; omega), List.getElem?_eq_none (by simp [bolA]; omega)]
/-- A row of bools that can be read. -/
def Bo (w : World) (v : Value) (B : List Bool) : Prop := ∃ g c cur t fr, v = .slice (some ⟨g, 0, none⟩) B.length c ∧ w.heap[g]? = some (.cells cur t fr) ∧ ∀ (i : Nat) (b : Bool), B[i]? = some b → cur[i]? = some (Value.bool b)
theorem Bo.below {w w' : World} {v : Value} {B : List Bool} (h : Bo w v B) (hb : Below w.heap.size w w') : Bo w' v B := by
  obtain ⟨g, c, cur, t, fr, rfl, h1, h2⟩ := h
  exact ⟨g, c, cur, t, fr, rfl, (hb.block g (Array.getElem?_eq_some_iff.1 h1).1).trans h1, h2⟩
section
variable {S : Nat → Prop} {w0 w w' : World} {L : List Ent} {ops : Array Oper} {rest : List Oper} {o : Oper} {a : Act} {Q : Exit → Act → World → Prop} {K : Act → World → Prop} {E : Prop} {dst : Option Nat} {x y : Operand} {ty : TypeId} {pos : String} {after : Array Edge}
theorem wl_make68 (H : St S w0 w L) {n : Nat} (hn : n ≤ 1000000) (hx : a.eval x = .int .i64 (n : Int)) (hy : a.eval y = .int .i64 (n : Int)) (k : ∀ g w2, St S w0 w2 ((true, g, 4, bolA (List.replicate n false)) :: L) → w0.heap.size ≤ g → w.heap.size ≤ g → wpList Tryd.prog ops Q rest (a.put dst (.slice (some ⟨g, 0, none⟩) n n)) w2) :
    wpList Tryd.prog ops Q (⟨dst, .makeSlice 68 x y, ty, pos, after, none⟩ :: rest) a w := by
  obtain ⟨i, hi, hz, hs, hb⟩ := info4
  have hr := run_make (P := Tryd.prog) w 68 4 i (.bool false) Tryd.underlying68 hi hz .i64 .i64 (n : Int) (n : Int) (by omega) (Int.le_refl _) (by rw [hb]; omega) (by omega)
  have H2 := H.alloc 4 (bolA (List.replicate n false))
  rw [← made4 n] at H2
  refine wl_val (w' := w.alloc (.cells (madeCells (Value.bool false).cells (n * 1)) 4)) ?_ (k _ _ (by rw [← made4 n]; exact H2) H.but.size (Nat.le_refl _))
  unfold execOp
  simp only [hx, hy, Sem.run_bind, hr, Result.andThen_ok, Sem.run_pure, Int.toNat_natCast, hs]
theorem step_val2 {v : Value} (hgd : Region.wanted o (yielded ops a.tmps) = true) (hr : (execOp a.eval o).run Tryd.prog w = .ok (.value v) w') (h : K (a.put o.dst v) w') : if Region.wanted o (yielded ops a.tmps) = true then Oper.wp Tryd.prog o a w K Q else E := by
  rw [if_pos hgd]
  unfold Oper.wp
  rw [hr]
  exact h
theorem run_ldx (t : TypeId) {gd : Option (Nat × Bool)} (ev : Operand → Value) {ad : Addr} {v : Value} (hx : ev x = .pointer (some ad)) (hr : (loadVar t ad).run Tryd.prog w = .ok v w) : (execOp ev ⟨dst, .load t x, ty, pos, after, gd⟩).run Tryd.prog w = .ok (.value v) w := by
  unfold execOp
  simp only [hx, Instr.loadAt, Instr.sureAddr, Sem.run_bind, Sem.run_pure, Result.andThen_ok, hr]
end
set_option maxHeartbeats 4000000 in
set_option maxRecDepth 100000 in
theorem reg34_a {cur : Array Value} (w : World) (go ga g3 n cO cA i i1 b : Nat) (s : ByteArray) (x : S4) (u : Value) (hi1 : (i : Int) + 1 = (i1 : Int)) (hin : (i : Int) < (n : Int)) (hi2 : (i1 : Int) < (n : Int)) (his : (i : Int) < (s.size : Int)) (hib : i < 1000000) (hO : w.heap[go]? = some (.cells cur 4 (0, 0))) (hOi : cur[i1]? = some u) (cA1 : w.cell? ⟨ga, i, none⟩ = some (.bool false))
    (u0 u4 u5 u6 u9 u10 u11 u12 u13 u14 u15 u16 u17 u18 u19 u20 u21 u22 u23 u24 u25 u26 u27 u28 u29 u30 u31 u32 u33 u34 u35 u36 u37 u38 u39 u40 u41 u42 u43 u44 u45 u46 u47 u48 u49 u50 u51 u52 u53 u54 u55 u56 u57 u58 u59 u60 u61 u62 u63 u64 u65 u66 u67 u68 u69 u70 u71 u72 u73 u74 u75 u76 u77 u78 u79 u80 u81 u82 u83 u84 u85 u86 u87 u88 u89 u90 u91 u92 u93 u94 u95 u96 u97 u98 u99 u100 u101 u102 u103 u104 u105 u106 u107 u108 u109 u110 u111 u112 u113 u114 u115 u116 u117 u118 u119 u120 u121 u122 u123 u124 u125 u126 u127 u128 u129 u130 u131 u132 u133 u134 u135 u136 u137 u138 u139 u140 u141 u142 u143 u144 u145 u146 u147 u148 u149 u150 u151 u152 u153 u154 u155 u156 u157 u158 u159 u160 u161 u162 u163 u164 u165 u166 u167 u168 u169 u170 u171 u172 u173 u174 u175 u176 u177 u178 u179 u180 : Value) (Q : Exit → Act → World → Prop)
    (h : Q .normal { tmps := (List.toArray ((u0 :: .string s :: .slice (some ⟨ga, 0, none⟩) n cA :: .pointer (some ⟨g3, 0, none⟩) :: u4 :: u5 :: u6 :: .slice (some ⟨go, 0, none⟩) n cO :: .int .i64 (i : Int) :: u9 :: u10 :: u11 :: u12 :: u13 :: u14 :: u15 :: u16 :: u17 :: u18 :: u19 :: u20 :: u21 :: u22 :: u23 :: u24 :: u25 :: u26 :: u27 :: u28 :: u29 :: u30 :: u31 :: u32 :: .slice (some ⟨go, 0, none⟩) n cO :: .int .i64 (i : Int) :: .int .i64 (i1 : Int) :: .slice (some ⟨ga, 0, none⟩) n cA :: .int .i64 (i : Int) :: .pointer (some ⟨ga, i, none⟩) :: .bool false :: .bool false :: undef :: undef :: undef :: undef :: undef :: undef :: .bool false :: .pointer (some ⟨go, i1, none⟩) :: u49 :: u50 :: u51 :: u52 :: u53 :: u54 :: u55 :: u56 :: u57 :: u58 :: u59 :: u60 :: u61 :: u62 :: u63 :: u64 :: u65 :: u66 :: u67 :: u68 :: u69 :: u70 :: u71 :: u72 :: u73 :: u74 :: u75 :: u76 :: u77 :: u78 :: u79 :: u80 :: u81 :: u82 :: u83 :: u84 :: u85 :: u86 :: u87 :: u88 :: u89 :: u90 :: u91 :: u92 :: u93 :: u94 :: u95 :: u96 :: u97 :: u98 :: u99 :: u100 :: u101 :: u102 :: u103 :: u104 :: u105 :: u106 :: u107 :: u108 :: u109 :: u110 :: u111 :: u112 :: u113 :: u114 :: u115 :: u116 :: u117 :: u118 :: u119 :: u120 :: u121 :: u122 :: u123 :: u124 :: u125 :: u126 :: u127 :: u128 :: u129 :: u130 :: u131 :: u132 :: u133 :: u134 :: u135 :: u136 :: u137 :: u138 :: u139 :: u140 :: u141 :: u142 :: u143 :: u144 :: u145 :: u146 :: u147 :: u148 :: u149 :: u150 :: u151 :: u152 :: u153 :: u154 :: u155 :: u156 :: u157 :: u158 :: u159 :: u160 :: u161 :: u162 :: u163 :: u164 :: u165 :: u166 :: u167 :: u168 :: u169 :: u170 :: u171 :: u172 :: u173 :: u174 :: u175 :: u176 :: u177 :: u178 :: u179 :: u180 :: []) : List Value)), defers := [] } (w.drew.setCell ⟨go, i1, none⟩ (.bool false))) :
    (Code.region 7 #[{ dst := some 33, op := Op.move (Operand.tmp 7), type := 68, pos := "ref.go:112", after := #[], guard := none }, { dst := some 34, op := Op.move (Operand.tmp 8), type := 3, pos := "ref.go:112", after := #[], guard := none }, { dst := some 35, op := Op.binOp BinOp.add 3 (Operand.tmp 34) (Operand.const (Value.int IntKind.i64 1)) 3, type := 3, pos := "ref.go:112", after := #[{ on := 1, ground := Ground.data }], guard := none }, { dst := some 36, op := Op.move (Operand.tmp 2), type := 68, pos := "ref.go:112", after := #[], guard := none }, { dst := some 37, op := Op.move (Operand.tmp 8), type := 3, pos := "ref.go:112", after := #[], guard := none }, { dst := some 38, op := Op.indexAddr 68 (Operand.tmp 36) (Operand.tmp 37), type := 0, pos := "ref.go:112", after := #[{ on := 3, ground := Ground.data }, { on := 4, ground := Ground.data }], guard := none }, { dst := some 39, op := Op.load 4 (Operand.tmp 38), type := 4, pos := "ref.go:112", after := #[{ on := 5, ground := Ground.data }], guard := none }, { dst := some 40, op := Op.move (Operand.tmp 39), type := 4, pos := "ref.go:112", after := #[{ on := 6, ground := Ground.data }], guard := none }, { dst := some 41, op := Op.fieldAddr 27 (Operand.tmp 3) 1, type := 0, pos := "ref.go:112", after := #[{ on := 7, ground := Ground.guard }], guard := some (7, true) }, { dst := some 42, op := Op.load 24 (Operand.tmp 41), type := 24, pos := "ref.go:112", after := #[{ on := 8, ground := Ground.data }, { on := 7, ground := Ground.guard }], guard := some (7, true) }, { dst := some 43, op := Op.move (Operand.tmp 1), type := 9, pos := "ref.go:112", after := #[{ on := 7, ground := Ground.guard }], guard := some (7, true) }, { dst := some 44, op := Op.move (Operand.tmp 8), type := 3, pos := "ref.go:112", after := #[{ on := 7, ground := Ground.guard }], guard := some (7, true) }, { dst := some 45, op := Op.index 9 (Operand.tmp 43) (Operand.tmp 44), type := 5, pos := "ref.go:112", after := #[{ on := 10, ground := Ground.data }, { on := 11, ground := Ground.data }, { on := 7, ground := Ground.guard }], guard := some (7, true) }, { dst := some 46, op := Op.call { callee := Callee.value (Operand.func 56), args := #[Operand.tmp 42, Operand.tmp 45], argTypes := #[24, 5] }, type := 4, pos := "ref.go:112", after := #[{ on := 9, ground := Ground.data }, { on := 12, ground := Ground.data }, { on := 7, ground := Ground.chain }, { on := 7, ground := Ground.guard }], guard := some (7, true) }, { dst := some 47, op := Op.pick (Operand.tmp 40) (Operand.tmp 46) (Operand.const (Value.bool false)), type := 4, pos := "ref.go:112", after := #[{ on := 7, ground := Ground.data }, { on := 13, ground := Ground.data }], guard := none }, { dst := some 48, op := Op.indexAddr 68 (Operand.tmp 33) (Operand.tmp 35), type := 0, pos := "ref.go:112", after := #[{ on := 0, ground := Ground.data }, { on := 2, ground := Ground.data }, { on := 0, ground := Ground.phase }, { on := 1, ground := Ground.phase }, { on := 2, ground := Ground.phase }, { on := 3, ground := Ground.phase }, { on := 4, ground := Ground.phase }, { on := 5, ground := Ground.phase }, { on := 6, ground := Ground.phase }, { on := 7, ground := Ground.phase }, { on := 8, ground := Ground.phase }, { on := 9, ground := Ground.phase }, { on := 10, ground := Ground.phase }, { on := 11, ground := Ground.phase }, { on := 12, ground := Ground.phase }, { on := 13, ground := Ground.phase }, { on := 14, ground := Ground.phase }], guard := none }, { dst := none, op := Op.store 4 (Operand.tmp 48) (Operand.tmp 47), type := 0, pos := "ref.go:112", after := #[{ on := 15, ground := Ground.data }, { on := 14, ground := Ground.data }, { on := 13, ground := Ground.chain }, { on := 0, ground := Ground.phase }, { on := 1, ground := Ground.phase }, { on := 2, ground := Ground.phase }, { on := 3, ground := Ground.phase }, { on := 4, ground := Ground.phase }, { on := 5, ground := Ground.phase }, { on := 6, ground := Ground.phase }, { on := 7, ground := Ground.phase }, { on := 8, ground := Ground.phase }, { on := 9, ground := Ground.phase }, { on := 10, ground := Ground.phase }, { on := 11, ground := Ground.phase }, { on := 12, ground := Ground.phase }, { on := 13, ground := Ground.phase }, { on := 14, ground := Ground.phase }], guard := none }] true).wp Tryd.prog Q { tmps := (List.toArray ((u0 :: .string s :: .slice (some ⟨ga, 0, none⟩) n cA :: .pointer (some ⟨g3, 0, none⟩) :: u4 :: u5 :: u6 :: .slice (some ⟨go, 0, none⟩) n cO :: .int .i64 (i : Int) :: u9 :: u10 :: u11 :: u12 :: u13 :: u14 :: u15 :: u16 :: u17 :: u18 :: u19 :: u20 :: u21 :: u22 :: u23 :: u24 :: u25 :: u26 :: u27 :: u28 :: u29 :: u30 :: u31 :: u32 :: u33 :: u34 :: u35 :: u36 :: u37 :: u38 :: u39 :: u40 :: u41 :: u42 :: u43 :: u44 :: u45 :: u46 :: u47 :: u48 :: u49 :: u50 :: u51 :: u52 :: u53 :: u54 :: u55 :: u56 :: u57 :: u58 :: u59 :: u60 :: u61 :: u62 :: u63 :: u64 :: u65 :: u66 :: u67 :: u68 :: u69 :: u70 :: u71 :: u72 :: u73 :: u74 :: u75 :: u76 :: u77 :: u78 :: u79 :: u80 :: u81 :: u82 :: u83 :: u84 :: u85 :: u86 :: u87 :: u88 :: u89 :: u90 :: u91 :: u92 :: u93 :: u94 :: u95 :: u96 :: u97 :: u98 :: u99 :: u100 :: u101 :: u102 :: u103 :: u104 :: u105 :: u106 :: u107 :: u108 :: u109 :: u110 :: u111 :: u112 :: u113 :: u114 :: u115 :: u116 :: u117 :: u118 :: u119 :: u120 :: u121 :: u122 :: u123 :: u124 :: u125 :: u126 :: u127 :: u128 :: u129 :: u130 :: u131 :: u132 :: u133 :: u134 :: u135 :: u136 :: u137 :: u138 :: u139 :: u140 :: u141 :: u142 :: u143 :: u144 :: u145 :: u146 :: u147 :: u148 :: u149 :: u150 :: u151 :: u152 :: u153 :: u154 :: u155 :: u156 :: u157 :: u158 :: u159 :: u160 :: u161 :: u162 :: u163 :: u164 :: u165 :: u166 :: u167 :: u168 :: u169 :: u170 :: u171 :: u172 :: u173 :: u174 :: u175 :: u176 :: u177 :: u178 :: u179 :: u180 :: []) : List Value)), defers := [] } w := by
  have cO1 : w.cell? ⟨go, i1, none⟩ = some u := by rw [cell_of_row w go _ _ 4 (0, 0) hO]; exact hOi
  have fO1 := frozen_of_row w go i1 _ 4 hO
  have hD : Below w.heap.size w w.drew := (Below.refl _ w).drew
  have hOH := hide hO
  clear hO
  have hw1 : IntKind.i64.wrap (i1 : Int) = (i1 : Int) := by rw [IntKind.wrap_i64]; omega
  have hw2 : wrap64 (i1 : Int) = (i1 : Int) := by unfold wrap64; omega
  replace hib := hide hib
  replace h := hide h
  refine wp_region_noPanic ?_
  refine wp_region_any (by kernel_rfl) ?_
  change wpAny _ _ _ _ _ _ _ (World.drew w)
  refine wpAny_take (i := 0) (oi := { dst := some 33, op := Op.move (Operand.tmp 7), type := 68, pos := "ref.go:112", after := #[], guard := none }) (v := ?_) rfl (by kernel_rfl) (by kernel_rfl) (by kernel_rfl) (fun _ _ _ h => h) (Or.inl ⟨by rfl, ?_⟩) ?_
  rotate_left
  · intro w'
    go_simp
    try with_reducible rfl
  try simp only [Act.put, List.setIfInBounds_toArray, List.set_cons_zero, List.set_cons_succ]
  refine wpAny_take (i := 1) (oi := { dst := some 34, op := Op.move (Operand.tmp 8), type := 3, pos := "ref.go:112", after := #[], guard := none }) (v := ?_) rfl (by kernel_rfl) (by kernel_rfl) (by kernel_rfl) (fun _ _ _ h => h) (Or.inl ⟨by rfl, ?_⟩) ?_
  rotate_left
  · intro w'
    go_simp
    try with_reducible rfl
  try simp only [Act.put, List.setIfInBounds_toArray, List.set_cons_zero, List.set_cons_succ]
  refine wpAny_take (i := 2) (oi := { dst := some 35, op := Op.binOp BinOp.add 3 (Operand.tmp 34) (Operand.const (Value.int IntKind.i64 1)) 3, type := 3, pos := "ref.go:112", after := #[{ on := 1, ground := Ground.data }], guard := none }) (v := ?_) rfl (by kernel_rfl) (by kernel_rfl) (by kernel_rfl) (fun _ _ _ h => h) (Or.inl ⟨by rfl, ?_⟩) ?_
  rotate_left
  · intro w'
    go_simp
    try with_reducible rfl
  try simp only [Act.put, List.setIfInBounds_toArray, List.set_cons_zero, List.set_cons_succ]
  refine wpAny_take (i := 3) (oi := { dst := some 36, op := Op.move (Operand.tmp 2), type := 68, pos := "ref.go:112", after := #[], guard := none }) (v := ?_) rfl (by kernel_rfl) (by kernel_rfl) (by kernel_rfl) (fun _ _ _ h => h) (Or.inl ⟨by rfl, ?_⟩) ?_
  rotate_left
  · intro w'
    go_simp
    try with_reducible rfl
  try simp only [Act.put, List.setIfInBounds_toArray, List.set_cons_zero, List.set_cons_succ]
  refine wpAny_take (i := 4) (oi := { dst := some 37, op := Op.move (Operand.tmp 8), type := 3, pos := "ref.go:112", after := #[], guard := none }) (v := ?_) rfl (by kernel_rfl) (by kernel_rfl) (by kernel_rfl) (fun _ _ _ h => h) (Or.inl ⟨by rfl, ?_⟩) ?_
  rotate_left
  · intro w'
    go_simp
    try with_reducible rfl
  try simp only [Act.put, List.setIfInBounds_toArray, List.set_cons_zero, List.set_cons_succ]
  refine wpAny_take (i := 5) (oi := { dst := some 38, op := Op.indexAddr 68 (Operand.tmp 36) (Operand.tmp 37), type := 0, pos := "ref.go:112", after := #[{ on := 3, ground := Ground.data }, { on := 4, ground := Ground.data }], guard := none }) (v := ?_) rfl (by kernel_rfl) (by kernel_rfl) (by kernel_rfl) (fun _ _ _ h => h) (Or.inl ⟨by rfl, ?_⟩) ?_
  rotate_left
  · intro w'
    go_simp
    try with_reducible rfl
  try simp only [Act.put, List.setIfInBounds_toArray, List.set_cons_zero, List.set_cons_succ]
  refine wpAny_ready (rs := [6]) (by kernel_rfl) (by simp) ?_
  refine (AllReady.cons (o := { dst := some 39, op := Op.load 4 (Operand.tmp 38), type := 4, pos := "ref.go:112", after := #[{ on := 5, ground := Ground.data }], guard := none }) rfl (fun K6 hK6 => ?_) AllReady.nil)
  go_simp
  refine hK6 _ _ ?_
  clear hK6 K6
  try simp only [Act.put, List.setIfInBounds_toArray, List.set_cons_zero, List.set_cons_succ]
  refine wpAny_take (i := 7) (oi := { dst := some 40, op := Op.move (Operand.tmp 39), type := 4, pos := "ref.go:112", after := #[{ on := 6, ground := Ground.data }], guard := none }) (v := ?_) rfl (by kernel_rfl) (by kernel_rfl) (by kernel_rfl) (fun _ _ _ h => h) (Or.inl ⟨by rfl, ?_⟩) ?_
  rotate_left
  · intro w'
    go_simp
    try with_reducible rfl
  try simp only [Act.put, List.setIfInBounds_toArray, List.set_cons_zero, List.set_cons_succ]
  refine wpAny_take (i := 8) (oi := { dst := some 41, op := Op.fieldAddr 27 (Operand.tmp 3) 1, type := 0, pos := "ref.go:112", after := #[{ on := 7, ground := Ground.guard }], guard := some (7, true) }) (v := undef) rfl (by kernel_rfl) (by kernel_rfl) (by kernel_rfl) (fun _ _ _ h => h) (Or.inr ⟨by rfl, rfl⟩) ?_
  try simp only [Act.put, List.setIfInBounds_toArray, List.set_cons_zero, List.set_cons_succ]
  refine wpAny_take (i := 9) (oi := { dst := some 42, op := Op.load 24 (Operand.tmp 41), type := 24, pos := "ref.go:112", after := #[{ on := 8, ground := Ground.data }, { on := 7, ground := Ground.guard }], guard := some (7, true) }) (v := undef) rfl (by kernel_rfl) (by kernel_rfl) (by kernel_rfl) (fun _ _ _ h => h) (Or.inr ⟨by rfl, rfl⟩) ?_
  try simp only [Act.put, List.setIfInBounds_toArray, List.set_cons_zero, List.set_cons_succ]
  refine wpAny_take (i := 10) (oi := { dst := some 43, op := Op.move (Operand.tmp 1), type := 9, pos := "ref.go:112", after := #[{ on := 7, ground := Ground.guard }], guard := some (7, true) }) (v := undef) rfl (by kernel_rfl) (by kernel_rfl) (by kernel_rfl) (fun _ _ _ h => h) (Or.inr ⟨by rfl, rfl⟩) ?_
  try simp only [Act.put, List.setIfInBounds_toArray, List.set_cons_zero, List.set_cons_succ]
  refine wpAny_take (i := 11) (oi := { dst := some 44, op := Op.move (Operand.tmp 8), type := 3, pos := "ref.go:112", after := #[{ on := 7, ground := Ground.guard }], guard := some (7, true) }) (v := undef) rfl (by kernel_rfl) (by kernel_rfl) (by kernel_rfl) (fun _ _ _ h => h) (Or.inr ⟨by rfl, rfl⟩) ?_
  try simp only [Act.put, List.setIfInBounds_toArray, List.set_cons_zero, List.set_cons_succ]
  refine wpAny_take (i := 12) (oi := { dst := some 45, op := Op.index 9 (Operand.tmp 43) (Operand.tmp 44), type := 5, pos := "ref.go:112", after := #[{ on := 10, ground := Ground.data }, { on := 11, ground := Ground.data }, { on := 7, ground := Ground.guard }], guard := some (7, true) }) (v := undef) rfl (by kernel_rfl) (by kernel_rfl) (by kernel_rfl) (fun _ _ _ h => h) (Or.inr ⟨by rfl, rfl⟩) ?_
  try simp only [Act.put, List.setIfInBounds_toArray, List.set_cons_zero, List.set_cons_succ]
  refine wpAny_take (i := 13) (oi := { dst := some 46, op := Op.call { callee := Callee.value (Operand.func 56), args := #[Operand.tmp 42, Operand.tmp 45], argTypes := #[24, 5] }, type := 4, pos := "ref.go:112", after := #[{ on := 9, ground := Ground.data }, { on := 12, ground := Ground.data }, { on := 7, ground := Ground.chain }, { on := 7, ground := Ground.guard }], guard := some (7, true) }) (v := undef) rfl (by kernel_rfl) (by kernel_rfl) (by kernel_rfl) (fun _ _ _ h => h) (Or.inr ⟨by rfl, rfl⟩) ?_
  try simp only [Act.put, List.setIfInBounds_toArray, List.set_cons_zero, List.set_cons_succ]
  refine wpAny_take (i := 14) (oi := { dst := some 47, op := Op.pick (Operand.tmp 40) (Operand.tmp 46) (Operand.const (Value.bool false)), type := 4, pos := "ref.go:112", after := #[{ on := 7, ground := Ground.data }, { on := 13, ground := Ground.data }], guard := none }) (v := ?_) rfl (by kernel_rfl) (by kernel_rfl) (by kernel_rfl) (fun _ _ _ h => h) (Or.inl ⟨by rfl, ?_⟩) ?_
  rotate_left
  · intro w'
    go_simp
    try with_reducible rfl
  try simp only [Act.put, List.setIfInBounds_toArray, List.set_cons_zero, List.set_cons_succ]
  refine wpAny_take (i := 15) (oi := { dst := some 48, op := Op.indexAddr 68 (Operand.tmp 33) (Operand.tmp 35), type := 0, pos := "ref.go:112", after := #[{ on := 0, ground := Ground.data }, { on := 2, ground := Ground.data }, { on := 0, ground := Ground.phase }, { on := 1, ground := Ground.phase }, { on := 2, ground := Ground.phase }, { on := 3, ground := Ground.phase }, { on := 4, ground := Ground.phase }, { on := 5, ground := Ground.phase }, { on := 6, ground := Ground.phase }, { on := 7, ground := Ground.phase }, { on := 8, ground := Ground.phase }, { on := 9, ground := Ground.phase }, { on := 10, ground := Ground.phase }, { on := 11, ground := Ground.phase }, { on := 12, ground := Ground.phase }, { on := 13, ground := Ground.phase }, { on := 14, ground := Ground.phase }], guard := none }) (v := ?_) rfl (by kernel_rfl) (by kernel_rfl) (by kernel_rfl) (fun _ _ _ h => h) (Or.inl ⟨by rfl, ?_⟩) ?_
  rotate_left
  · intro w'
    go_simp
    try with_reducible rfl
  try simp only [Act.put, List.setIfInBounds_toArray, List.set_cons_zero, List.set_cons_succ]
  refine wpAny_ready (rs := [16]) (by kernel_rfl) (by simp) ?_
  refine (AllReady.cons (o := { dst := none, op := Op.store 4 (Operand.tmp 48) (Operand.tmp 47), type := 0, pos := "ref.go:112", after := #[{ on := 15, ground := Ground.data }, { on := 14, ground := Ground.data }, { on := 13, ground := Ground.chain }, { on := 0, ground := Ground.phase }, { on := 1, ground := Ground.phase }, { on := 2, ground := Ground.phase }, { on := 3, ground := Ground.phase }, { on := 4, ground := Ground.phase }, { on := 5, ground := Ground.phase }, { on := 6, ground := Ground.phase }, { on := 7, ground := Ground.phase }, { on := 8, ground := Ground.phase }, { on := 9, ground := Ground.phase }, { on := 10, ground := Ground.phase }, { on := 11, ground := Ground.phase }, { on := 12, ground := Ground.phase }, { on := 13, ground := Ground.phase }, { on := 14, ground := Ground.phase }], guard := none }) rfl (fun K16 hK16 => ?_) AllReady.nil)
  go_simp
  refine hK16 _ _ ?_
  clear hK16 K16
  try simp only [Act.put, List.setIfInBounds_toArray, List.set_cons_zero, List.set_cons_succ]
  refine wpAny_done (by kernel_rfl) ?_ _
  refine NoPanic.normal ?_
  exact h.out
set_option maxHeartbeats 4000000 in
set_option maxRecDepth 100000 in
theorem reg34_b {cur : Array Value} (w : World) (go ga g3 n cO cA i i1 b : Nat) (s : ByteArray) (x : S4) (u : Value) (hi1 : (i : Int) + 1 = (i1 : Int)) (hin : (i : Int) < (n : Int)) (hi2 : (i1 : Int) < (n : Int)) (his : (i : Int) < (s.size : Int)) (hib : i < 1000000) (hO : w.heap[go]? = some (.cells cur 4 (0, 0))) (hOi : cur[i1]? = some u) (cA1 : w.cell? ⟨ga, i, none⟩ = some (.bool true)) (hX0 : (loadVar 24 ⟨g3, 1, none⟩).run Tryd.prog w.drew = .ok (setV x) w.drew) (hx : OkS x) (hb : b < 256) (hsb : ∀ h : i < s.size, ((s[i]'h).toNat : Int) = (b : Int))
    (u0 u4 u5 u6 u9 u10 u11 u12 u13 u14 u15 u16 u17 u18 u19 u20 u21 u22 u23 u24 u25 u26 u27 u28 u29 u30 u31 u32 u33 u34 u35 u36 u37 u38 u39 u40 u41 u42 u43 u44 u45 u46 u47 u48 u49 u50 u51 u52 u53 u54 u55 u56 u57 u58 u59 u60 u61 u62 u63 u64 u65 u66 u67 u68 u69 u70 u71 u72 u73 u74 u75 u76 u77 u78 u79 u80 u81 u82 u83 u84 u85 u86 u87 u88 u89 u90 u91 u92 u93 u94 u95 u96 u97 u98 u99 u100 u101 u102 u103 u104 u105 u106 u107 u108 u109 u110 u111 u112 u113 u114 u115 u116 u117 u118 u119 u120 u121 u122 u123 u124 u125 u126 u127 u128 u129 u130 u131 u132 u133 u134 u135 u136 u137 u138 u139 u140 u141 u142 u143 u144 u145 u146 u147 u148 u149 u150 u151 u152 u153 u154 u155 u156 u157 u158 u159 u160 u161 u162 u163 u164 u165 u166 u167 u168 u169 u170 u171 u172 u173 u174 u175 u176 u177 u178 u179 u180 : Value) (Q : Exit → Act → World → Prop)
    (h : ∀ w4, Below w.heap.size w w4 → Q .normal { tmps := (List.toArray ((u0 :: .string s :: .slice (some ⟨ga, 0, none⟩) n cA :: .pointer (some ⟨g3, 0, none⟩) :: u4 :: u5 :: u6 :: .slice (some ⟨go, 0, none⟩) n cO :: .int .i64 (i : Int) :: u9 :: u10 :: u11 :: u12 :: u13 :: u14 :: u15 :: u16 :: u17 :: u18 :: u19 :: u20 :: u21 :: u22 :: u23 :: u24 :: u25 :: u26 :: u27 :: u28 :: u29 :: u30 :: u31 :: u32 :: .slice (some ⟨go, 0, none⟩) n cO :: .int .i64 (i : Int) :: .int .i64 (i1 : Int) :: .slice (some ⟨ga, 0, none⟩) n cA :: .int .i64 (i : Int) :: .pointer (some ⟨ga, i, none⟩) :: .bool true :: .bool true :: .pointer (some ⟨g3, 1, none⟩) :: setV x :: .string s :: .int .i64 (i : Int) :: .int .u8 (b : Int) :: .bool (inS x b) :: .bool (inS x b) :: .pointer (some ⟨go, i1, none⟩) :: u49 :: u50 :: u51 :: u52 :: u53 :: u54 :: u55 :: u56 :: u57 :: u58 :: u59 :: u60 :: u61 :: u62 :: u63 :: u64 :: u65 :: u66 :: u67 :: u68 :: u69 :: u70 :: u71 :: u72 :: u73 :: u74 :: u75 :: u76 :: u77 :: u78 :: u79 :: u80 :: u81 :: u82 :: u83 :: u84 :: u85 :: u86 :: u87 :: u88 :: u89 :: u90 :: u91 :: u92 :: u93 :: u94 :: u95 :: u96 :: u97 :: u98 :: u99 :: u100 :: u101 :: u102 :: u103 :: u104 :: u105 :: u106 :: u107 :: u108 :: u109 :: u110 :: u111 :: u112 :: u113 :: u114 :: u115 :: u116 :: u117 :: u118 :: u119 :: u120 :: u121 :: u122 :: u123 :: u124 :: u125 :: u126 :: u127 :: u128 :: u129 :: u130 :: u131 :: u132 :: u133 :: u134 :: u135 :: u136 :: u137 :: u138 :: u139 :: u140 :: u141 :: u142 :: u143 :: u144 :: u145 :: u146 :: u147 :: u148 :: u149 :: u150 :: u151 :: u152 :: u153 :: u154 :: u155 :: u156 :: u157 :: u158 :: u159 :: u160 :: u161 :: u162 :: u163 :: u164 :: u165 :: u166 :: u167 :: u168 :: u169 :: u170 :: u171 :: u172 :: u173 :: u174 :: u175 :: u176 :: u177 :: u178 :: u179 :: u180 :: []) : List Value)), defers := [] } (w4.setCell ⟨go, i1, none⟩ (.bool (inS x b)))) :
    (Code.region 7 #[{ dst := some 33, op := Op.move (Operand.tmp 7), type := 68, pos := "ref.go:112", after := #[], guard := none }, { dst := some 34, op := Op.move (Operand.tmp 8), type := 3, pos := "ref.go:112", after := #[], guard := none }, { dst := some 35, op := Op.binOp BinOp.add 3 (Operand.tmp 34) (Operand.const (Value.int IntKind.i64 1)) 3, type := 3, pos := "ref.go:112", after := #[{ on := 1, ground := Ground.data }], guard := none }, { dst := some 36, op := Op.move (Operand.tmp 2), type := 68, pos := "ref.go:112", after := #[], guard := none }, { dst := some 37, op := Op.move (Operand.tmp 8), type := 3, pos := "ref.go:112", after := #[], guard := none }, { dst := some 38, op := Op.indexAddr 68 (Operand.tmp 36) (Operand.tmp 37), type := 0, pos := "ref.go:112", after := #[{ on := 3, ground := Ground.data }, { on := 4, ground := Ground.data }], guard := none }, { dst := some 39, op := Op.load 4 (Operand.tmp 38), type := 4, pos := "ref.go:112", after := #[{ on := 5, ground := Ground.data }], guard := none }, { dst := some 40, op := Op.move (Operand.tmp 39), type := 4, pos := "ref.go:112", after := #[{ on := 6, ground := Ground.data }], guard := none }, { dst := some 41, op := Op.fieldAddr 27 (Operand.tmp 3) 1, type := 0, pos := "ref.go:112", after := #[{ on := 7, ground := Ground.guard }], guard := some (7, true) }, { dst := some 42, op := Op.load 24 (Operand.tmp 41), type := 24, pos := "ref.go:112", after := #[{ on := 8, ground := Ground.data }, { on := 7, ground := Ground.guard }], guard := some (7, true) }, { dst := some 43, op := Op.move (Operand.tmp 1), type := 9, pos := "ref.go:112", after := #[{ on := 7, ground := Ground.guard }], guard := some (7, true) }, { dst := some 44, op := Op.move (Operand.tmp 8), type := 3, pos := "ref.go:112", after := #[{ on := 7, ground := Ground.guard }], guard := some (7, true) }, { dst := some 45, op := Op.index 9 (Operand.tmp 43) (Operand.tmp 44), type := 5, pos := "ref.go:112", after := #[{ on := 10, ground := Ground.data }, { on := 11, ground := Ground.data }, { on := 7, ground := Ground.guard }], guard := some (7, true) }, { dst := some 46, op := Op.call { callee := Callee.value (Operand.func 56), args := #[Operand.tmp 42, Operand.tmp 45], argTypes := #[24, 5] }, type := 4, pos := "ref.go:112", after := #[{ on := 9, ground := Ground.data }, { on := 12, ground := Ground.data }, { on := 7, ground := Ground.chain }, { on := 7, ground := Ground.guard }], guard := some (7, true) }, { dst := some 47, op := Op.pick (Operand.tmp 40) (Operand.tmp 46) (Operand.const (Value.bool false)), type := 4, pos := "ref.go:112", after := #[{ on := 7, ground := Ground.data }, { on := 13, ground := Ground.data }], guard := none }, { dst := some 48, op := Op.indexAddr 68 (Operand.tmp 33) (Operand.tmp 35), type := 0, pos := "ref.go:112", after := #[{ on := 0, ground := Ground.data }, { on := 2, ground := Ground.data }, { on := 0, ground := Ground.phase }, { on := 1, ground := Ground.phase }, { on := 2, ground := Ground.phase }, { on := 3, ground := Ground.phase }, { on := 4, ground := Ground.phase }, { on := 5, ground := Ground.phase }, { on := 6, ground := Ground.phase }, { on := 7, ground := Ground.phase }, { on := 8, ground := Ground.phase }, { on := 9, ground := Ground.phase }, { on := 10, ground := Ground.phase }, { on := 11, ground := Ground.phase }, { on := 12, ground := Ground.phase }, { on := 13, ground := Ground.phase }, { on := 14, ground := Ground.phase }], guard := none }, { dst := none, op := Op.store 4 (Operand.tmp 48) (Operand.tmp 47), type := 0, pos := "ref.go:112", after := #[{ on := 15, ground := Ground.data }, { on := 14, ground := Ground.data }, { on := 13, ground := Ground.chain }, { on := 0, ground := Ground.phase }, { on := 1, ground := Ground.phase }, { on := 2, ground := Ground.phase }, { on := 3, ground := Ground.phase }, { on := 4, ground := Ground.phase }, { on := 5, ground := Ground.phase }, { on := 6, ground := Ground.phase }, { on := 7, ground := Ground.phase }, { on := 8, ground := Ground.phase }, { on := 9, ground := Ground.phase }, { on := 10, ground := Ground.phase }, { on := 11, ground := Ground.phase }, { on := 12, ground := Ground.phase }, { on := 13, ground := Ground.phase }, { on := 14, ground := Ground.phase }], guard := none }] true).wp Tryd.prog Q { tmps := (List.toArray ((u0 :: .string s :: .slice (some ⟨ga, 0, none⟩) n cA :: .pointer (some ⟨g3, 0, none⟩) :: u4 :: u5 :: u6 :: .slice (some ⟨go, 0, none⟩) n cO :: .int .i64 (i : Int) :: u9 :: u10 :: u11 :: u12 :: u13 :: u14 :: u15 :: u16 :: u17 :: u18 :: u19 :: u20 :: u21 :: u22 :: u23 :: u24 :: u25 :: u26 :: u27 :: u28 :: u29 :: u30 :: u31 :: u32 :: u33 :: u34 :: u35 :: u36 :: u37 :: u38 :: u39 :: u40 :: u41 :: u42 :: u43 :: u44 :: u45 :: u46 :: u47 :: u48 :: u49 :: u50 :: u51 :: u52 :: u53 :: u54 :: u55 :: u56 :: u57 :: u58 :: u59 :: u60 :: u61 :: u62 :: u63 :: u64 :: u65 :: u66 :: u67 :: u68 :: u69 :: u70 :: u71 :: u72 :: u73 :: u74 :: u75 :: u76 :: u77 :: u78 :: u79 :: u80 :: u81 :: u82 :: u83 :: u84 :: u85 :: u86 :: u87 :: u88 :: u89 :: u90 :: u91 :: u92 :: u93 :: u94 :: u95 :: u96 :: u97 :: u98 :: u99 :: u100 :: u101 :: u102 :: u103 :: u104 :: u105 :: u106 :: u107 :: u108 :: u109 :: u110 :: u111 :: u112 :: u113 :: u114 :: u115 :: u116 :: u117 :: u118 :: u119 :: u120 :: u121 :: u122 :: u123 :: u124 :: u125 :: u126 :: u127 :: u128 :: u129 :: u130 :: u131 :: u132 :: u133 :: u134 :: u135 :: u136 :: u137 :: u138 :: u139 :: u140 :: u141 :: u142 :: u143 :: u144 :: u145 :: u146 :: u147 :: u148 :: u149 :: u150 :: u151 :: u152 :: u153 :: u154 :: u155 :: u156 :: u157 :: u158 :: u159 :: u160 :: u161 :: u162 :: u163 :: u164 :: u165 :: u166 :: u167 :: u168 :: u169 :: u170 :: u171 :: u172 :: u173 :: u174 :: u175 :: u176 :: u177 :: u178 :: u179 :: u180 :: []) : List Value)), defers := [] } w := by
  have cO1 : w.cell? ⟨go, i1, none⟩ = some u := by rw [cell_of_row w go _ _ 4 (0, 0) hO]; exact hOi
  have fO1 := frozen_of_row w go i1 _ 4 hO
  have hD : Below w.heap.size w w.drew := (Below.refl _ w).drew
  have hOH := hide hO
  clear hO
  have hw1 : IntKind.i64.wrap (i1 : Int) = (i1 : Int) := by rw [IntKind.wrap_i64]; omega
  have hw2 : wrap64 (i1 : Int) = (i1 : Int) := by unfold wrap64; omega
  replace hib := hide hib
  have hX := hide hX0
  clear hX0
  have his2 : i < s.size := by omega
  have b0 := hsb his2
  clear hsb
  replace h := hide h
  refine wp_region_noPanic ?_
  refine wp_region_any (by kernel_rfl) ?_
  change wpAny _ _ _ _ _ _ _ (World.drew w)
  refine wpAny_take (i := 0) (oi := { dst := some 33, op := Op.move (Operand.tmp 7), type := 68, pos := "ref.go:112", after := #[], guard := none }) (v := ?_) rfl (by kernel_rfl) (by kernel_rfl) (by kernel_rfl) (fun _ _ _ h => h) (Or.inl ⟨by rfl, ?_⟩) ?_
  rotate_left
  · intro w'
    go_simp
    try with_reducible rfl
  try simp only [Act.put, List.setIfInBounds_toArray, List.set_cons_zero, List.set_cons_succ]
  refine wpAny_take (i := 1) (oi := { dst := some 34, op := Op.move (Operand.tmp 8), type := 3, pos := "ref.go:112", after := #[], guard := none }) (v := ?_) rfl (by kernel_rfl) (by kernel_rfl) (by kernel_rfl) (fun _ _ _ h => h) (Or.inl ⟨by rfl, ?_⟩) ?_
  rotate_left
  · intro w'
    go_simp
    try with_reducible rfl
  try simp only [Act.put, List.setIfInBounds_toArray, List.set_cons_zero, List.set_cons_succ]
  refine wpAny_take (i := 2) (oi := { dst := some 35, op := Op.binOp BinOp.add 3 (Operand.tmp 34) (Operand.const (Value.int IntKind.i64 1)) 3, type := 3, pos := "ref.go:112", after := #[{ on := 1, ground := Ground.data }], guard := none }) (v := ?_) rfl (by kernel_rfl) (by kernel_rfl) (by kernel_rfl) (fun _ _ _ h => h) (Or.inl ⟨by rfl, ?_⟩) ?_
  rotate_left
  · intro w'
    go_simp
    try with_reducible rfl
  try simp only [Act.put, List.setIfInBounds_toArray, List.set_cons_zero, List.set_cons_succ]
  refine wpAny_take (i := 3) (oi := { dst := some 36, op := Op.move (Operand.tmp 2), type := 68, pos := "ref.go:112", after := #[], guard := none }) (v := ?_) rfl (by kernel_rfl) (by kernel_rfl) (by kernel_rfl) (fun _ _ _ h => h) (Or.inl ⟨by rfl, ?_⟩) ?_
  rotate_left
  · intro w'
    go_simp
    try with_reducible rfl
  try simp only [Act.put, List.setIfInBounds_toArray, List.set_cons_zero, List.set_cons_succ]
  refine wpAny_take (i := 4) (oi := { dst := some 37, op := Op.move (Operand.tmp 8), type := 3, pos := "ref.go:112", after := #[], guard := none }) (v := ?_) rfl (by kernel_rfl) (by kernel_rfl) (by kernel_rfl) (fun _ _ _ h => h) (Or.inl ⟨by rfl, ?_⟩) ?_
  rotate_left
  · intro w'
    go_simp
    try with_reducible rfl
  try simp only [Act.put, List.setIfInBounds_toArray, List.set_cons_zero, List.set_cons_succ]
  refine wpAny_take (i := 5) (oi := { dst := some 38, op := Op.indexAddr 68 (Operand.tmp 36) (Operand.tmp 37), type := 0, pos := "ref.go:112", after := #[{ on := 3, ground := Ground.data }, { on := 4, ground := Ground.data }], guard := none }) (v := ?_) rfl (by kernel_rfl) (by kernel_rfl) (by kernel_rfl) (fun _ _ _ h => h) (Or.inl ⟨by rfl, ?_⟩) ?_
  rotate_left
  · intro w'
    go_simp
    try with_reducible rfl
  try simp only [Act.put, List.setIfInBounds_toArray, List.set_cons_zero, List.set_cons_succ]
  refine wpAny_ready (rs := [6]) (by kernel_rfl) (by simp) ?_
  refine (AllReady.cons (o := { dst := some 39, op := Op.load 4 (Operand.tmp 38), type := 4, pos := "ref.go:112", after := #[{ on := 5, ground := Ground.data }], guard := none }) rfl (fun K6 hK6 => ?_) AllReady.nil)
  go_simp
  refine hK6 _ _ ?_
  clear hK6 K6
  try simp only [Act.put, List.setIfInBounds_toArray, List.set_cons_zero, List.set_cons_succ]
  refine wpAny_take (i := 7) (oi := { dst := some 40, op := Op.move (Operand.tmp 39), type := 4, pos := "ref.go:112", after := #[{ on := 6, ground := Ground.data }], guard := none }) (v := ?_) rfl (by kernel_rfl) (by kernel_rfl) (by kernel_rfl) (fun _ _ _ h => h) (Or.inl ⟨by rfl, ?_⟩) ?_
  rotate_left
  · intro w'
    go_simp
    try with_reducible rfl
  try simp only [Act.put, List.setIfInBounds_toArray, List.set_cons_zero, List.set_cons_succ]
  refine wpAny_take (i := 8) (oi := { dst := some 41, op := Op.fieldAddr 27 (Operand.tmp 3) 1, type := 0, pos := "ref.go:112", after := #[{ on := 7, ground := Ground.guard }], guard := some (7, true) }) (v := ?_) rfl (by kernel_rfl) (by kernel_rfl) (by kernel_rfl) (fun _ _ _ h => h) (Or.inl ⟨by rfl, ?_⟩) ?_
  rotate_left
  · intro w'
    go_simp
    try with_reducible rfl
  try simp only [Act.put, List.setIfInBounds_toArray, List.set_cons_zero, List.set_cons_succ]
  refine wpAny_take (i := 10) (oi := { dst := some 43, op := Op.move (Operand.tmp 1), type := 9, pos := "ref.go:112", after := #[{ on := 7, ground := Ground.guard }], guard := some (7, true) }) (v := ?_) rfl (by kernel_rfl) (by kernel_rfl) (by kernel_rfl) (fun _ _ _ h => h) (Or.inl ⟨by rfl, ?_⟩) ?_
  rotate_left
  · intro w'
    go_simp
    try with_reducible rfl
  try simp only [Act.put, List.setIfInBounds_toArray, List.set_cons_zero, List.set_cons_succ]
  refine wpAny_take (i := 11) (oi := { dst := some 44, op := Op.move (Operand.tmp 8), type := 3, pos := "ref.go:112", after := #[{ on := 7, ground := Ground.guard }], guard := some (7, true) }) (v := ?_) rfl (by kernel_rfl) (by kernel_rfl) (by kernel_rfl) (fun _ _ _ h => h) (Or.inl ⟨by rfl, ?_⟩) ?_
  rotate_left
  · intro w'
    go_simp
    try with_reducible rfl
  try simp only [Act.put, List.setIfInBounds_toArray, List.set_cons_zero, List.set_cons_succ]
  refine wpAny_take (i := 12) (oi := { dst := some 45, op := Op.index 9 (Operand.tmp 43) (Operand.tmp 44), type := 5, pos := "ref.go:112", after := #[{ on := 10, ground := Ground.data }, { on := 11, ground := Ground.data }, { on := 7, ground := Ground.guard }], guard := some (7, true) }) (v := ?_) rfl (by kernel_rfl) (by kernel_rfl) (by kernel_rfl) (fun _ _ _ h => h) (Or.inl ⟨by rfl, ?_⟩) ?_
  rotate_left
  · intro w'
    go_simp
    try with_reducible rfl
  try simp only [Act.put, List.setIfInBounds_toArray, List.set_cons_zero, List.set_cons_succ]
  refine wpAny_ready (rs := [9]) (by kernel_rfl) (by simp) ?_
  refine (AllReady.cons (o := { dst := some 42, op := Op.load 24 (Operand.tmp 41), type := 24, pos := "ref.go:112", after := #[{ on := 8, ground := Ground.data }, { on := 7, ground := Ground.guard }], guard := some (7, true) }) rfl (fun K9 hK9 => ?_) AllReady.nil)
  refine step_val2 (by rfl) (run_ldx 24 _ rfl hX.out) ?_
  refine hK9 _ _ ?_
  clear hK9 K9
  try simp only [Act.put, List.setIfInBounds_toArray, List.set_cons_zero, List.set_cons_succ]
  refine wpAny_ready (rs := [13]) (by kernel_rfl) (by simp) ?_
  refine (AllReady.cons (o := { dst := some 46, op := Op.call { callee := Callee.value (Operand.func 56), args := #[Operand.tmp 42, Operand.tmp 45], argTypes := #[24, 5] }, type := 4, pos := "ref.go:112", after := #[{ on := 9, ground := Ground.data }, { on := 12, ground := Ground.data }, { on := 7, ground := Ground.chain }, { on := 7, ground := Ground.guard }], guard := some (7, true) }) rfl (fun K13 hK13 => ?_) AllReady.nil)
  go_simp
  refine (has56 x hx b hb _).mono ?_
  rintro e w4 ⟨rfl, B4⟩
  replace B4 : Below w.heap.size w.drew w4 := B4
  have hb4 : w4.heap[go]? = some (.cells cur 4 (0, 0)) := ((hD.trans B4).block go (Array.getElem?_eq_some_iff.1 hOH.out).1).trans hOH.out
  have cO4 : w4.cell? ⟨go, i1, none⟩ = some u := by rw [cell_of_row w4 go _ _ 4 (0, 0) hb4]; exact hOi
  have fO4 := frozen_of_row w4 go i1 _ 4 hb4
  replace hb4 := hide hb4
  refine hK13 _ _ ?_
  clear hK13 K13
  try simp only [Act.put, List.setIfInBounds_toArray, List.set_cons_zero, List.set_cons_succ]
  refine wpAny_take (i := 14) (oi := { dst := some 47, op := Op.pick (Operand.tmp 40) (Operand.tmp 46) (Operand.const (Value.bool false)), type := 4, pos := "ref.go:112", after := #[{ on := 7, ground := Ground.data }, { on := 13, ground := Ground.data }], guard := none }) (v := ?_) rfl (by kernel_rfl) (by kernel_rfl) (by kernel_rfl) (fun _ _ _ h => h) (Or.inl ⟨by rfl, ?_⟩) ?_
  rotate_left
  · intro w'
    go_simp
    try with_reducible rfl
  try simp only [Act.put, List.setIfInBounds_toArray, List.set_cons_zero, List.set_cons_succ]
  refine wpAny_take (i := 15) (oi := { dst := some 48, op := Op.indexAddr 68 (Operand.tmp 33) (Operand.tmp 35), type := 0, pos := "ref.go:112", after := #[{ on := 0, ground := Ground.data }, { on := 2, ground := Ground.data }, { on := 0, ground := Ground.phase }, { on := 1, ground := Ground.phase }, { on := 2, ground := Ground.phase }, { on := 3, ground := Ground.phase }, { on := 4, ground := Ground.phase }, { on := 5, ground := Ground.phase }, { on := 6, ground := Ground.phase }, { on := 7, ground := Ground.phase }, { on := 8, ground := Ground.phase }, { on := 9, ground := Ground.phase }, { on := 10, ground := Ground.phase }, { on := 11, ground := Ground.phase }, { on := 12, ground := Ground.phase }, { on := 13, ground := Ground.phase }, { on := 14, ground := Ground.phase }], guard := none }) (v := ?_) rfl (by kernel_rfl) (by kernel_rfl) (by kernel_rfl) (fun _ _ _ h => h) (Or.inl ⟨by rfl, ?_⟩) ?_
  rotate_left
  · intro w'
    go_simp
    try with_reducible rfl
  try simp only [Act.put, List.setIfInBounds_toArray, List.set_cons_zero, List.set_cons_succ]
  refine wpAny_ready (rs := [16]) (by kernel_rfl) (by simp) ?_
  refine (AllReady.cons (o := { dst := none, op := Op.store 4 (Operand.tmp 48) (Operand.tmp 47), type := 0, pos := "ref.go:112", after := #[{ on := 15, ground := Ground.data }, { on := 14, ground := Ground.data }, { on := 13, ground := Ground.chain }, { on := 0, ground := Ground.phase }, { on := 1, ground := Ground.phase }, { on := 2, ground := Ground.phase }, { on := 3, ground := Ground.phase }, { on := 4, ground := Ground.phase }, { on := 5, ground := Ground.phase }, { on := 6, ground := Ground.phase }, { on := 7, ground := Ground.phase }, { on := 8, ground := Ground.phase }, { on := 9, ground := Ground.phase }, { on := 10, ground := Ground.phase }, { on := 11, ground := Ground.phase }, { on := 12, ground := Ground.phase }, { on := 13, ground := Ground.phase }, { on := 14, ground := Ground.phase }], guard := none }) rfl (fun K16 hK16 => ?_) AllReady.nil)
  go_simp
  refine hK16 _ _ ?_
  clear hK16 K16
  try simp only [Act.put, List.setIfInBounds_toArray, List.set_cons_zero, List.set_cons_succ]
  refine wpAny_done (by kernel_rfl) ?_ _
  refine NoPanic.normal ?_
  exact h.out _ (hD.trans B4)
end Go.Proofs.YthgdfgkjaepchaaDoor
namespace Go.Proofs.YthgdfgkjaepchaaDoor
open Go.RowKit
set_option linter.unusedVariables false
set_option linter.unusedSimpArgs false

section
variable {w : World} {ops : Array Oper} {rest : List Oper} {a : Act} {Q : Exit → Act → World → Prop} {dst : Option Nat} {x y : Operand} {ty : TypeId} {pos : String} {after : Array Edge}
theorem at_make2 (t : TypeId) (h : wpList Tryd.prog ops Q (⟨dst, .makeSlice t x y, ty, pos, after, none⟩ :: rest) a w) : wpList Tryd.prog ops Q (⟨dst, .makeSlice t x y, ty, pos, after, none⟩ :: rest) a w := h
end
/-- How Reach ends. -/
def RchP (M : Lg) (s : ByteArray) (B : List Bool) (v0 : Value) (w : World) (e : Ending) (w' : World) : Prop := Below w.heap.size w w' ∧ ∃ v B', e = .returned v ∧ Bo w' v B' ∧ (∀ k, v.ownBlock = some k → w.heap.size ≤ k ∨ v0.ownBlock = some k) ∧ Rel M (bys s) B B'
theorem st_setB {S : Nat → Prop} {w0 w : World} {L : List Ent} {g : Nat} {B : List Bool} (H : St S w0 w ((true, g, 4, bolA B) :: L)) (k : Nat) (b : Bool) : St S w0 (w.setCell ⟨g, k, none⟩ (.bool b)) ((true, g, 4, bolA (B.set k b)) :: L) := by
  have := H.setCell 0 rfl k (.bool b)
  rw [bolA_set] at this
  exact this
set_option maxHeartbeats 4000000 in
set_option maxRecDepth 100000 in
theorem reach_1 (x : S4) (hx : OkS x) (a : Option Addr) (n c : Nat) (mn mx : Int) (s : ByteArray) (hs : s.size ≤ 1000) (v : Value) (B : List Bool) (hB : B.length = s.size + 1) (w : World) (hv : Bo w v B) : Calls Tryd.prog 34 #[reV 1 x (.slice a n c) mn mx, .string s, v] w (RchP (byM x) s B v w) := by
  obtain ⟨ga, cA, curA, tA, frA, rfl, hga, hcA⟩ := hv
  have lga := (Array.getElem?_eq_some_iff.1 hga).1
  rw [hB]
  obtain ⟨n1, hn1⟩ : ∃ n1 : Nat, n1 = s.size + 1 := ⟨_, rfl⟩
  rw [← hn1]
  have e1 : (s.size : Int) + 1 = (n1 : Int) := by omega
  have hn2 : n1 ≤ 1000000 := by omega
  have H := St.start Nope w
  have hgaH := hide hga
  replace hcA := hide hcA
  replace hB := hide hB
  have hn1H := hide hn1
  clear hn1
  clear hga
  go_enter Tryd.func34, Tryd.ntmps34
  go_wp2_with (first | ((with_reducible refine at_box 27 ?_); refine wl_box28 H rfl ?_; clear H; intro g3 w1 H q1 q2) | ((with_reducible refine at_make2 68 ?_); refine wl_make68 H hn2 rfl rfl ?_; clear H; intro go w2 H q3 q4; have c0 := H.cell 1 0 rfl (v := .int .i64 1) rfl))
  have HL : Hid (St Nope w w2 [(true, go, 4, bolA (List.replicate n1 false)), (true, g3, 27, reA 1 x (.slice a n c) mn mx)]) := H
  clear H c0
  go_loopw [8] (fun iv wr => ∃ (k : Nat) (Bk : List Bool), iv = .int .i64 ((k : Nat) : Int) ∧ k ≤ s.size ∧ Hid (St Nope w wr [(true, go, 4, bolA Bk), (true, g3, 27, reA 1 x (.slice a n c) mn mx)]) ∧ Hid (Bk.length = n1 ∧ Bk[0]? = some false ∧ ∀ j b, j < k → (bys s)[j]? = some b → (Bk[j + 1]? = some true ↔ B[j]? = some true ∧ inS x b = true))) (fun iv _ => s.size - (RowKit.intOf iv).toNat)
  case atStart => exact ⟨0, _, rfl, Nat.zero_le _, HL, ⟨by simp, by rw [hn1H.out]; simp [List.replicate_succ], fun j b hj => by omega⟩⟩
  case round =>
    obtain ⟨k, Bk, rfl, hk, Hr, hBk⟩ := hrel
    by_cases hlt : k < s.size
    · have i1 : (k : Int) < (s.size : Int) := by omega
      have hbr := bt_range s k
      obtain ⟨b, hb⟩ : ∃ b : Nat, bt s k = (b : Int) := ⟨(bt s k).toNat, by omega⟩
      have hb2 : b < 256 := by omega
      have hby := bys_at hlt
      rw [hb, Int.toNat_natCast] at hby
      obtain ⟨k1, hk1⟩ : ∃ k1 : Nat, k1 = k + 1 := ⟨_, rfl⟩
      have hn1o := hn1H.out
      have hbl := hBk.out.1
      have hgo := Hr.out.get 0 rfl
      obtain ⟨u, hu⟩ : ∃ u, (bolA Bk)[k1]? = some u := ⟨_, Array.getElem?_eq_getElem (by rw [bolA_size]; omega)⟩
      have hga2 : wr.heap[ga]? = some (.cells curA tA frA) := (Hr.out.below.block ga lga).trans hgaH.out
      obtain ⟨bA, hbA⟩ : ∃ bA, B[k]? = some bA := ⟨_, List.getElem?_eq_getElem (by have := hB.out; omega)⟩
      have cA1 : wr.cell? ⟨ga, k, none⟩ = some (.bool bA) := by rw [cell_of_row wr ga _ _ tA frA hga2]; exact hcA.out k bA hbA
      have hX : (loadVar 24 ⟨g3, 1, none⟩).run Tryd.prog wr.drew = .ok (setV x) wr.drew := load24m (fun j v hj => by
        have hj4 : j < 4 := by have := (Array.getElem?_eq_some_iff.1 hj).1; simpa [setA] using this
        have e : (reA 1 x (.slice a n c) mn mx)[1 + j]? = some v := by rcases (show j = 0 ∨ j = 1 ∨ j = 2 ∨ j = 3 by omega) with rfl | rfl | rfl | rfl <;> exact hj
        exact Hr.out.cell 1 (1 + j) rfl e)
      have hsb : ∀ h : k < s.size, ((s[k]'h).toNat : Int) = (b : Int) := fun h => by rw [bt_eq h, hb]
      have nxtB : Hid (∀ r : Bool, (r = true ↔ bA = true ∧ inS x b = true) → ((Bk.set k1 r).length = n1 ∧ (Bk.set k1 r)[0]? = some false ∧ ∀ j b, j < k + 1 → (bys s)[j]? = some b → ((Bk.set k1 r)[j + 1]? = some true ↔ B[j]? = some true ∧ inS x b = true))) := fun r hr => by
        refine ⟨by rw [List.length_set]; exact hbl, by rw [List.getElem?_set_ne (by omega)]; exact hBk.out.2.1, fun j b' hj hjb => ?_⟩
        by_cases e : j = k
        · subst e
          rw [hby] at hjb
          cases hjb
          rw [hk1, List.getElem?_set_self (by omega), hbA, Option.some.injEq, Option.some.injEq]
          exact hr
        · rw [List.getElem?_set_ne (by omega)]
          exact hBk.out.2.2 j b' (by omega) hjb
      have e2 : (k : Int) + 1 = (k1 : Int) := by omega
      have j1 : (k : Int) < (n1 : Int) := by omega
      have j2 : (k1 : Int) < (n1 : Int) := by omega
      have hltH := hide hlt
      have hk1H := hide hk1
      replace hgo := hide hgo
      replace hga2 := hide hga2
      replace hX := hide hX
      replace hsb := hide hsb
      replace hby := hide hby
      replace hb := hide hb
      replace hu := hide hu
      replace hbA := hide hbA
      clear hbr hbl hk1 hn1o
      cases bA with
      | true =>
        go_wp2_with fail
        refine reg34_b wr go ga g3 n1 n1 cA k k1 b s x u e2 j1 j2 i1 (by omega) hgo.out hu.out cA1 hX.out hx hb2 hsb.out _ _ _ _ _ _ _ _ _ _ _ _ _ _ _ _ _ _ _ _ _ _ _ _ _ _ _ _ _ _ _ _ _ _ _ _ _ _ _ _ _ _ _ _ _ _ _ _ _ _ _ _ _ _ _ _ _ _ _ _ _ _ _ _ _ _ _ _ _ _ _ _ _ _ _ _ _ _ _ _ _ _ _ _ _ _ _ _ _ _ _ _ _ _ _ _ _ _ _ _ _ _ _ _ _ _ _ _ _ _ _ _ _ _ _ _ _ _ _ _ _ _ _ _ _ _ _ _ _ _ _ _ _ _ _ _ _ _ _ _ _ _ _ _ _ _ _ _ _ _ _ _ _ _ _ _ _ _ _ _ _ _ _ _ _ _ _ _ _ _ _ _ _ _ _ _ _ ?_
        intro w4 B4
        have H4 := (Hr.out.call B4 (Nat.le_refl _))
        have H5 := hide (st_setB H4 k1 (inS x b))
        have hB5 := hide (nxtB.out (inS x b) (by simp))
        clear H4 B4
        generalize w4.setCell ⟨go, k1, none⟩ (.bool (inS x b)) = w5 at H5 ⊢
        go_wp2_with fail
        go_roundw
        case rel => exact ⟨k + 1, _, by rw [hk1H.out], hltH.out, H5, hB5⟩
        case measure => have := hltH.out; simp [RowKit.intOf]; omega
      | false =>
        go_wp2_with fail
        refine reg34_a wr go ga g3 n1 n1 cA k k1 b s x u e2 j1 j2 i1 (by omega) hgo.out hu.out cA1 _ _ _ _ _ _ _ _ _ _ _ _ _ _ _ _ _ _ _ _ _ _ _ _ _ _ _ _ _ _ _ _ _ _ _ _ _ _ _ _ _ _ _ _ _ _ _ _ _ _ _ _ _ _ _ _ _ _ _ _ _ _ _ _ _ _ _ _ _ _ _ _ _ _ _ _ _ _ _ _ _ _ _ _ _ _ _ _ _ _ _ _ _ _ _ _ _ _ _ _ _ _ _ _ _ _ _ _ _ _ _ _ _ _ _ _ _ _ _ _ _ _ _ _ _ _ _ _ _ _ _ _ _ _ _ _ _ _ _ _ _ _ _ _ _ _ _ _ _ _ _ _ _ _ _ _ _ _ _ _ _ _ _ _ _ _ _ _ _ _ _ _ _ _ _ _ _ ?_
        have H5 := hide (st_setB Hr.out.drew k1 false)
        have hB5 := hide (nxtB.out false (by simp))
        generalize wr.drew.setCell ⟨go, k1, none⟩ (.bool false) = w5 at H5 ⊢
        go_wp2_with fail
        go_roundw
        case rel => exact ⟨k + 1, _, by rw [hk1H.out], hltH.out, H5, hB5⟩
        case measure => have := hltH.out; simp [RowKit.intOf]; omega
    · obtain rfl : k = s.size := by omega
      go_wp2_with fail
      go_ret
      refine ⟨Hr.out.below, _, Bk, rfl, ⟨go, n1, bolA Bk, 4, (0, 0), by rw [hBk.out.1]; rfl, Hr.out.get 0 rfl, fun i b h => bolA_at h⟩, fun k e => .inl (by cases e; exact q3), Rel.byte (by rw [hBk.out.1, bys_len]; exact hn1H.out) hBk.out.2.1 (fun j b hj => hBk.out.2.2 j b (by have := (List.getElem?_eq_some_iff.1 hj).1; rw [bys_len] at this; exact this) hj)⟩
end Go.Proofs.YthgdfgkjaepchaaDoor
namespace Go.Proofs.YthgdfgkjaepchaaDoor
open Go.RowKit
set_option linter.unusedVariables false
set_option linter.unusedSimpArgs false

theorem sqM_snoc : ∀ (l : List Lg) (M : Lg) (u : List Nat), sqM (l ++ [M]) u ↔ cat (sqM l) M u
  | [], M, u => by
    show cat M eps u ↔ cat eps M u
    rw [cat_eps]
    constructor
    · intro h; exact ⟨[], u, rfl, rfl, h⟩
    · rintro ⟨x, y, e, h1, h2⟩
      have h3 : x = [] := h1
      subst h3
      rw [e]; exact h2
  | N :: l, M, u => by
    show cat N (sqM (l ++ [M])) u ↔ cat (cat N (sqM l)) M u
    rw [cat_assoc]
    constructor
    · rintro ⟨x, y, e, h1, h2⟩; exact ⟨x, y, e, h1, (sqM_snoc l M y).1 h2⟩
    · rintro ⟨x, y, e, h1, h2⟩; exact ⟨x, y, e, h1, (sqM_snoc l M y).2 h2⟩
theorem orM_snoc (l : List Lg) (M : Lg) (u : List Nat) : orM (l ++ [M]) u ↔ orM l u ∨ M u := by
  unfold orM
  constructor
  · rintro ⟨N, hN, h⟩
    rcases List.mem_append.1 hN with hN | hN
    · exact .inl ⟨N, hN, h⟩
    · rw [List.mem_singleton.1 hN] at h; exact .inr h
  · rintro (⟨N, hN, h⟩ | h)
    · exact ⟨N, by simp [hN], h⟩
    · exact ⟨M, by simp, h⟩
theorem mes_nth : ∀ (f : Fo) (i : Nat), i < f.len → f.mes[i]? = some (meT (f.nth i))
  | .nil, i, h => by simp [Fo.len] at h
  | .cons n k r, 0, _ => rfl
  | .cons n k r, i + 1, h => by
    show r.mes[i]? = _
    exact mes_nth r i (by simpa [Fo.len] using h)
theorem mes_take {f : Fo} {i : Nat} (h : i < f.len) : f.mes.take (i + 1) = f.mes.take i ++ [meT (f.nth i)] := by
  rw [List.take_add_one, mes_nth f i h]
  rfl
theorem mes_all (f : Fo) : f.mes.take f.len = f.mes := by rw [← Fo.mes_len f, List.take_length]
/-- A member of a pattern: how it lies. -/
theorem kid_at {w : World} {P : Nat → Prop} {v : Value} {zs : List Value} {f : Fo} (ho : w.ownsRow 0 27 8 v f.len zs) (hk : Kd w P f zs) {i : Nat} (hi : i < f.len) :
    ∃ b c x, v = .slice (some ⟨b, 0, none⟩) f.len c ∧ (loadVar 27 ⟨b, i * 8, none⟩).run Tryd.prog w = .ok x w ∧ TrV w P x (f.nth i) := by
  obtain ⟨u, ys, hc, h1, h2, h3⟩ := Kd.nth hk i hi
  rcases ho.2 with ⟨_, h⟩ | ⟨g, cap, cur, hv, _⟩
  · omega
  · refine ⟨g, cap, _, hv, load28c (fun j z hj => ?_), ⟨u, ys, rfl, h1, h2, h3⟩⟩
    have := ho.cells (g := g) (by rw [hv]; rfl) _ _ (hc j z hj)
    rwa [add_plain, Nat.zero_add] at this
theorem owns8_below {w w' : World} {v : Value} {n : Nat} {zs : List Value} (h : w.ownsRow 0 27 8 v n zs) (hb : Below w.heap.size w w') : w'.ownsRow 0 27 8 v n zs := owns8_of_block h (fun b hb2 => hb.block b (owns8_lt h hb2).2)
theorem Kd.below {w w' : World} {P : Nat → Prop} {f : Fo} {zs : List Value} (h : Kd w P f zs) (hb : Below w.heap.size w w') : Kd w' P f zs := h.kept (fun b _ hl => hb.block b hl)
/-- What is known of a pattern's members. -/
def RcK (s : ByteArray) (P : Nat → Prop) (f : Fo) : Prop := ∀ i, i < f.len → ∀ (w : World) (x v : Value) (B : List Bool), TrV w P x (f.nth i) → B.length = s.size + 1 → Bo w v B → Calls Tryd.prog 34 #[x, .string s, v] w (RchP (meT (f.nth i)) s B v w)
set_option maxHeartbeats 4000000 in
set_option maxRecDepth 100000 in
theorem reach_2 (s : ByteArray) (hs : s.size ≤ 1000) (P : Nat → Prop) (f : Fo) (hf : f.len ≤ 10000) (ih : RcK s P f) (x : S4) (mn mx : Int) (u : Value) (zs : List Value) (v : Value) (B : List Bool) (hB : B.length = s.size + 1) (w : World) (ho : w.ownsRow 0 27 8 u f.len zs) (hk : Kd w P f zs) (hv : Bo w v B) : Calls Tryd.prog 34 #[reV 2 x u mn mx, .string s, v] w (RchP (sqM f.mes) s B v w) := by
  obtain ⟨n1, hn1⟩ : ∃ n1 : Nat, n1 = s.size + 1 := ⟨_, rfl⟩
  have e1 : (s.size : Int) + 1 = (n1 : Int) := by omega
  have hn2 : n1 ≤ 1000000 := by omega
  have H := St.start Nope w
  obtain ⟨ua, uc, hu, _, _⟩ := owns8_val ho
  subst hu
  replace ih := hide ih
  replace hB := hide hB
  replace hn1 := hide hn1
  replace ho := hide ho
  replace hk := hide hk
  replace hv := hide hv
  go_enter Tryd.func34, Tryd.ntmps34
  go_wp2_with (first | ((with_reducible refine at_box 27 ?_); refine wl_box28 H rfl ?_; clear H; intro g3 w1 H q1 q2) | ((with_reducible refine at_make2 68 ?_); refine wl_make68 H hn2 rfl rfl ?_; clear H; intro go w2 H q3 q4; have c0 := H.cell 1 0 rfl (v := .int .i64 2) rfl))
  have HL : Hid (St Nope w w2 [(true, g3, 27, reA 2 x (.slice ua f.len uc) mn mx)]) := H.tail
  clear H c0
  have hv2 : Hid (Bo w2 v B) := hv.out.below HL.out.below
  go_loopw [7, 9] (fun v7 iv wr => ∃ (i : Nat) (Bi : List Bool), iv = .int .i64 ((i : Nat) : Int) ∧ i ≤ f.len ∧ Hid (St Nope w wr [(true, g3, 27, reA 2 x (.slice ua f.len uc) mn mx)]) ∧ Hid (Bo wr v7 Bi ∧ (∀ k, v7.ownBlock = some k → w.heap.size ≤ k ∨ v.ownBlock = some k) ∧ Rel (sqM (f.mes.take i)) (bys s) B Bi)) (fun _ iv _ => f.len - (RowKit.intOf iv).toNat)
  case atStart => exact ⟨0, B, rfl, Nat.zero_le _, HL, ⟨hv2.out, fun k e => .inr e, Rel.eps (by rw [hB.out, bys_len])⟩⟩
  case round =>
    obtain ⟨i, Bi, rfl, hi, Hr, hBi⟩ := hrel
    have c5 := Hr.out.cell 0 5 rfl (v := .slice ua f.len uc) rfl
    by_cases hlt : i < f.len
    · have i1 : (i : Int) < (f.len : Int) := by omega
      have hbw := Hr.out.below
      obtain ⟨b, c, y, hub, hld, T⟩ := kid_at (owns8_below ho.out hbw) (hk.out.below hbw) hlt
      cases hub
      have hlen : Bi.length = s.size + 1 := by have := hBi.out.2.2.len; rw [bys_len] at this; exact this
      have hcall := hide (ih.out i hlt wr y u7 Bi T hlen hBi.out.1)
      replace hld := hide hld
      have hltH := hide hlt
      replace T := hide T
      clear hbw hlen
      go_wp2_with (first | ((with_reducible refine at_load 25 ?_); refine wl_loadV0 25 rfl (ld26 c5) ?_) | ((with_reducible refine at_load 27 ?_); refine wl_loadV0 27 rfl hld.out ?_))
      refine hcall.out.mono ?_
      rintro e w5 ⟨B5, v', B', rfl, hv', hnw, hR'⟩
      have H5 := hide (Hr.out.call B5 (Nat.le_refl _))
      have hB5 : Hid (Bo w5 v' B' ∧ (∀ k, v'.ownBlock = some k → w.heap.size ≤ k ∨ v.ownBlock = some k) ∧ Rel (sqM (f.mes.take (i + 1))) (bys s) B B') := ⟨hv', fun k e => by
        rcases hnw k e with h | h
        · exact .inl (by have := Hr.out.below.size; omega)
        · exact hBi.out.2.1 k h, (hBi.out.2.2.cat hR').congr (fun u => by rw [mes_take hltH.out, sqM_snoc])⟩
      clear B5 hv' hR' hnw
      go_wp2_with fail
      go_roundw
      case rel => exact ⟨i + 1, B', by go_num, hltH.out, H5, hB5⟩
      case measure => have := hltH.out; simp [RowKit.intOf]; omega
    · obtain rfl : i = f.len := by omega
      have hB6 := hBi.out.2.2
      rw [mes_all] at hB6
      replace hB6 := hide hB6
      go_wp2_with (first | ((with_reducible refine at_load 25 ?_); refine wl_loadV0 25 rfl (ld26 c5) ?_))
      go_ret
      exact ⟨Hr.out.below, u7, Bi, rfl, hBi.out.1, hBi.out.2.1, hB6.out⟩
/-- The first k of two rows are put together. -/
def mixB (k : Nat) (a b : List Bool) : List Bool := (List.range a.length).map (fun j => if j < k then (a.getD j false || b.getD j false) else a.getD j false)
theorem mixB_len (k : Nat) (a b : List Bool) : (mixB k a b).length = a.length := by simp [mixB]
theorem mixB_zero (a b : List Bool) : mixB 0 a b = a := by
  apply List.ext_getElem?
  intro j
  by_cases hj : j < a.length
  · simp [mixB, hj, List.getD_eq_getElem?_getD]
  · rw [List.getElem?_eq_none (by simp [mixB]; omega), List.getElem?_eq_none (by omega)]
theorem mixB_all (a b : List Bool) : mixB a.length a b = orB a b := by
  unfold mixB orB
  apply List.map_congr_left
  intro j hj
  rw [if_pos (List.mem_range.1 hj)]
theorem mixB_at {k : Nat} {a b : List Bool} (h : k < a.length) : (mixB k a b)[k]? = some (a.getD k false) := by simp [mixB, h]
theorem mixB_set {k : Nat} {a b : List Bool} (h : k < a.length) : (mixB k a b).set k (a.getD k false || b.getD k false) = mixB (k + 1) a b := by
  apply List.ext_getElem?
  intro j
  rw [List.getElem?_set]
  by_cases e : k = j
  · subst e
    rw [if_pos rfl, if_pos (by rw [mixB_len]; exact h)]
    simp [mixB, h]
  · rw [if_neg e]
    by_cases hj : j < a.length
    · simp only [mixB, List.getElem?_map, List.getElem?_range hj, Option.map_some]
      by_cases h1 : j < k
      · rw [if_pos h1, if_pos (by omega)]
      · rw [if_neg h1, if_neg (by omega)]
    · rw [List.getElem?_eq_none (by rw [mixB_len]; omega), List.getElem?_eq_none (by rw [mixB_len]; omega)]
set_option maxHeartbeats 4000000 in
set_option maxRecDepth 100000 in
theorem reach_3 (s : ByteArray) (hs : s.size ≤ 1000) (P : Nat → Prop) (f : Fo) (hf : f.len ≤ 10000) (ih : RcK s P f) (x : S4) (mn mx : Int) (u : Value) (zs : List Value) (v : Value) (B : List Bool) (hB : B.length = s.size + 1) (w : World) (ho : w.ownsRow 0 27 8 u f.len zs) (hk : Kd w P f zs) (hv : Bo w v B) : Calls Tryd.prog 34 #[reV 3 x u mn mx, .string s, v] w (RchP (orM f.mes) s B v w) := by
  obtain ⟨n1, hn1⟩ : ∃ n1 : Nat, n1 = s.size + 1 := ⟨_, rfl⟩
  have e1 : (s.size : Int) + 1 = (n1 : Int) := by omega
  have hn2 : n1 ≤ 1000000 := by omega
  have H := St.start Nope w
  obtain ⟨ua, uc, hu, _, _⟩ := owns8_val ho
  subst hu
  have hvl : Hid (∀ k, v.ownBlock = some k → k < w.heap.size) := fun k e => by
    obtain ⟨g, c, cur, t, fr, rfl, h1, _⟩ := hv
    cases e
    exact (Array.getElem?_eq_some_iff.1 h1).1
  replace ih := hide ih
  replace hB := hide hB
  replace hn1 := hide hn1
  replace ho := hide ho
  replace hk := hide hk
  replace hv := hide hv
  go_enter Tryd.func34, Tryd.ntmps34
  go_wp2_with (first | ((with_reducible refine at_box 27 ?_); refine wl_box28 H rfl ?_; clear H; intro g3 w1 H q1 q2) | ((with_reducible refine at_make2 68 ?_); refine wl_make68 H hn2 rfl rfl ?_; clear H; intro go w2 H q3 q4; have c0 := H.cell 1 0 rfl (v := .int .i64 3) rfl))
  have HL : Hid (St Nope w w2 [(true, go, 4, bolA (List.replicate n1 false)), (true, g3, 27, reA 3 x (.slice ua f.len uc) mn mx)]) := H
  clear H c0
  go_loopw [10] (fun iv wr => ∃ (i : Nat) (Bi : List Bool), iv = .int .i64 ((i : Nat) : Int) ∧ i ≤ f.len ∧ Hid (St Nope w wr [(true, go, 4, bolA Bi), (true, g3, 27, reA 3 x (.slice ua f.len uc) mn mx)]) ∧ Hid (Rel (orM (f.mes.take i)) (bys s) B Bi)) (fun iv _ => f.len - (RowKit.intOf iv).toNat)
  case atStart => exact ⟨0, _, rfl, Nat.zero_le _, HL, ⟨by rw [List.length_replicate, bys_len]; exact hn1.out, fun j hj => ⟨fun h => (by rw [List.getElem?_replicate] at h; split at h <;> cases h), fun ⟨i, _, _, M, hM, _⟩ => by simp at hM⟩⟩⟩
  case round =>
    obtain ⟨i, Bi, rfl, hi, Hr, hBi⟩ := hrel
    have c5 := Hr.out.cell 1 5 rfl (v := .slice ua f.len uc) rfl
    by_cases hlt : i < f.len
    · have i1 : (i : Int) < (f.len : Int) := by omega
      have hbw := Hr.out.below
      obtain ⟨b, c, y, hub, hld, T⟩ := kid_at (owns8_below ho.out hbw) (hk.out.below hbw) hlt
      cases hub
      have hcall := hide (ih.out i hlt wr y v B T hB.out (hv.out.below hbw))
      replace hld := hide hld
      have hltH := hide hlt
      replace T := hide T
      clear hbw
      go_wp2_with (first | ((with_reducible refine at_load 25 ?_); refine wl_loadV0 25 rfl (ld26 c5) ?_) | ((with_reducible refine at_load 27 ?_); refine wl_loadV0 27 rfl hld.out ?_))
      refine hcall.out.mono ?_
      rintro e w5 ⟨B5, v', B', rfl, hv', hnw, hR'⟩
      obtain ⟨gx, cX, curX, tX, frX, rfl, hgx, hcX⟩ := hv'
      have H5 := hide (Hr.out.call B5 (Nat.le_refl _))
      have hlB : B'.length = n1 := by rw [hR'.len, bys_len]; exact hn1.out.symm
      have hlBi : Bi.length = n1 := by rw [hBi.out.len, bys_len]; exact hn1.out.symm
      have lgo := Hr.out.lti 0 rfl
      have hxo : gx ≠ go := by
        rcases hnw gx rfl with h | h
        · omega
        · have := hvl.out gx h; omega
      rw [hlB]
      replace hgx := hide hgx
      replace hcX := hide hcX
      replace hR' := hide hR'
      replace hlB := hide hlB
      replace hlBi := hide hlBi
      clear B5 hnw
      have hm0 : Hid (St Nope w w5 [(true, go, 4, bolA (mixB 0 Bi B')), (true, g3, 27, reA 3 x (.slice (some ⟨b, 0, none⟩) f.len uc) mn mx)]) := by rw [mixB_zero]; exact H5
      go_wp2_with fail
      go_loopw [12] (fun kv wk => ∃ k : Nat, kv = .int .i64 ((k : Nat) : Int) ∧ k ≤ n1 ∧ Hid (St Nope w wk [(true, go, 4, bolA (mixB k Bi B')), (true, g3, 27, reA 3 x (.slice (some ⟨b, 0, none⟩) f.len uc) mn mx)]) ∧ Hid (wk.heap[gx]? = some (.cells curX tX frX))) (fun kv _ => n1 - (RowKit.intOf kv).toNat)
      case atStart => exact ⟨0, rfl, Nat.zero_le _, hm0, hgx⟩
      case round =>
        obtain ⟨k, rfl, hk1, Hk, hgk⟩ := hrel
        by_cases hkl : k < n1
        · have hn1o := hn1.out
          have j1 : (k : Int) ≤ (s.size : Int) := by omega
          have j2 : (k : Int) < (n1 : Int) := by omega
          have hka : k < Bi.length := by rw [hlBi.out]; exact hkl
          have cO : wr.cell? ⟨go, k, none⟩ = some (.bool (Bi.getD k false)) := Hk.out.cell 0 k rfl (bolA_at (mixB_at hka))
          have fO := Hk.out.fz 0 k rfl
          have hbx : B'[k]? = some (B'.getD k false) := by
            have : k < B'.length := by rw [hlB.out]; exact hkl
            rw [List.getD_eq_getElem?_getD, List.getElem?_eq_getElem this]; rfl
          have cX1 : wr.cell? ⟨gx, k, none⟩ = some (.bool (B'.getD k false)) := by rw [cell_of_row wr gx _ _ tX frX hgk.out]; exact hcX.out k _ hbx
          have H9 := st_setB Hk.out k (Bi.getD k false || B'.getD k false)
          rw [mixB_set hka] at H9
          have hg9 : ∀ vv, (wr.setCell ⟨go, k, none⟩ vv).heap[gx]? = some (.cells curX tX frX) := fun vv => (Below.heap_setCell wr ⟨go, k, none⟩ vv gx hxo).trans hgk.out
          generalize Bi.getD k false = ba at cO H9
          generalize B'.getD k false = bb at cX1 H9 hbx
          replace hbx := hide hbx
          replace hg9 := hide hg9
          have hklH := hide hkl
          clear hka hn1o
          cases ba with
          | true =>
            rw [Bool.true_or] at H9
            replace H9 := hide H9
            go_wp2_with fail
            go_roundw
            case rel => exact ⟨k + 1, by go_num, hklH.out, H9, hg9.out _⟩
            case measure => have := hklH.out; simp [RowKit.intOf]; omega
          | false =>
            rw [Bool.false_or] at H9
            replace H9 := hide H9
            go_wp2_with fail
            go_roundw
            case rel => exact ⟨k + 1, by go_num, hklH.out, H9, hg9.out _⟩
            case measure => have := hklH.out; simp [RowKit.intOf]; omega
        · obtain rfl : n1 = k := by omega
          have hn1o := hn1.out
          have j1 : ¬ ((n1 : Int) ≤ (s.size : Int)) := by omega
          clear hn1o
          have Hk2 := Hk.out
          have hmx : mixB n1 Bi B' = orB Bi B' := by rw [← hlBi.out]; exact mixB_all Bi B'
          rw [hmx] at Hk2
          replace Hk2 := hide Hk2
          have hB7 : Hid (Rel (orM (f.mes.take (i + 1))) (bys s) B (orB Bi B')) := (hBi.out.or hR'.out).congr (fun u => by rw [mes_take hltH.out, orM_snoc])
          replace hmx := hide hmx
          go_wp2_with fail
          go_roundw
          case rel => exact ⟨i + 1, _, by go_num, hltH.out, Hk2, hB7⟩
          case measure => have := hltH.out; simp [RowKit.intOf]; omega
    · obtain rfl : i = f.len := by omega
      have hB6 := hBi.out
      rw [mes_all] at hB6
      replace hB6 := hide hB6
      go_wp2_with (first | ((with_reducible refine at_load 25 ?_); refine wl_loadV0 25 rfl (ld26 c5) ?_))
      go_ret
      refine ⟨Hr.out.below, _, Bi, rfl, ⟨go, n1, bolA Bi, 4, (0, 0), by rw [hBi.out.len, bys_len, ← hn1.out]; rfl, Hr.out.get 0 rfl, fun i b h => bolA_at h⟩, fun k e => .inl (by cases e; exact q3), hB6.out⟩
end Go.Proofs.YthgdfgkjaepchaaDoor
namespace Go.Proofs.YthgdfgkjaepchaaDoor
open Go.RowKit
set_option linter.unusedVariables false
set_option linter.unusedSimpArgs false

/-- Cells that begin with these bools. -/
def Cb (cur : Array Value) (B : List Bool) : Prop := ∀ (i : Nat) (b : Bool), B[i]? = some b → cur[i]? = some (Value.bool b)
theorem Cb.set {cur : Array Value} {B : List Bool} (h : Cb cur B) {k : Nat} (hk : k < B.length) (b : Bool) : Cb (cur.setIfInBounds k (.bool b)) (B.set k b) := fun i c hi => by
  have h1 := h k _ (List.getElem?_eq_getElem hk)
  have hl := (Array.getElem?_eq_some_iff.1 h1).1
  rw [List.getElem?_set] at hi
  by_cases e : k = i
  · subst e
    rw [if_pos rfl, if_pos hk] at hi
    cases hi
    simp [hl]
  · rw [if_neg e] at hi
    rw [Array.getElem?_setIfInBounds_ne e]
    exact h i c hi
theorem Bo.same {w w' : World} {v : Value} {B : List Bool} (h : Bo w v B) (hk : ∀ k, v.ownBlock = some k → w'.heap[k]? = w.heap[k]?) : Bo w' v B := by
  obtain ⟨g, c, cur, t, fr, rfl, h1, h2⟩ := h
  exact ⟨g, c, cur, t, fr, rfl, (hk g rfl).trans h1, h2⟩
section
variable {S : Nat → Prop} {w0 w w' : World} {L : List Ent} {ops : Array Oper} {rest : List Oper} {a : Act} {Q : Exit → Act → World → Prop} {dst : Option Nat} {x y s : Operand} {ty : TypeId} {pos : String} {after : Array Edge}
theorem at_bsB (t : TypeId) {n : Nat} {ps : Array (Nat × Operand)} (h : wpList Tryd.prog ops Q (⟨dst, .buildSlice t n ps, ty, pos, after, none⟩ :: rest) a w) : wpList Tryd.prog ops Q (⟨dst, .buildSlice t n ps, ty, pos, after, none⟩ :: rest) a w := h
theorem wl_bs0 (H : St S w0 w L) (k : ∀ g w2, St S w0 w2 ((true, g, 4, #[]) :: L) → w0.heap.size ≤ g → w.heap.size ≤ g → Below w.heap.size w w2 → wpList Tryd.prog ops Q rest (a.put dst (.slice (some ⟨g, 0, none⟩) 0 0)) w2) : wpList Tryd.prog ops Q (⟨dst, .buildSlice 68 0 #[], ty, pos, after, none⟩ :: rest) a w := by
  have e : (execOp a.eval ⟨dst, .buildSlice 68 0 #[], ty, pos, after, none⟩).run Tryd.prog w = .ok (.value (.slice (some ⟨w.heap.size, 0, none⟩) 0 0)) (w.alloc (.cells #[] 4)) := by
    unfold execOp
    kernel_rfl
  exact wl_val e (k _ _ (H.alloc 4 #[]) H.but.size (Nat.le_refl _) ((Below.refl _ w).alloc (Nat.le_refl _) _))
theorem at_appB (t : TypeId) (h : wpList Tryd.prog ops Q (⟨dst, .call { callee := .builtin .append, args := #[s, x], argTypes := #[t, t] }, ty, pos, after, none⟩ :: rest) a w) : wpList Tryd.prog ops Q (⟨dst, .call { callee := .builtin .append, args := #[s, x], argTypes := #[t, t] }, ty, pos, after, none⟩ :: rest) a w := h
theorem wl_app68 {g0 : Nat} {vx : Value} {B : List Bool} (H : St S w0 w ((true, g0, 4, #[]) :: L)) (hB : Bo w vx B) (hl : B.length ≤ 1000000) (h0 : w0.heap.size ≤ g0) (hs : a.eval s = .slice (some ⟨g0, 0, none⟩) 0 0) (hx : a.eval x = vx)
    (k : ∀ g' c' cur' w2, St S w0 w2 ((true, g', 4, cur') :: L) → Cb cur' B → g0 ≤ g' → (∀ k, k < w.heap.size → k ≠ g0 → w2.heap[k]? = w.heap[k]?) → wpList Tryd.prog ops Q rest (a.put dst (.slice (some ⟨g', 0, none⟩) B.length c')) w2) :
    wpList Tryd.prog ops Q (⟨dst, .call { callee := .builtin .append, args := #[s, x], argTypes := #[68, 68] }, ty, pos, after, none⟩ :: rest) a w := by
  obtain ⟨i, hi, hz, hs1, hby⟩ := info4
  obtain ⟨ga, c, cur, t, fr, rfl, hga, hcur⟩ := hB
  have hg0 := H.get 0 rfl
  have lg0 := H.lti 0 rfl
  have ho : w.ownsRow 0 4 1 (.slice (some ⟨g0, 0, none⟩) 0 0) 0 [] := ⟨rfl, .inr ⟨g0, 0, #[], rfl, Nat.zero_le _, hg0, Nat.le_refl _, Nat.zero_le _, rfl, rfl⟩⟩
  obtain ⟨v', w2, r1, r2, r3, _, r5⟩ := run_append_own_at (P := Tryd.prog) w 0 68 ty 4 i (.bool false) 1 1 Tryd.underlying68 hi hz hs1 hby rfl (by decide) _ 0 [] ho ⟨ga, 0, none⟩ B.length c (B.map Value.bool) (by simp) (fun j u hj => by
    rw [add_plain, Nat.zero_add, cell_of_row w ga _ _ t fr hga]
    rw [List.getElem?_map] at hj
    cases hq : B[j]? with
    | none => rw [hq] at hj; cases hj
    | some b => rw [hq] at hj; cases hj; exact hcur j b hq) (fun u hu => by
    obtain ⟨b, _, rfl⟩ := List.mem_map.1 hu
    rfl) (by unfold maxLen; omega) (by omega) (Nat.zero_le _)
  have hrun : (execOp a.eval ⟨dst, .call { callee := .builtin .append, args := #[s, x], argTypes := #[68, 68] }, ty, pos, after, none⟩).run Tryd.prog w = .ok (.value v') w2 := by
    simp [execOp, resolve, invoke, builtin, hs, hx, r1, Result.andThen]
  refine wl_val hrun ?_
  have hH := H.tail.grown r3 (fun kk e => ⟨fun z hz => by
    cases e
    have := H.nd
    rw [List.map_cons, List.nodup_cons] at this
    exact fun e2 => this.1 (List.mem_map.2 ⟨z, hz, e2⟩), fun hl => by cases e; exact absurd hl (show ¬ g0 < w0.heap.size by omega)⟩)
  have hex : ∃ g' c' cur', v' = .slice (some ⟨g', 0, none⟩) B.length c' ∧ w2.heap[g']? = some (.cells cur' 4 (0, 0)) ∧ Cb cur' B := by
    have hr2 := r2.2
    rw [Nat.zero_add] at hr2
    rcases hr2 with ⟨rfl, hn⟩ | ⟨g', c', cur', rfl, _, q2, _, _, _, q6⟩
    · rcases r5 with h | h <;> cases h
    · refine ⟨g', c', cur', rfl, q2, fun j b hj => ?_⟩
      have hjl := (List.getElem?_eq_some_iff.1 hj).1
      have h1 : (cur'.toList.take (B.length * 1))[j]? = some (.bool b) := by
        rw [q6, List.nil_append, List.getElem?_map, hj]; rfl
      rw [List.getElem?_take_of_lt (by omega)] at h1
      simpa using h1
  obtain ⟨g', c', cur', rfl, q2, hC⟩ := hex
  have hgg : g' = g0 ∨ g' = w.heap.size := by
    rcases r5 with h | h
    · cases h; exact .inl rfl
    · cases h; exact .inr rfl
  have hnd := H.nd
  rw [List.map_cons, List.nodup_cons] at hnd
  refine k g' c' cur' w2 ⟨hH.but, fun z hz => ?_, fun z hz hr hlt => ?_, ?_⟩ hC (by omega) (fun k hk hn => r3.block k hk (fun e => hn (by cases e; rfl)))
  · rcases List.mem_cons.1 hz with rfl | hz
    · exact q2
    · exact hH.all z hz
  · rcases List.mem_cons.1 hz with rfl | hz
    · simp only at hlt; have := H.but.size; omega
    · exact hH.ok z hz hr hlt
  · rw [List.map_cons, List.nodup_cons]
    refine ⟨fun h => ?_, hnd.2⟩
    rcases hgg with e | e
    · subst e; exact hnd.1 h
    · obtain ⟨z, hz, e2⟩ := List.mem_map.1 h
      have := H.lt (List.mem_cons_of_mem _ hz)
      simp only at e2
      omega
end
end Go.Proofs.YthgdfgkjaepchaaDoor
namespace Go.Proofs.YthgdfgkjaepchaaDoor
open Go.RowKit
set_option linter.unusedVariables false
set_option linter.unusedSimpArgs false

/-- Is there, among the first k, one that is new? -/
def frs (k : Nat) (a b : List Bool) : Bool := (List.range k).any (fun j => b.getD j false && !a.getD j false)
theorem frs_succ (k : Nat) (a b : List Bool) : frs (k + 1) a b = (frs k a b || (b.getD k false && !a.getD k false)) := by
  unfold frs
  rw [List.range_succ, List.any_append]
  simp
theorem frs_no {k : Nat} {a b : List Bool} (h : frs k a b = false) : ∀ j, j < k → b[j]? = some true → a[j]? = some true := fun j hj hb => by
  unfold frs at h
  rw [List.any_eq_false] at h
  have := h j (List.mem_range.2 hj)
  rw [← getD_true] at hb ⊢
  rw [hb] at this
  simpa using this
theorem frs_yes {k : Nat} {a b : List Bool} (h : frs k a b = true) : ∃ j, j < k ∧ b[j]? = some true ∧ a[j]? ≠ some true := by
  unfold frs at h
  obtain ⟨j, hj, h2⟩ := List.any_eq_true.1 h
  rw [Bool.and_eq_true] at h2
  refine ⟨j, List.mem_range.1 hj, getD_true.1 h2.1, fun e => ?_⟩
  rw [← getD_true] at e
  rw [e] at h2
  cases h2.2
theorem Rel.same {M : Lg} {s : List Nat} {A B C : List Bool} (h : Rel M s A B) (hl : C.length = B.length) (e : ∀ j, j ≤ s.length → (C[j]? = some true ↔ B[j]? = some true)) : Rel M s A C := ⟨hl.trans h.len, fun j hj => (e j hj).trans (h.iff j hj)⟩
section
variable {S : Nat → Prop} {w0 w w' : World} {L : List Ent} {ops : Array Oper} {rest : List Oper} {a : Act} {Q : Exit → Act → World → Prop} {dst : Option Nat} {x y s : Operand} {ty : TypeId} {pos : String} {after : Array Edge}
theorem wl_app68n {g0 n : Nat} {vx : Value} {B : List Bool} (H : St S w0 w ((true, g0, 4, #[]) :: L)) (hB : Bo w vx B) (hn : B.length = n) (hl : n ≤ 1000000) (h0 : w0.heap.size ≤ g0) (hs : a.eval s = .slice (some ⟨g0, 0, none⟩) 0 0) (hx : a.eval x = vx)
    (k : ∀ g' c' cur' w2, St S w0 w2 ((true, g', 4, cur') :: L) → Cb cur' B → g0 ≤ g' → (∀ k, k < w.heap.size → k ≠ g0 → w2.heap[k]? = w.heap[k]?) → wpList Tryd.prog ops Q rest (a.put dst (.slice (some ⟨g', 0, none⟩) n c')) w2) :
    wpList Tryd.prog ops Q (⟨dst, .call { callee := .builtin .append, args := #[s, x], argTypes := #[68, 68] }, ty, pos, after, none⟩ :: rest) a w := by
  subst hn
  exact wl_app68 H hB hl h0 hs hx k
end
/-- What Reach of a repeated pattern has between two rounds. -/
structure R4 (M : Lg) (s : List Nat) (B : List Bool) (mn i : Nat) (go : Nat) (v : Value) (Bn Bo' : List Bool) (cur : Array Value) (w : World) : Prop where
  bo : Bo w v Bn
  own : ∀ k, v.ownBlock = some k → k ≠ go
  now : Rel (powM M (mn + i)) s B Bn
  out : Rel (upM M mn (mn + i)) s B Bo'
  cb : Cb cur Bo'
  cnt : i ≤ Bo'.count true
theorem R4.fin {M : Lg} {s : List Nat} {B : List Bool} {mn i go : Nat} {v : Value} {Bn Bo' : List Bool} {cur : Array Value} {w : World} (h : R4 M s B mn i go v Bn Bo' cur w) {mx : Int} (hm : mx = -1 ∨ (mn : Int) ≤ mx) (hi : (mx = -1 ∧ i = s.length + 1) ∨ (0 ≤ mx ∧ (i : Int) = mx - (mn : Int))) : Rel (repM M mn mx) s B Bo' := by
  rcases hi with ⟨rfl, hi⟩ | ⟨h0, hi⟩
  · exact Rel.full h.out (by have := h.cnt; omega)
  · have e : mn + i = mx.toNat := by omega
    have := h.out
    rw [e] at this
    exact this.congr (upM_rep M mn mx (by omega))
set_option maxHeartbeats 16000000 in
set_option maxRecDepth 100000 in
theorem reach_4 (s : ByteArray) (hs : s.size ≤ 1000) (P : Nat → Prop) (f : Fo) (hf : f.len = 1) (ih : RcK s P f) (x : S4) (mn : Nat) (mx : Int) (hmn : mn ≤ 64) (hmx : mx = -1 ∨ ((mn : Int) ≤ mx ∧ mx ≤ 64)) (u : Value) (zs : List Value) (v : Value) (B : List Bool) (hB : B.length = s.size + 1) (w : World) (ho : w.ownsRow 0 27 8 u f.len zs) (hk : Kd w P f zs) (hv : Bo w v B) : Calls Tryd.prog 34 #[reV 4 x u (mn : Int) mx, .string s, v] w (RchP (repM (meT (f.nth 0)) mn mx) s B v w) := by
  obtain ⟨n1, hn1⟩ : ∃ n1 : Nat, n1 = s.size + 1 := ⟨_, rfl⟩
  have e1 : (s.size : Int) + 1 = (n1 : Int) := by omega
  have hn2 : n1 ≤ 1000000 := by omega
  have H := St.start Nope w
  obtain ⟨ua, uc, hu, _, _⟩ := owns8_val ho
  subst hu
  have hvl : Hid (∀ k, v.ownBlock = some k → k < w.heap.size) := fun k e => by
    obtain ⟨g, c, cur, t, fr, rfl, h1, _⟩ := hv
    cases e
    exact (Array.getElem?_eq_some_iff.1 h1).1
  obtain ⟨M, hM⟩ : ∃ M, M = meT (f.nth 0) := ⟨_, rfl⟩
  rw [← hM]
  have call0 : Hid (∀ (w' : World) (v' : Value) (B' : List Bool), Below w.heap.size w w' → B'.length = s.size + 1 → Bo w' v' B' → ∃ b y, ua = some ⟨b, 0, none⟩ ∧ (loadVar 27 ⟨b, 0, none⟩).run Tryd.prog w' = .ok y w' ∧ Calls Tryd.prog 34 #[y, .string s, v'] w' (RchP M s B' v' w')) := fun w' v' B' hb hl hbo => by
    obtain ⟨b, c, y, hub, hld, T⟩ := kid_at (owns8_below ho hb) (hk.below hb) (i := 0) (by omega)
    cases hub
    rw [Nat.zero_mul] at hld
    rw [hM]
    exact ⟨b, y, rfl, hld, ih 0 (by omega) w' y v' B' T hl hbo⟩
  obtain ⟨b, hub⟩ : ∃ b, ua = some ⟨b, 0, none⟩ := by
    obtain ⟨b, _, h, _⟩ := call0.out w v B (Below.refl _ _) hB hv
    exact ⟨b, h⟩
  subst hub
  rw [hf]
  replace ih := hide ih
  replace hB := hide hB
  replace hn1 := hide hn1
  replace ho := hide ho
  replace hk := hide hk
  replace hv := hide hv
  replace hM := hide hM
  have hmxH := hide hmx
  clear hmx hf
  have hmn0 : (0 : Int) ≤ (mn : Int) := by omega
  go_enter Tryd.func34, Tryd.ntmps34
  go_wp2_with (first | ((with_reducible refine at_box 27 ?_); refine wl_box28 H rfl ?_; clear H; intro g3 w1 H q1 q2) | ((with_reducible refine at_make2 68 ?_); refine wl_make68 H hn2 rfl rfl ?_; clear H; intro go0 w2 H q3 q4; have c0 := H.cell 1 0 rfl (v := .int .i64 4) rfl))
  have HL : Hid (St Nope w w2 [(true, g3, 27, reA 4 x (.slice (some ⟨b, 0, none⟩) 1 uc) (mn : Int) mx)]) := H.tail
  clear H c0
  have hv2 : Hid (Bo w2 v B) := hv.out.below HL.out.below
  go_loopw [13, 14] (fun v13 iv wr => ∃ (i : Nat) (Bi : List Bool), iv = .int .i64 ((i : Nat) : Int) ∧ i ≤ mn ∧ Hid (St Nope w wr [(true, g3, 27, reA 4 x (.slice (some ⟨b, 0, none⟩) 1 uc) (mn : Int) mx)]) ∧ Hid (Bo wr v13 Bi ∧ Rel (powM M i) (bys s) B Bi)) (fun _ iv _ => mn - (RowKit.intOf iv).toNat)
  case atStart => exact ⟨0, B, rfl, Nat.zero_le _, HL, ⟨hv2.out, Rel.eps (by rw [hB.out, bys_len])⟩⟩
  case round =>
    obtain ⟨i, Bi, rfl, hi, Hr, hBi⟩ := hrel
    have c5 := Hr.out.cell 0 5 rfl (v := .slice (some ⟨b, 0, none⟩) 1 uc) rfl
    have c6 := Hr.out.cell 0 6 rfl (v := .int .i64 (mn : Int)) rfl
    have c7 := Hr.out.cell 0 7 rfl (v := .int .i64 mx) rfl
    by_cases hlt : i < mn
    · have i1 : (i : Int) < (mn : Int) := by omega
      have hlen : Bi.length = s.size + 1 := by have := hBi.out.2.len; rw [bys_len] at this; exact this
      obtain ⟨b', y, hb', hld, hcall⟩ := call0.out wr u13 Bi Hr.out.below hlen hBi.out.1
      cases hb'
      replace hld := hide hld
      replace hcall := hide hcall
      have hltH := hide hlt
      clear hlen
      go_wp2_with (first | ((with_reducible refine at_load 25 ?_); refine wl_loadV0 25 rfl (ld26 c5) ?_) | ((with_reducible refine at_load 27 ?_); refine wl_loadV0 27 rfl hld.out ?_))
      refine hcall.out.mono ?_
      rintro e w5 ⟨B5, v', B', rfl, hv', hnw, hR'⟩
      have H5 := hide (Hr.out.call B5 (Nat.le_refl _))
      have hB5 : Hid (Bo w5 v' B' ∧ Rel (powM M (i + 1)) (bys s) B B') := ⟨hv', hBi.out.2.pow1 hR'⟩
      clear B5 hv' hR' hnw
      go_wp2_with fail
      go_roundw
      case rel => exact ⟨i + 1, B', by go_num, hltH.out, H5, hB5⟩
      case measure => have := hltH.out; simp [RowKit.intOf]; omega
    · obtain rfl : mn = i := by omega
      have hlBi0 : Bi.length = n1 := by rw [hBi.out.2.len, bys_len]; exact hn1.out.symm
      have hub2 : Hid (∀ k, u13.ownBlock = some k → k < wr.heap.size) := fun k e => by
        obtain ⟨g, c, cur, t, fr, he, h1, _⟩ := hBi.out.1
        rw [he] at e
        cases e
        exact (Array.getElem?_eq_some_iff.1 h1).1
      have H := Hr.out
      replace hlBi0 := hide hlBi0
      by_cases hneg : mx = -1
      · obtain ⟨d0, hd0⟩ : ∃ d0 : Int, mx - (mn : Int) = d0 := ⟨_, rfl⟩
        have hlt0 : mx < 0 := by omega
        have hnegH := hide hneg
        have hd1 : wrap64 d0 = d0 := by unfold wrap64; omega
        have hd2 : IntKind.i64.wrap d0 = d0 := by rw [IntKind.wrap_i64]; omega
        clear hneg
        go_wp2_with (first | ((with_reducible refine at_bsB 68 ?_); refine wl_bs0 H ?_; clear H; intro g0 w4 H q5 q6 B4; have hbo4 : Hid (Bo w4 u13 Bi) := hBi.out.1.below B4; have hs4 := B4.size; clear B4; have c64 := H.cell 1 6 rfl (v := .int .i64 (mn : Int)) rfl; have c74 := H.cell 1 7 rfl (v := .int .i64 mx) rfl) | ((with_reducible refine at_appB 68 ?_); refine wl_app68n H hbo4.out hlBi0.out hn2 q5 rfl rfl ?_; clear H c64 c74; intro go c6' cur0 w6 H hCb0 hgo0 hkp6; have hbo6 : Hid (Bo w6 u13 Bi) := hbo4.out.same (fun k e => hkp6 k (by clear hd1 hd2; have := hub2.out k e; omega) (by clear hd1 hd2; have := hub2.out k e; omega)); clear hkp6; have c66 := H.cell 1 6 rfl (v := .int .i64 (mn : Int)) rfl; have c76 := H.cell 1 7 rfl (v := .int .i64 mx) rfl))
        have H7 := hide H
        have hgo : w.heap.size ≤ go := by clear hd1 hd2; omega
        have R0 : Hid (R4 M (bys s) B mn 0 go u13 Bi Bi cur0 w6) := ⟨hbo6.out, fun k e => by clear hd1 hd2; have := hub2.out k e; omega, hBi.out.2, hBi.out.2.congr (upM_one M mn), hCb0, Nat.zero_le _⟩
        clear H c66 c76 hd1 hd2
        go_loopw [13, 16] (fun v13 iv wr => ∃ (i : Nat) (Bn Bx : List Bool) (cur : Array Value), iv = .int .i64 ((i : Nat) : Int) ∧ i ≤ n1 ∧ Hid (St Nope w wr [(true, go, 4, cur), (true, g3, 27, reA 4 x (.slice (some ⟨b, 0, none⟩) 1 uc) (mn : Int) mx)]) ∧ Hid (R4 M (bys s) B mn i go v13 Bn Bx cur wr)) (fun _ iv _ => n1 - (RowKit.intOf iv).toNat)
        case atStart => exact ⟨0, Bi, Bi, cur0, rfl, Nat.zero_le _, H7, R0⟩
        case round =>
          obtain ⟨i, Bn, Bx, cur, rfl, hi, Hr, hR⟩ := hrel
          have c5 := Hr.out.cell 1 5 rfl (v := .slice (some ⟨b, 0, none⟩) 1 uc) rfl
          by_cases hlt : i < n1
          · have i1 : (i : Int) < (n1 : Int) := by omega
            have hlen : Bn.length = s.size + 1 := by have := hR.out.now.len; rw [bys_len] at this; exact this
            obtain ⟨b', y, hb', hld, hcall⟩ := call0.out wr u13 Bn Hr.out.below hlen hR.out.bo
            cases hb'
            have lgo := Hr.out.lti 0 rfl
            replace hld := hide hld
            replace hcall := hide hcall
            have hltH := hide hlt
            clear hlen
            go_wp2_with (first | ((with_reducible refine at_load 25 ?_); refine wl_loadV0 25 rfl (ld26 c5) ?_) | ((with_reducible refine at_load 27 ?_); refine wl_loadV0 27 rfl hld.out ?_))
            refine hcall.out.mono ?_
            rintro e w5 ⟨B5, v', B', rfl, hv', hnw, hR'⟩
            obtain ⟨gx, cX, curX, tX, frX, rfl, hgx, hcX⟩ := hv'
            have H5 := hide (Hr.out.call B5 (Nat.le_refl _))
            have hlB : B'.length = n1 := by rw [hR'.len, bys_len]; exact hn1.out.symm
            have hlBi : Bx.length = n1 := by rw [hR.out.out.len, bys_len]; exact hn1.out.symm
            have hxo : gx ≠ go := by
              rcases hnw gx rfl with h | h
              · omega
              · exact hR.out.own gx h
            rw [hlB]
            replace hgx := hide hgx
            replace hcX := hide hcX
            replace hR' := hide hR'
            replace hlB := hide hlB
            replace hlBi := hide hlBi
            clear B5 hnw
            have hm0 : Hid (Cb cur (mixB 0 Bx B')) := by rw [mixB_zero]; exact hR.out.cb
            have hf0 : frs 0 Bx B' = false := rfl
            go_wp2_with fail
            go_loopw [17, 18] (fun fv kv wk => ∃ (k : Nat) (ck : Array Value), fv = .bool (frs k Bx B') ∧ kv = .int .i64 ((k : Nat) : Int) ∧ k ≤ n1 ∧ Hid (St Nope w wk [(true, go, 4, ck), (true, g3, 27, reA 4 x (.slice (some ⟨b, 0, none⟩) 1 uc) (mn : Int) mx)]) ∧ Hid (Cb ck (mixB k Bx B')) ∧ Hid (wk.heap[gx]? = some (.cells curX tX frX))) (fun _ kv _ => n1 - (RowKit.intOf kv).toNat)
            case atStart => exact ⟨0, cur, rfl, rfl, Nat.zero_le _, H5, hm0, hgx⟩
            case round =>
              obtain ⟨k, ck, rfl, rfl, hk1, Hk, hCk, hgk⟩ := hrel
              by_cases hkl : k < n1
              · have hn1o := hn1.out
                have j1 : (k : Int) ≤ (s.size : Int) := by omega
                have j2 : (k : Int) < (n1 : Int) := by omega
                have hka : k < Bx.length := by rw [hlBi.out]; exact hkl
                have cO : wr.cell? ⟨go, k, none⟩ = some (.bool (Bx.getD k false)) := Hk.out.cell 0 k rfl (hCk.out k _ (mixB_at hka))
                have fO := Hk.out.fz 0 k rfl
                have hbx : B'[k]? = some (B'.getD k false) := by
                  have : k < B'.length := by rw [hlB.out]; exact hkl
                  rw [List.getD_eq_getElem?_getD, List.getElem?_eq_getElem this]; rfl
                have cX1 : wr.cell? ⟨gx, k, none⟩ = some (.bool (B'.getD k false)) := by rw [cell_of_row wr gx _ _ tX frX hgk.out]; exact hcX.out k _ hbx
                have H9 := Hk.out.setCell 0 rfl k (.bool (Bx.getD k false || B'.getD k false))
                have hC9 := hCk.out.set (k := k) (by rw [mixB_len]; exact hka) (Bx.getD k false || B'.getD k false)
                rw [mixB_set hka] at hC9
                have hg9 : ∀ vv, (wr.setCell ⟨go, k, none⟩ vv).heap[gx]? = some (.cells curX tX frX) := fun vv => (Below.heap_setCell wr ⟨go, k, none⟩ vv gx hxo).trans hgk.out
                have hfr := frs_succ k Bx B'
                generalize Bx.getD k false = ba at cO H9 hC9 hfr
                generalize B'.getD k false = bb at cX1 H9 hC9 hbx hfr
                generalize frs k Bx B' = fr at hfr ⊢
                replace hbx := hide hbx
                replace hg9 := hide hg9
                have hklH := hide hkl
                clear hka hn1o
                cases fr with
                | true =>
                  cases ba with
                  | true =>
                    cases bb with
                    | true =>
                      simp only [Bool.or_true, Bool.or_false, Bool.true_or, Bool.false_or, Bool.and_true, Bool.and_false, Bool.true_and, Bool.false_and, Bool.not_true, Bool.not_false] at H9 hC9 hfr
                      replace H9 := hide H9
                      replace hC9 := hide hC9
                      replace hfr := hide hfr
                      go_wp2_with fail
                      go_roundw
                      case rel => exact ⟨k + 1, _, by rw [hfr.out], by go_num, hklH.out, H9, hC9, hg9.out _⟩
                      case measure => have := hklH.out; simp [RowKit.intOf]; omega
                    | false =>
                      simp only [Bool.or_true, Bool.or_false, Bool.true_or, Bool.false_or, Bool.and_true, Bool.and_false, Bool.true_and, Bool.false_and, Bool.not_true, Bool.not_false] at H9 hC9 hfr
                      replace H9 := hide H9
                      replace hC9 := hide hC9
                      replace hfr := hide hfr
                      go_wp2_with fail
                      go_roundw
                      case rel => exact ⟨k + 1, _, by rw [hfr.out], by go_num, hklH.out, H9, hC9, hg9.out _⟩
                      case measure => have := hklH.out; simp [RowKit.intOf]; omega
                  | false =>
                    cases bb with
                    | true =>
                      simp only [Bool.or_true, Bool.or_false, Bool.true_or, Bool.false_or, Bool.and_true, Bool.and_false, Bool.true_and, Bool.false_and, Bool.not_true, Bool.not_false] at H9 hC9 hfr
                      replace H9 := hide H9
                      replace hC9 := hide hC9
                      replace hfr := hide hfr
                      go_wp2_with fail
                      go_roundw
                      case rel => exact ⟨k + 1, _, by rw [hfr.out], by go_num, hklH.out, H9, hC9, hg9.out _⟩
                      case measure => have := hklH.out; simp [RowKit.intOf]; omega
                    | false =>
                      simp only [Bool.or_true, Bool.or_false, Bool.true_or, Bool.false_or, Bool.and_true, Bool.and_false, Bool.true_and, Bool.false_and, Bool.not_true, Bool.not_false] at H9 hC9 hfr
                      replace H9 := hide H9
                      replace hC9 := hide hC9
                      replace hfr := hide hfr
                      go_wp2_with fail
                      go_roundw
                      case rel => exact ⟨k + 1, _, by rw [hfr.out], by go_num, hklH.out, H9, hC9, hg9.out _⟩
                      case measure => have := hklH.out; simp [RowKit.intOf]; omega
                | false =>
                  cases ba with
                  | true =>
                    cases bb with
                    | true =>
                      simp only [Bool.or_true, Bool.or_false, Bool.true_or, Bool.false_or, Bool.and_true, Bool.and_false, Bool.true_and, Bool.false_and, Bool.not_true, Bool.not_false] at H9 hC9 hfr
                      replace H9 := hide H9
                      replace hC9 := hide hC9
                      replace hfr := hide hfr
                      go_wp2_with fail
                      go_roundw
                      case rel => exact ⟨k + 1, _, by rw [hfr.out], by go_num, hklH.out, H9, hC9, hg9.out _⟩
                      case measure => have := hklH.out; simp [RowKit.intOf]; omega
                    | false =>
                      simp only [Bool.or_true, Bool.or_false, Bool.true_or, Bool.false_or, Bool.and_true, Bool.and_false, Bool.true_and, Bool.false_and, Bool.not_true, Bool.not_false] at H9 hC9 hfr
                      replace H9 := hide H9
                      replace hC9 := hide hC9
                      replace hfr := hide hfr
                      go_wp2_with fail
                      go_roundw
                      case rel => exact ⟨k + 1, _, by rw [hfr.out], by go_num, hklH.out, H9, hC9, hg9.out _⟩
                      case measure => have := hklH.out; simp [RowKit.intOf]; omega
                  | false =>
                    cases bb with
                    | true =>
                      simp only [Bool.or_true, Bool.or_false, Bool.true_or, Bool.false_or, Bool.and_true, Bool.and_false, Bool.true_and, Bool.false_and, Bool.not_true, Bool.not_false] at H9 hC9 hfr
                      replace H9 := hide H9
                      replace hC9 := hide hC9
                      replace hfr := hide hfr
                      go_wp2_with fail
                      go_roundw
                      case rel => exact ⟨k + 1, _, by rw [hfr.out], by go_num, hklH.out, H9, hC9, hg9.out _⟩
                      case measure => have := hklH.out; simp [RowKit.intOf]; omega
                    | false =>
                      simp only [Bool.or_true, Bool.or_false, Bool.true_or, Bool.false_or, Bool.and_true, Bool.and_false, Bool.true_and, Bool.false_and, Bool.not_true, Bool.not_false] at H9 hC9 hfr
                      replace H9 := hide H9
                      replace hC9 := hide hC9
                      replace hfr := hide hfr
                      go_wp2_with fail
                      go_roundw
                      case rel => exact ⟨k + 1, _, by rw [hfr.out], by go_num, hklH.out, H9, hC9, hg9.out _⟩
                      case measure => have := hklH.out; simp [RowKit.intOf]; omega
              · obtain rfl : n1 = k := by omega
                have hn1o := hn1.out
                have j1 : ¬ ((n1 : Int) ≤ (s.size : Int)) := by omega
                clear hn1o
                have hCk2 := hCk.out
                have hmx : mixB n1 Bx B' = orB Bx B' := by rw [← hlBi.out]; exact mixB_all Bx B'
                rw [hmx] at hCk2
                replace hCk2 := hide hCk2
                replace hmx := hide hmx
                cases hfv : frs n1 Bx B' with
                | false =>
                  have hfin : Rel (repM M mn mx) (bys s) B (orB Bx B') := by
                    have h1 := hR.out.out.stops (D := []) (by omega) (hR.out.now.pow1 hR'.out) (fun j hj hb => frs_no hfv j (by have := hn1.out; rw [bys_len] at hj; omega) hb) (mx := mx) (.inl hnegH.out) (by have := hmxH.out; omega)
                    refine h1.same (by rw [orB_len]) (fun j hj => ?_)
                    rw [orB_true (by rw [hlBi.out]; have := hn1.out; rw [bys_len] at hj; omega)]
                    exact ⟨fun h => h.elim (fun h => h) (fun h => frs_no hfv j (by have := hn1.out; rw [bys_len] at hj; omega) h), fun h => .inl h⟩
                  replace hfin := hide hfin
                  replace hfv := hide hfv
                  go_wp2_with fail
                  go_ret
                  exact ⟨Hk.out.below, _, orB Bx B', rfl, ⟨go, c6', ck, 4, (0, 0), by rw [orB_len, hlBi.out]; rfl, Hk.out.get 0 rfl, hCk2.out⟩, fun k e => .inl (by cases e; exact hgo), hfin.out⟩
                | true =>
                  have hR9 : Hid (R4 M (bys s) B mn (i + 1) go (.slice (some ⟨gx, 0, none⟩) n1 cX) B' (orB Bx B') ck wr) := ⟨⟨gx, cX, curX, tX, frX, by rw [hlB.out], hgk.out, hcX.out⟩, fun k e => by cases e; exact hxo, hR.out.now.pow1 hR'.out, (hR.out.out.or (hR.out.now.pow1 hR'.out)).congr (upM_succ M mn (mn + i) (by omega)), hCk2.out, by
                    obtain ⟨j, hj, h1, h2⟩ := frs_yes hfv
                    have := count_or (b := []) (a := Bx) (c := orB Bx B') (orB_len _ _) (fun q hq => (orB_true (List.getElem?_eq_some_iff.1 hq).1).2 (.inl hq)) ⟨j, by rw [hlBi.out]; exact hj, (orB_true (by rw [hlBi.out]; exact hj)).2 (.inr h1), h2⟩
                    have := hR.out.cnt
                    omega⟩
                  replace hfv := hide hfv
                  go_wp2_with fail
                  go_roundw
                  case rel => exact ⟨i + 1, B', orB Bx B', ck, by go_num, hltH.out, Hk, hR9⟩
                  case measure => have := hltH.out; simp [RowKit.intOf]; omega
          · obtain rfl : n1 = i := by omega
            have hfin : Hid (Rel (repM M mn mx) (bys s) B Bx) := hR.out.fin (by have := hmxH.out; omega) (.inl ⟨hnegH.out, by rw [bys_len]; exact hn1.out⟩)
            have hlBi : Bx.length = n1 := by rw [hR.out.out.len, bys_len]; exact hn1.out.symm
            replace hlBi := hide hlBi
            go_wp2_with fail
            go_ret
            exact ⟨Hr.out.below, _, Bx, rfl, ⟨go, c6', cur, 4, (0, 0), by rw [hlBi.out]; rfl, Hr.out.get 0 rfl, hR.out.cb⟩, fun k e => .inl (by cases e; exact hgo), hfin.out⟩
      · have hm2 : (mn : Int) ≤ mx ∧ mx ≤ 64 := by have := hmxH.out; omega
        obtain ⟨d0, hd0⟩ : ∃ d0 : Int, mx - (mn : Int) = d0 := ⟨_, rfl⟩
        have hd1 : wrap64 d0 = d0 := by unfold wrap64; omega
        have hd2 : IntKind.i64.wrap d0 = d0 := by rw [IntKind.wrap_i64]; omega
        have hd3 : ¬ (mx < 0) := by clear hd1 hd2; omega
        have hmore0 : Hid (0 ≤ d0 ∧ d0 ≤ 64) := by show 0 ≤ d0 ∧ d0 ≤ 64; clear hd1 hd2; omega
        clear hneg
        replace hm2 := hide hm2
        go_wp2_with (first | ((with_reducible refine at_bsB 68 ?_); refine wl_bs0 H ?_; clear H; intro g0 w4 H q5 q6 B4; have hbo4 : Hid (Bo w4 u13 Bi) := hBi.out.1.below B4; have hs4 := B4.size; clear B4; have c64 := H.cell 1 6 rfl (v := .int .i64 (mn : Int)) rfl; have c74 := H.cell 1 7 rfl (v := .int .i64 mx) rfl) | ((with_reducible refine at_appB 68 ?_); refine wl_app68n H hbo4.out hlBi0.out hn2 q5 rfl rfl ?_; clear H c64 c74; intro go c6' cur0 w6 H hCb0 hgo0 hkp6; have hbo6 : Hid (Bo w6 u13 Bi) := hbo4.out.same (fun k e => hkp6 k (by clear hd1 hd2; have := hub2.out k e; omega) (by clear hd1 hd2; have := hub2.out k e; omega)); clear hkp6; have c66 := H.cell 1 6 rfl (v := .int .i64 (mn : Int)) rfl; have c76 := H.cell 1 7 rfl (v := .int .i64 mx) rfl))
        have H7 := hide H
        have hgo : w.heap.size ≤ go := by clear hd1 hd2; omega
        have R0 : Hid (R4 M (bys s) B mn 0 go u13 Bi Bi cur0 w6) := ⟨hbo6.out, fun k e => by clear hd1 hd2; have := hub2.out k e; omega, hBi.out.2, hBi.out.2.congr (upM_one M mn), hCb0, Nat.zero_le _⟩
        clear hd1 hd2
        obtain ⟨more, hmore⟩ : ∃ more : Nat, d0 = (more : Int) := ⟨d0.toNat, by have := hmore0.out; omega⟩
        subst hmore
        have hmoreH : Hid (mx - (mn : Int) = (more : Int)) := hd0
        have hm64 : more ≤ 64 := by have := hmore0.out; omega
        clear H c66 c76 hd0 hmore0
        go_loopw [13, 16] (fun v13 iv wr => ∃ (i : Nat) (Bn Bx : List Bool) (cur : Array Value), iv = .int .i64 ((i : Nat) : Int) ∧ i ≤ more ∧ Hid (St Nope w wr [(true, go, 4, cur), (true, g3, 27, reA 4 x (.slice (some ⟨b, 0, none⟩) 1 uc) (mn : Int) mx)]) ∧ Hid (R4 M (bys s) B mn i go v13 Bn Bx cur wr)) (fun _ iv _ => more - (RowKit.intOf iv).toNat)
        case atStart => exact ⟨0, Bi, Bi, cur0, rfl, Nat.zero_le _, H7, R0⟩
        case round =>
          obtain ⟨i, Bn, Bx, cur, rfl, hi, Hr, hR⟩ := hrel
          have c5 := Hr.out.cell 1 5 rfl (v := .slice (some ⟨b, 0, none⟩) 1 uc) rfl
          by_cases hlt : i < more
          · have i1 : (i : Int) < (more : Int) := by omega
            have hlen : Bn.length = s.size + 1 := by have := hR.out.now.len; rw [bys_len] at this; exact this
            obtain ⟨b', y, hb', hld, hcall⟩ := call0.out wr u13 Bn Hr.out.below hlen hR.out.bo
            cases hb'
            have lgo := Hr.out.lti 0 rfl
            replace hld := hide hld
            replace hcall := hide hcall
            have hltH := hide hlt
            clear hlen
            go_wp2_with (first | ((with_reducible refine at_load 25 ?_); refine wl_loadV0 25 rfl (ld26 c5) ?_) | ((with_reducible refine at_load 27 ?_); refine wl_loadV0 27 rfl hld.out ?_))
            refine hcall.out.mono ?_
            rintro e w5 ⟨B5, v', B', rfl, hv', hnw, hR'⟩
            obtain ⟨gx, cX, curX, tX, frX, rfl, hgx, hcX⟩ := hv'
            have H5 := hide (Hr.out.call B5 (Nat.le_refl _))
            have hlB : B'.length = n1 := by rw [hR'.len, bys_len]; exact hn1.out.symm
            have hlBi : Bx.length = n1 := by rw [hR.out.out.len, bys_len]; exact hn1.out.symm
            have hxo : gx ≠ go := by
              rcases hnw gx rfl with h | h
              · omega
              · exact hR.out.own gx h
            rw [hlB]
            replace hgx := hide hgx
            replace hcX := hide hcX
            replace hR' := hide hR'
            replace hlB := hide hlB
            replace hlBi := hide hlBi
            clear B5 hnw
            have hm0 : Hid (Cb cur (mixB 0 Bx B')) := by rw [mixB_zero]; exact hR.out.cb
            have hf0 : frs 0 Bx B' = false := rfl
            go_wp2_with fail
            go_loopw [17, 18] (fun fv kv wk => ∃ (k : Nat) (ck : Array Value), fv = .bool (frs k Bx B') ∧ kv = .int .i64 ((k : Nat) : Int) ∧ k ≤ n1 ∧ Hid (St Nope w wk [(true, go, 4, ck), (true, g3, 27, reA 4 x (.slice (some ⟨b, 0, none⟩) 1 uc) (mn : Int) mx)]) ∧ Hid (Cb ck (mixB k Bx B')) ∧ Hid (wk.heap[gx]? = some (.cells curX tX frX))) (fun _ kv _ => n1 - (RowKit.intOf kv).toNat)
            case atStart => exact ⟨0, cur, rfl, rfl, Nat.zero_le _, H5, hm0, hgx⟩
            case round =>
              obtain ⟨k, ck, rfl, rfl, hk1, Hk, hCk, hgk⟩ := hrel
              by_cases hkl : k < n1
              · have hn1o := hn1.out
                have j1 : (k : Int) ≤ (s.size : Int) := by omega
                have j2 : (k : Int) < (n1 : Int) := by omega
                have hka : k < Bx.length := by rw [hlBi.out]; exact hkl
                have cO : wr.cell? ⟨go, k, none⟩ = some (.bool (Bx.getD k false)) := Hk.out.cell 0 k rfl (hCk.out k _ (mixB_at hka))
                have fO := Hk.out.fz 0 k rfl
                have hbx : B'[k]? = some (B'.getD k false) := by
                  have : k < B'.length := by rw [hlB.out]; exact hkl
                  rw [List.getD_eq_getElem?_getD, List.getElem?_eq_getElem this]; rfl
                have cX1 : wr.cell? ⟨gx, k, none⟩ = some (.bool (B'.getD k false)) := by rw [cell_of_row wr gx _ _ tX frX hgk.out]; exact hcX.out k _ hbx
                have H9 := Hk.out.setCell 0 rfl k (.bool (Bx.getD k false || B'.getD k false))
                have hC9 := hCk.out.set (k := k) (by rw [mixB_len]; exact hka) (Bx.getD k false || B'.getD k false)
                rw [mixB_set hka] at hC9
                have hg9 : ∀ vv, (wr.setCell ⟨go, k, none⟩ vv).heap[gx]? = some (.cells curX tX frX) := fun vv => (Below.heap_setCell wr ⟨go, k, none⟩ vv gx hxo).trans hgk.out
                have hfr := frs_succ k Bx B'
                generalize Bx.getD k false = ba at cO H9 hC9 hfr
                generalize B'.getD k false = bb at cX1 H9 hC9 hbx hfr
                generalize frs k Bx B' = fr at hfr ⊢
                replace hbx := hide hbx
                replace hg9 := hide hg9
                have hklH := hide hkl
                clear hka hn1o
                cases fr with
                | true =>
                  cases ba with
                  | true =>
                    cases bb with
                    | true =>
                      simp only [Bool.or_true, Bool.or_false, Bool.true_or, Bool.false_or, Bool.and_true, Bool.and_false, Bool.true_and, Bool.false_and, Bool.not_true, Bool.not_false] at H9 hC9 hfr
                      replace H9 := hide H9
                      replace hC9 := hide hC9
                      replace hfr := hide hfr
                      go_wp2_with fail
                      go_roundw
                      case rel => exact ⟨k + 1, _, by rw [hfr.out], by go_num, hklH.out, H9, hC9, hg9.out _⟩
                      case measure => have := hklH.out; simp [RowKit.intOf]; omega
                    | false =>
                      simp only [Bool.or_true, Bool.or_false, Bool.true_or, Bool.false_or, Bool.and_true, Bool.and_false, Bool.true_and, Bool.false_and, Bool.not_true, Bool.not_false] at H9 hC9 hfr
                      replace H9 := hide H9
                      replace hC9 := hide hC9
                      replace hfr := hide hfr
                      go_wp2_with fail
                      go_roundw
                      case rel => exact ⟨k + 1, _, by rw [hfr.out], by go_num, hklH.out, H9, hC9, hg9.out _⟩
                      case measure => have := hklH.out; simp [RowKit.intOf]; omega
                  | false =>
                    cases bb with
                    | true =>
                      simp only [Bool.or_true, Bool.or_false, Bool.true_or, Bool.false_or, Bool.and_true, Bool.and_false, Bool.true_and, Bool.false_and, Bool.not_true, Bool.not_false] at H9 hC9 hfr
                      replace H9 := hide H9
                      replace hC9 := hide hC9
                      replace hfr := hide hfr
                      go_wp2_with fail
                      go_roundw
                      case rel => exact ⟨k + 1, _, by rw [hfr.out], by go_num, hklH.out, H9, hC9, hg9.out _⟩
                      case measure => have := hklH.out; simp [RowKit.intOf]; omega
                    | false =>
                      simp only [Bool.or_true, Bool.or_false, Bool.true_or, Bool.false_or, Bool.and_true, Bool.and_false, Bool.true_and, Bool.false_and, Bool.not_true, Bool.not_false] at H9 hC9 hfr
                      replace H9 := hide H9
                      replace hC9 := hide hC9
                      replace hfr := hide hfr
                      go_wp2_with fail
                      go_roundw
                      case rel => exact ⟨k + 1, _, by rw [hfr.out], by go_num, hklH.out, H9, hC9, hg9.out _⟩
                      case measure => have := hklH.out; simp [RowKit.intOf]; omega
                | false =>
                  cases ba with
                  | true =>
                    cases bb with
                    | true =>
                      simp only [Bool.or_true, Bool.or_false, Bool.true_or, Bool.false_or, Bool.and_true, Bool.and_false, Bool.true_and, Bool.false_and, Bool.not_true, Bool.not_false] at H9 hC9 hfr
                      replace H9 := hide H9
                      replace hC9 := hide hC9
                      replace hfr := hide hfr
                      go_wp2_with fail
                      go_roundw
                      case rel => exact ⟨k + 1, _, by rw [hfr.out], by go_num, hklH.out, H9, hC9, hg9.out _⟩
                      case measure => have := hklH.out; simp [RowKit.intOf]; omega
                    | false =>
                      simp only [Bool.or_true, Bool.or_false, Bool.true_or, Bool.false_or, Bool.and_true, Bool.and_false, Bool.true_and, Bool.false_and, Bool.not_true, Bool.not_false] at H9 hC9 hfr
                      replace H9 := hide H9
                      replace hC9 := hide hC9
                      replace hfr := hide hfr
                      go_wp2_with fail
                      go_roundw
                      case rel => exact ⟨k + 1, _, by rw [hfr.out], by go_num, hklH.out, H9, hC9, hg9.out _⟩
                      case measure => have := hklH.out; simp [RowKit.intOf]; omega
                  | false =>
                    cases bb with
                    | true =>
                      simp only [Bool.or_true, Bool.or_false, Bool.true_or, Bool.false_or, Bool.and_true, Bool.and_false, Bool.true_and, Bool.false_and, Bool.not_true, Bool.not_false] at H9 hC9 hfr
                      replace H9 := hide H9
                      replace hC9 := hide hC9
                      replace hfr := hide hfr
                      go_wp2_with fail
                      go_roundw
                      case rel => exact ⟨k + 1, _, by rw [hfr.out], by go_num, hklH.out, H9, hC9, hg9.out _⟩
                      case measure => have := hklH.out; simp [RowKit.intOf]; omega
                    | false =>
                      simp only [Bool.or_true, Bool.or_false, Bool.true_or, Bool.false_or, Bool.and_true, Bool.and_false, Bool.true_and, Bool.false_and, Bool.not_true, Bool.not_false] at H9 hC9 hfr
                      replace H9 := hide H9
                      replace hC9 := hide hC9
                      replace hfr := hide hfr
                      go_wp2_with fail
                      go_roundw
                      case rel => exact ⟨k + 1, _, by rw [hfr.out], by go_num, hklH.out, H9, hC9, hg9.out _⟩
                      case measure => have := hklH.out; simp [RowKit.intOf]; omega
              · obtain rfl : n1 = k := by omega
                have hn1o := hn1.out
                have j1 : ¬ ((n1 : Int) ≤ (s.size : Int)) := by omega
                clear hn1o
                have hCk2 := hCk.out
                have hmx : mixB n1 Bx B' = orB Bx B' := by rw [← hlBi.out]; exact mixB_all Bx B'
                rw [hmx] at hCk2
                replace hCk2 := hide hCk2
                replace hmx := hide hmx
                cases hfv : frs n1 Bx B' with
                | false =>
                  have hfin : Rel (repM M mn mx) (bys s) B (orB Bx B') := by
                    have h1 := hR.out.out.stops (D := []) (by omega) (hR.out.now.pow1 hR'.out) (fun j hj hb => frs_no hfv j (by have := hn1.out; rw [bys_len] at hj; omega) hb) (mx := mx) (.inr (by have := hmoreH.out; have := hltH.out; omega)) (by have := hmxH.out; omega)
                    refine h1.same (by rw [orB_len]) (fun j hj => ?_)
                    rw [orB_true (by rw [hlBi.out]; have := hn1.out; rw [bys_len] at hj; omega)]
                    exact ⟨fun h => h.elim (fun h => h) (fun h => frs_no hfv j (by have := hn1.out; rw [bys_len] at hj; omega) h), fun h => .inl h⟩
                  replace hfin := hide hfin
                  replace hfv := hide hfv
                  go_wp2_with fail
                  go_ret
                  exact ⟨Hk.out.below, _, orB Bx B', rfl, ⟨go, c6', ck, 4, (0, 0), by rw [orB_len, hlBi.out]; rfl, Hk.out.get 0 rfl, hCk2.out⟩, fun k e => .inl (by cases e; exact hgo), hfin.out⟩
                | true =>
                  have hR9 : Hid (R4 M (bys s) B mn (i + 1) go (.slice (some ⟨gx, 0, none⟩) n1 cX) B' (orB Bx B') ck wr) := ⟨⟨gx, cX, curX, tX, frX, by rw [hlB.out], hgk.out, hcX.out⟩, fun k e => by cases e; exact hxo, hR.out.now.pow1 hR'.out, (hR.out.out.or (hR.out.now.pow1 hR'.out)).congr (upM_succ M mn (mn + i) (by omega)), hCk2.out, by
                    obtain ⟨j, hj, h1, h2⟩ := frs_yes hfv
                    have := count_or (b := []) (a := Bx) (c := orB Bx B') (orB_len _ _) (fun q hq => (orB_true (List.getElem?_eq_some_iff.1 hq).1).2 (.inl hq)) ⟨j, by rw [hlBi.out]; exact hj, (orB_true (by rw [hlBi.out]; exact hj)).2 (.inr h1), h2⟩
                    have := hR.out.cnt
                    omega⟩
                  replace hfv := hide hfv
                  go_wp2_with fail
                  go_roundw
                  case rel => exact ⟨i + 1, B', orB Bx B', ck, by go_num, hltH.out, Hk, hR9⟩
                  case measure => have := hltH.out; simp [RowKit.intOf]; omega
          · obtain rfl : more = i := by omega
            have hfin : Hid (Rel (repM M mn mx) (bys s) B Bx) := hR.out.fin (by have := hmxH.out; omega) (.inr ⟨by have := hm2.out; omega, by have := hmoreH.out; omega⟩)
            have hlBi : Bx.length = n1 := by rw [hR.out.out.len, bys_len]; exact hn1.out.symm
            replace hlBi := hide hlBi
            go_wp2_with fail
            go_ret
            exact ⟨Hr.out.below, _, Bx, rfl, ⟨go, c6', cur, 4, (0, 0), by rw [hlBi.out]; rfl, Hr.out.get 0 rfl, hR.out.cb⟩, fun k e => .inl (by cases e; exact hgo), hfin.out⟩
end Go.Proofs.YthgdfgkjaepchaaDoor
namespace Go.Proofs.YthgdfgkjaepchaaDoor
open Go.RowKit
set_option linter.unusedVariables false
set_option linter.unusedSimpArgs false

theorem fit_nthR : ∀ {f : Fo}, f.fit → ∀ i, i < f.len → fitT (f.nth i)
  | .nil, _, i, h => by simp [Fo.len] at h
  | .cons n k r, ⟨h1, h2, h3⟩, 0, _ => ⟨h1, h2⟩
  | .cons n k r, ⟨h1, h2, h3⟩, i + 1, h => fit_nthR h3 i (by simpa [Fo.len] using h)
theorem ok_nthR : ∀ {f : Fo}, okF f → ∀ i, i < f.len → okT (f.nth i)
  | .nil, _, i, h => by simp [Fo.len] at h
  | .cons n k r, ⟨h1, h2, h3⟩, 0, _ => ⟨h1, h2⟩
  | .cons n k r, ⟨h1, h2, h3⟩, i + 1, h => ok_nthR h3 i (by simpa [Fo.len] using h)
theorem sz_nthR {f : Fo} {i : Nat} (h : i < f.len) : szT (f.nth i) ≤ f.sz := by
  have h1 := szTo_le f (i + 1) (by omega)
  have h2 : f.szTo (i + 1) = f.szTo i + szT (f.nth i) := rfl
  omega
set_option maxRecDepth 10000 in
theorem reach_any (s : ByteArray) (hs : s.size ≤ 1000) (P : Nat → Prop) : ∀ (N : Nat) (t : Tr), szT t ≤ N → N ≤ 5000 → fitT t → okT t → ∀ (w : World) (x v : Value) (B : List Bool), TrV w P x t → B.length = s.size + 1 → Bo w v B → Calls Tryd.prog 34 #[x, .string s, v] w (RchP (meT t) s B v w) := by
  intro N
  induction N with
  | zero => intro t h; simp [szT] at h
  | succ N ih =>
    intro t hN hN5 hf ho w x v B T hB hv
    obtain ⟨n, kids⟩ := t
    obtain ⟨u, zs, rfl, o1, _, hk⟩ := T
    have hsz : kids.sz + 1 ≤ N + 1 := by simp only [szT] at hN; omega
    have hK : RcK s P kids := fun i hi w' x' v' B' T' hB' hv' => ih (kids.nth i) (by have := sz_nthR hi; omega) (by omega) (fit_nthR hf.2 i hi) (ok_nthR ho.2 i hi) w' x' v' B' T' hB' hv'
    have hlen := len_le_sz kids
    obtain ⟨ua, uc, hu, _, _⟩ := owns8_val o1
    obtain ⟨h1, h2, h3, h4⟩ := hf.1
    replace o1 : w.ownsRow 0 27 8 u kids.len zs := o1
    replace hk : Kd w P kids zs := hk
    replace h2 : n.k = 4 → kids.len = 1 ∧ arT n.mn n.mx = true := h2
    replace h4 : n.k = 1 ∧ kids.len = 0 ∨ n.k = 2 ∨ n.k = 3 ∨ n.k = 4 := h4
    have ho1 : OkS n.s := ho.1
    show Calls Tryd.prog 34 #[reV n.k n.s u n.mn n.mx, .string s, v] w _
    have hm : meT (n, kids) = meN n kids.mes := rfl
    rw [hm]
    unfold meN
    rcases h4 with ⟨e, _⟩ | e | e | e
    · rw [if_pos e]
      simp only [e]
      rw [hu]
      exact reach_1 n.s ho1 ua _ uc n.mn n.mx s hs v B hB w hv
    · rw [if_neg (by omega), if_neg (by omega), if_neg (by omega)]
      simp only [e]
      exact reach_2 s hs P kids (by omega) hK n.s _ _ u zs v B hB w o1 hk hv
    · rw [if_neg (by omega), if_neg (by omega), if_pos e]
      simp only [e]
      exact reach_3 s hs P kids (by omega) hK n.s _ _ u zs v B hB w o1 hk hv
    · rw [if_neg (by omega), if_pos e]
      obtain ⟨hl1, ha⟩ := h2 e
      unfold arT at ha
      simp only [Bool.and_eq_true, Bool.or_eq_true, decide_eq_true_eq] at ha
      have hmn : n.mn = ((n.mn.toNat : Nat) : Int) := by omega
      have hd : kids.mes.headD eps = meT (kids.nth 0) := by
        cases kids with
        | nil => simp [Fo.len] at hl1
        | cons a b c => rfl
      rw [hd]
      have := reach_4 s hs P kids hl1 hK n.s n.mn.toNat n.mx (by omega) (by omega) u zs v B hB w o1 hk hv
      rw [← hmn] at this
      simp only [e]
      exact this
set_option maxHeartbeats 2000000 in
set_option maxRecDepth 100000 in
theorem means_any (s : ByteArray) (hs : s.size ≤ 1000) (P : Nat → Prop) (t : Tr) (hz : szT t ≤ 5000) (hf : fitT t) (hot : okT t) (u : Value) (hu : u.oneCell' = true) (w : World) (T : TrV w P (reV t.1.k t.1.s u t.1.mn t.1.mx) t) : Calls Tryd.prog 16 #[reV t.1.k t.1.s u t.1.mn t.1.mx, .string s] w fun e w' => Below w.heap.size w w' ∧ ∃ b : Bool, e = .returned (.bool b) ∧ (b = true ↔ meT t (bys s)) := by
  obtain ⟨n1, hn1⟩ : ∃ n1 : Nat, n1 = s.size + 1 := ⟨_, rfl⟩
  have e1 : (s.size : Int) + 1 = (n1 : Int) := by omega
  have hn2 : n1 ≤ 1000000 := by omega
  have j0 : (0 : Int) < (n1 : Int) := by omega
  have j1 : (s.size : Int) < (n1 : Int) := by omega
  have H := St.start Nope w
  have hTH := hide T
  replace hn1 := hide hn1
  clear T
  go_enter Tryd.func16, Tryd.ntmps16
  go_wp2_with (first | ((with_reducible refine at_box 27 ?_); refine wl_box28 H rfl ?_; clear H; intro g3 w1 H q1 q2) | ((with_reducible refine at_make2 68 ?_); refine wl_make68 H hn2 rfl rfl ?_; clear H; intro go w2 H q3 q4) | ((with_reducible refine at_store 4 ?_); refine wl_store1 0 0 4 (v := .bool true) H rfl rfl rfl (by rw [bolA_size, List.length_replicate]; omega) (fun w => by kernel_rfl) rfl ?_; clear H; intro w3 H) | ((with_reducible refine at_load 27 ?_); refine wl_load28 1 H rfl rfl ?_))
  have H3 : St Nope w w3 [(true, go, 4, bolA ((List.replicate n1 false).set 0 true)), (true, g3, 27, reA t.1.k t.1.s u t.1.mn t.1.mx)] := by rw [← bolA_set]; exact H
  have hb3 := H3.below
  have hv : Bo w3 (.slice (some ⟨go, 0, none⟩) n1 n1) ((List.replicate n1 false).set 0 true) := ⟨go, n1, _, 4, (0, 0), by simp, H3.get 0 rfl, fun i b h => bolA_at h⟩
  refine (reach_any s hs P 5000 t hz (Nat.le_refl _) hf hot w3 _ _ _ (hTH.out.kept (fun b _ hl => hb3.block b hl)) (by simp; exact hn1.out) hv).mono ?_
  rintro e w5 ⟨B5, v', B', rfl, hv', _, hR⟩
  obtain ⟨gx, cX, curX, tX, frX, rfl, hgx, hcX⟩ := hv'
  have hl : B'.length = n1 := by rw [hR.len, bys_len]; exact hn1.out.symm
  obtain ⟨b, hb⟩ : ∃ b, B'[s.size]? = some b := ⟨_, List.getElem?_eq_getElem (by rw [hl]; have := hn1.out; omega)⟩
  have cX1 : w5.cell? ⟨gx, s.size, none⟩ = some (.bool b) := by rw [cell_of_row w5 gx _ _ tX frX hgx]; exact hcX _ _ hb
  have hres : b = true ↔ meT t (bys s) := by
    have h1 := hR.iff s.size (by rw [bys_len]; exact Nat.le_refl _)
    rw [hb, Option.some.injEq] at h1
    rw [h1]
    constructor
    · rintro ⟨i, hi, h2, h3⟩
      have : i = 0 := by
        apply Classical.byContradiction
        intro hne
        rw [List.getElem?_set_ne (fun e => hne e.symm), List.getElem?_replicate] at h2
        split at h2 <;> cases h2
      subst this
      rw [← bys_len s, seg_all] at h3
      exact h3
    · intro h
      refine ⟨0, Nat.zero_le _, ?_, ?_⟩
      · rw [List.getElem?_set_self (by simp; have := hn1.out; omega)]
      · rw [← bys_len s, seg_all]; exact h
  rw [hl]
  have hBB : Hid (Below w.heap.size w w5) := hb3.trans (B5.mono hb3.size)
  replace hres := hide hres
  replace hgx := hide hgx
  replace hcX := hide hcX
  replace hb := hide hb
  replace hR := hide hR
  clear H H3 hv B5 hb3 hl
  go_wp2_with fail
  go_ret
  exact ⟨hBB.out, b, rfl, hres.out⟩
end Go.Proofs.YthgdfgkjaepchaaDoor
namespace Go.Proofs.YthgdfgkjaepchaaDoor
open Go.RowKit
set_option linter.unusedVariables false
set_option linter.unusedSimpArgs false

theorem argR_kept {w w' : World} (hb : Below w.heap.size w w') : ∀ {d : Nat} {cs : List Value}, ArgR w d cs → ArgR w' d cs
  | 0, _, h => h
  | d + 1, cs, ⟨k, s, a, n, c, mn, mx, e, ho, h1, h2⟩ => ⟨k, s, a, n, c, mn, mx, e, ho, h1, fun hp => by
      obtain ⟨b, off, e1, e2, e3⟩ := h2 hp
      refine ⟨b, off, e1, by have := hb.size; omega, fun i hi => ?_⟩
      obtain ⟨cs', f1, f2, f3⟩ := e3 i hi
      exact ⟨cs', f1, fun j u hj => (hb.cell (p := ⟨b, off + i * 8 + j, none⟩) e2).trans (f2 j u hj), argR_kept hb f3⟩⟩
set_option maxHeartbeats 8000000 in
set_option maxRecDepth 100000 in
theorem meansW (cs : Array Value) (a1 : ByteArray) (w : World) (hT : Tab w) (hA : ∀ d, ArgR w d cs.toList) (h1 : a1.size ≤ maxLen) : Calls Tryd.prog 4 #[.agg cs, .string a1] w fun e w' => e = .returned (.bool true) ∧ Below w.heap.size w w' := by
  obtain ⟨k, s, a, n, c, mn, mx, hcs, _⟩ := argR_cases (hA 0)
  obtain rfl : cs = reA k s (.slice a n c) mn mx := by
    apply Array.ext'
    exact hcs
  show Calls Tryd.prog 4 #[reV k s (.slice a n c) mn mx, .string a1] w _
  unfold maxLen at h1
  obtain ⟨m, hm⟩ : ∃ m : Nat, min a1.size 30 = m := ⟨_, rfl⟩
  have hm1 : m ≤ a1.size := by omega
  have hm2 : m ≤ 30 := by omega
  have p1 : (if ((a1.size : Nat) : Int) < 30 then ((a1.size : Nat) : Int) else 30) = (m : Int) := by rw [← hm]; split <;> omega
  have p2 : (if (30 : Int) < ((a1.size : Nat) : Int) then 30 else ((a1.size : Nat) : Int)) = (m : Int) := by rw [← hm]; split <;> omega
  replace hm := hide hm
  have i1 : (m : Int) ≤ (a1.size : Int) := by omega
  have H := St.start Nope w
  replace hT := hide hT
  have hAH := hide hA
  clear hA hcs
  go_enter Tryd.func4, Tryd.ntmps4
  go_wp2_with (first | ((with_reducible refine at_box 27 ?_); refine wl_box28 H rfl ?_; clear H; intro g2 w1 H q1 q2))
  have hb1 := H.below
  refine (works_any w1 (hT.out.below hb1)).mono ?_
  rintro e w2 ⟨rfl, B2⟩
  replace H := H.call B2 (Nat.le_refl _)
  have hb2 := hide H.below
  clear hb1 B2
  go_wp2_with (first | ((with_reducible refine at_load 27 ?_); refine wl_load28 0 H rfl rfl ?_))
  have hsz : (a1.extract 0 m).size ≤ 30 := by simp; omega
  generalize a1.extract 0 m = t1 at hsz ⊢
  have hsA : ∀ d, ArgR w2 d (reA k s (.slice a n c) mn mx).toList := fun d => argR_kept hb2.out (hAH.out d)
  have hg2 : Hid (g2 < w2.heap.size) := H.lti 0 rfl
  refine (some_any (reA k s (.slice a n c) mn mx) w2 hsA).mono ?_
  rintro e w3 ⟨t, u, a3, n3, c3, b3, rfl, T, hu, hz, hot, B3, hb3⟩
  replace H := H.call B3 (Nat.le_refl _)
  have T3 : Hid (TrV w3 (fun b => w2.heap.size ≤ b) (reV t.1.k t.1.s u t.1.mn t.1.mx) t) := T
  replace hb3 := hide hb3
  have hl2 := H.lti 0 rfl
  have H3 : St (fun k => k = g2) w3 w3 [(true, g2, 27, reA k s (.slice a n c) mn mx)] := ⟨But.refl _ _, fun x hx => by rw [List.mem_singleton.1 hx]; exact H.get 0 rfl, fun x hx _ _ => by rw [List.mem_singleton.1 hx], by simp⟩
  have hbw3 : Hid (Below w.heap.size w w3) := H.below
  clear H T B3 p1 p2
  cases b3 with
  | false =>
    go_wp2_with (first | ((with_reducible refine at_store 27 ?_); refine wl_store28 0 H3 rfl rfl rfl hu ?_; clear H3; intro w4 H4))
    go_ret
    exact ⟨rfl, hbw3.out.trans (H4.but.below hbw3.out.size (fun k e => by omega))⟩
  | true =>
    obtain ⟨hf, hn, hR, hown⟩ := hb3.out rfl
    replace hf := hide hf
    replace hR := hide hR
    replace hown := hide hown
    replace hot := hide hot
    go_wp2_with (first | ((with_reducible refine at_store 27 ?_); refine wl_store28 0 H3 rfl rfl rfl hu ?_; clear H3; intro w4 H4))
    have hb4 : Hid (Below w.heap.size w w4) := hbw3.out.trans (H4.but.below hbw3.out.size (fun k e => by omega))
    have R4 : RI w4 (.slice a3 n3 c3) ((prg t).put 0 0) := RI.kept hR.out (fun k hk hb => H4.but.block k hk (by have := hown.out k hb; have := hg2.out; omega))
    have T4 : Hid (TrV w4 (fun b => w2.heap.size ≤ b) (reV t.1.k t.1.s u t.1.mn t.1.mx) t) := T3.out.kept (fun b hb hl => H4.but.block b hl (by have := hg2.out; omega))
    refine (match_T t hf.out hot.out (by omega) (.slice a3 n3 c3) t1 (by omega) w4 (hT.out.below hb4.out) R4).mono ?_
    rintro e w5 ⟨B5, x5, rfl, hx5⟩
    have H5 : St (fun k => k = g2) w3 w5 [(true, g2, 27, reA t.1.k t.1.s u t.1.mn t.1.mx)] := H4.call B5 (Nat.le_refl _)
    have T5 : TrV w5 (fun b => w2.heap.size ≤ b) (reV t.1.k t.1.s u t.1.mn t.1.mx) t := T4.out.kept (fun b hb hl => B5.block b hl)
    have hb5 : Hid (Below w.heap.size w w5) := hb4.out.trans (B5.mono hb4.out.size)
    have hmean := hide (means_any t1 (by omega) _ t (by omega) hf.out hot.out u hu w5 T5)
    replace hx5 := hide hx5
    have c0 := H5.cell 0 0 rfl (v := .int .i64 t.1.k) rfl
    have c1 := H5.cell 0 1 rfl (v := .int .u64 t.1.s.a) rfl
    have c2 := H5.cell 0 2 rfl (v := .int .u64 t.1.s.b) rfl
    have c3 := H5.cell 0 3 rfl (v := .int .u64 t.1.s.c) rfl
    have c4 := H5.cell 0 4 rfl (v := .int .u64 t.1.s.d) rfl
    have c5 := H5.cell 0 5 rfl (v := u) rfl
    have c6 := H5.cell 0 6 rfl (v := .int .i64 t.1.mn) rfl
    have c7 := H5.cell 0 7 rfl (v := .int .i64 t.1.mx) rfl
    clear T5 B5 H4 R4
    go_wp2_with fail
    refine hmean.out.mono ?_
    rintro e w6 ⟨B6, x6, rfl, hx6⟩
    have hxx : x5 = x6 := by
      have h1 := hx5.out
      rw [← hx6] at h1
      cases x5 <;> cases x6 <;> simp at h1 <;> rfl
    subst hxx
    replace hx6 := hide hx6
    go_wp2_with fail
    go_ret
    refine ⟨?_, hb5.out.trans (B6.mono hb5.out.size)⟩
    cases x5 <;> rfl
end Go.Proofs.YthgdfgkjaepchaaDoor
