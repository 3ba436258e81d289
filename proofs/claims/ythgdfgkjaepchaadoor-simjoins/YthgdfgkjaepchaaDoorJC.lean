/-
  SimJoins: the region that holds the answers against each other.
-/
import Derived.Test.YthgdfgkjaepchaaDoorJB
namespace Go.Proofs.YthgdfgkjaepchaaDoor
open Go.RowKit
set_option linter.unusedVariables false
set_option linter.unusedSimpArgs false

section
variable {w w' : World} {ops : Array Oper} {o : Oper} {a : Act} {Q : Exit → Act → World → Prop} {K : Act → World → Prop} {E : Prop}
theorem step_valJ {v : Value} (hgd : Region.wanted o (yielded ops a.tmps) = true) (hr : (execOp a.eval o).run Tryd.prog w = .ok (.value v) w') (h : K (a.put o.dst v) w') : if Region.wanted o (yielded ops a.tmps) = true then Oper.wp Tryd.prog o a w K Q else E := by
  rw [if_pos hgd]
  unfold Oper.wp
  rw [hr]
  exact h
end
section
variable {w w' : World} {dst : Option Nat} {x y : Operand} {ty : TypeId} {pos : String} {after : Array Edge} {gd : Option (Nat × Bool)}
theorem run_bsAB (ev : Operand → Value) {A B r : Value} (hx : ev x = A) (hy : ev y = B) (hr : (Instr.buildSlice 25 2 #[(0, A), (1, B)]).run Tryd.prog w = .ok r w') : (execOp ev ⟨dst, .buildSlice 25 2 #[(0, x), (1, y)], ty, pos, after, gd⟩).run Tryd.prog w = .ok (.value r) w' := by
  unfold execOp
  simp only [List.map_toArray, List.map_cons, List.map_nil, hx, hy, Sem.run_bind, hr, Result.andThen_ok, Sem.run_pure]
theorem run_bd27 (ev : Operand → Value) {m : Int} {v : Value} (h0 : ev x = .int .i64 m) (h1 : ev y = v) (hv : ∃ a n c, v = .slice a n c) (w : World) : (execOp ev ⟨dst, .build 27 #[(0, x), (2, y)], ty, pos, after, gd⟩).run Tryd.prog w = .ok (.value (reV m noSet v 0 0)) w := by
  obtain ⟨a, n, c, rfl⟩ := hv
  unfold execOp
  simp only [List.map_toArray, List.map_cons, List.map_nil, h0, h1]
  kernel_rfl
end
set_option maxHeartbeats 4000000 in
set_option maxRecDepth 100000 in
theorem reg5_15t (w : World) (g3 g4 g11 : Nat) (s : ByteArray) (A Bv Cv : Value) (AB : Array Value) (j ag : Bool) (hC0 : ∀ w', Below w.heap.size w w' → (loadVar 27 ⟨g3, 0, none⟩).run Tryd.prog w' = .ok A w' ∧ (loadVar 27 ⟨g4, 0, none⟩).run Tryd.prog w' = .ok Bv w' ∧ (loadVar 27 ⟨g11, 0, none⟩).run Tryd.prog w' = .ok Cv w') (hbs : ∀ W, (Instr.buildSlice 25 2 #[(0, A), (1, Bv)]).run Tryd.prog W = .ok (.slice (some ⟨W.heap.size, 0, none⟩) 2 2) (W.alloc (.cells AB 27))) (hj : ∀ W, Below w.heap.size w W → Calls Tryd.prog 17 #[reV 2 noSet (.slice (some ⟨W.heap.size, 0, none⟩) 2 2) 0 0, .string s] (W.alloc (.cells AB 27)) fun e w' => Below W.heap.size W w' ∧ e = .returned (.bool j)) (he : ∀ W, Below w.heap.size w W → Calls Tryd.prog 17 #[reV 3 noSet (.slice (some ⟨W.heap.size, 0, none⟩) 2 2) 0 0, .string s] (W.alloc (.cells AB 27)) fun e w' => Below W.heap.size W w' ∧ e = .returned (.bool true)) (hA : ∀ W, Below w.heap.size w W → Calls Tryd.prog 17 #[A, .string s] W fun e w' => Below W.heap.size W w' ∧ e = .returned (.bool true)) (hS : ∀ W, Below w.heap.size w W → Calls Tryd.prog 17 #[Cv, .string s] W fun e w' => Below W.heap.size W w' ∧ e = .returned (.bool ag))
    (u0 u1 u5 u6 u7 u8 u9 u10 u14 u15 u16 u17 u18 u19 u20 u21 u22 u23 u24 u25 u26 u27 u28 u29 u30 u31 u32 u33 u34 u35 u36 u37 u38 u39 u40 u41 u42 u43 u44 u45 u46 u47 u48 u49 u50 u51 u52 u53 u54 u55 u56 u57 u58 u59 u60 u61 u62 u63 u64 u65 u66 u67 u68 u69 u70 u71 u72 u73 u74 u75 u76 u77 u78 u79 u80 u81 u82 u83 u84 u85 u86 u87 u88 u89 u90 u91 u92 u93 u94 u95 u96 u97 u98 u99 u100 u101 u102 u103 u104 u105 u106 u107 u108 u109 u110 u111 u112 u113 u114 u115 u116 : Value) (Q : Exit → Act → World → Prop)
    (h : ∀ (w' : World) (n1 n2 : Nat), Below w.heap.size w w' → Q .normal { tmps := (List.toArray ((u0 :: u1 :: .string s :: .pointer (some ⟨g3, 0, none⟩) :: .pointer (some ⟨g4, 0, none⟩) :: u5 :: .bool true :: u7 :: u8 :: u9 :: u10 :: .pointer (some ⟨g11, 0, none⟩) :: .bool j :: .bool ag :: u14 :: u15 :: u16 :: u17 :: u18 :: u19 :: u20 :: u21 :: u22 :: u23 :: u24 :: u25 :: u26 :: u27 :: u28 :: u29 :: u30 :: u31 :: u32 :: u33 :: u34 :: u35 :: u36 :: u37 :: u38 :: u39 :: u40 :: u41 :: u42 :: u43 :: u44 :: u45 :: u46 :: u47 :: u48 :: u49 :: u50 :: u51 :: u52 :: u53 :: u54 :: u55 :: u56 :: u57 :: u58 :: u59 :: u60 :: u61 :: u62 :: u63 :: u64 :: u65 :: u66 :: u67 :: u68 :: u69 :: u70 :: u71 :: u72 :: u73 :: u74 :: u75 :: u76 :: u77 :: u78 :: u79 :: u80 :: u81 :: u82 :: u83 :: u84 :: A :: Bv :: .slice (some ⟨n1, 0, none⟩) 2 2 :: (reV 2 noSet (.slice (some ⟨n1, 0, none⟩) 2 2) 0 0) :: .string s :: .bool j :: .bool j :: .bool true :: .bool true :: A :: Bv :: .slice (some ⟨n2, 0, none⟩) 2 2 :: (reV 3 noSet (.slice (some ⟨n2, 0, none⟩) 2 2) 0 0) :: .string s :: .bool true :: A :: .string s :: .bool true :: .bool true :: undef :: undef :: undef :: .bool true :: .bool true :: .bool true :: .bool true :: Cv :: .string s :: .bool ag :: .bool ag :: .bool true :: .bool true :: []) : List Value)), defers := [] } w') :
    (Code.region 15 #[{ dst := some 85, op := Op.load 27 (Operand.tmp 3), type := 27, pos := "law.go:148", after := #[], guard := none }, { dst := some 86, op := Op.load 27 (Operand.tmp 4), type := 27, pos := "law.go:148", after := #[], guard := none }, { dst := some 87, op := Op.buildSlice 25 2 #[(0, Operand.tmp 85), (1, Operand.tmp 86)], type := 25, pos := "law.go:148", after := #[{ on := 0, ground := Ground.data }, { on := 1, ground := Ground.data }], guard := none }, { dst := some 88, op := Op.build 27 #[(0, Operand.const (Value.int IntKind.i64 2)), (2, Operand.tmp 87)], type := 27, pos := "law.go:148", after := #[{ on := 2, ground := Ground.data }], guard := none }, { dst := some 89, op := Op.move (Operand.tmp 2), type := 9, pos := "law.go:148", after := #[], guard := none }, { dst := some 90, op := Op.call { callee := Callee.value (Operand.func 17), args := #[Operand.tmp 88, Operand.tmp 89], argTypes := #[27, 9] }, type := 4, pos := "law.go:148", after := #[{ on := 3, ground := Ground.data }, { on := 4, ground := Ground.data }], guard := none }, { dst := some 91, op := Op.move (Operand.tmp 12), type := 4, pos := "law.go:148", after := #[], guard := none }, { dst := some 92, op := Op.binOp BinOp.eql 4 (Operand.tmp 90) (Operand.tmp 91) 4, type := 4, pos := "law.go:148", after := #[{ on := 5, ground := Ground.data }, { on := 6, ground := Ground.data }], guard := none }, { dst := some 93, op := Op.move (Operand.tmp 92), type := 4, pos := "law.go:148", after := #[{ on := 7, ground := Ground.data }, { on := 5, ground := Ground.chain }], guard := none }, { dst := some 94, op := Op.load 27 (Operand.tmp 3), type := 27, pos := "law.go:148", after := #[{ on := 8, ground := Ground.guard }], guard := some (8, true) }, { dst := some 95, op := Op.load 27 (Operand.tmp 4), type := 27, pos := "law.go:148", after := #[{ on := 8, ground := Ground.guard }], guard := some (8, true) }, { dst := some 96, op := Op.buildSlice 25 2 #[(0, Operand.tmp 94), (1, Operand.tmp 95)], type := 25, pos := "law.go:148", after := #[{ on := 9, ground := Ground.data }, { on := 10, ground := Ground.data }, { on := 8, ground := Ground.guard }], guard := some (8, true) }, { dst := some 97, op := Op.build 27 #[(0, Operand.const (Value.int IntKind.i64 3)), (2, Operand.tmp 96)], type := 27, pos := "law.go:148", after := #[{ on := 11, ground := Ground.data }, { on := 8, ground := Ground.guard }], guard := some (8, true) }, { dst := some 98, op := Op.move (Operand.tmp 2), type := 9, pos := "law.go:148", after := #[{ on := 8, ground := Ground.guard }], guard := some (8, true) }, { dst := some 99, op := Op.call { callee := Callee.value (Operand.func 17), args := #[Operand.tmp 97, Operand.tmp 98], argTypes := #[27, 9] }, type := 4, pos := "law.go:148", after := #[{ on := 12, ground := Ground.data }, { on := 13, ground := Ground.data }, { on := 8, ground := Ground.chain }, { on := 8, ground := Ground.guard }], guard := some (8, true) }, { dst := some 100, op := Op.load 27 (Operand.tmp 3), type := 27, pos := "law.go:148", after := #[{ on := 8, ground := Ground.guard }], guard := some (8, true) }, { dst := some 101, op := Op.move (Operand.tmp 2), type := 9, pos := "law.go:148", after := #[{ on := 8, ground := Ground.guard }], guard := some (8, true) }, { dst := some 102, op := Op.call { callee := Callee.value (Operand.func 17), args := #[Operand.tmp 100, Operand.tmp 101], argTypes := #[27, 9] }, type := 4, pos := "law.go:148", after := #[{ on := 15, ground := Ground.data }, { on := 16, ground := Ground.data }, { on := 14, ground := Ground.chain }, { on := 8, ground := Ground.guard }], guard := some (8, true) }, { dst := some 103, op := Op.move (Operand.tmp 102), type := 4, pos := "law.go:148", after := #[{ on := 17, ground := Ground.data }, { on := 17, ground := Ground.chain }, { on := 8, ground := Ground.guard }], guard := some (8, true) }, { dst := some 104, op := Op.load 27 (Operand.tmp 4), type := 27, pos := "law.go:148", after := #[{ on := 18, ground := Ground.guard }], guard := some (18, false) }, { dst := some 105, op := Op.move (Operand.tmp 2), type := 9, pos := "law.go:148", after := #[{ on := 18, ground := Ground.guard }], guard := some (18, false) }, { dst := some 106, op := Op.call { callee := Callee.value (Operand.func 17), args := #[Operand.tmp 104, Operand.tmp 105], argTypes := #[27, 9] }, type := 4, pos := "law.go:148", after := #[{ on := 19, ground := Ground.data }, { on := 20, ground := Ground.data }, { on := 18, ground := Ground.chain }, { on := 18, ground := Ground.guard }], guard := some (18, false) }, { dst := some 107, op := Op.pick (Operand.tmp 103) (Operand.const (Value.bool true)) (Operand.tmp 106), type := 4, pos := "law.go:148", after := #[{ on := 18, ground := Ground.data }, { on := 21, ground := Ground.data }, { on := 8, ground := Ground.guard }], guard := some (8, true) }, { dst := some 108, op := Op.binOp BinOp.eql 4 (Operand.tmp 99) (Operand.tmp 107) 4, type := 4, pos := "law.go:148", after := #[{ on := 14, ground := Ground.data }, { on := 22, ground := Ground.data }, { on := 8, ground := Ground.guard }], guard := some (8, true) }, { dst := some 109, op := Op.pick (Operand.tmp 93) (Operand.tmp 108) (Operand.const (Value.bool false)), type := 4, pos := "law.go:148", after := #[{ on := 8, ground := Ground.data }, { on := 23, ground := Ground.data }], guard := none }, { dst := some 110, op := Op.move (Operand.tmp 109), type := 4, pos := "law.go:148", after := #[{ on := 24, ground := Ground.data }, { on := 21, ground := Ground.chain }], guard := none }, { dst := some 111, op := Op.load 27 (Operand.tmp 11), type := 27, pos := "law.go:148", after := #[{ on := 25, ground := Ground.guard }], guard := some (25, true) }, { dst := some 112, op := Op.move (Operand.tmp 2), type := 9, pos := "law.go:148", after := #[{ on := 25, ground := Ground.guard }], guard := some (25, true) }, { dst := some 113, op := Op.call { callee := Callee.value (Operand.func 17), args := #[Operand.tmp 111, Operand.tmp 112], argTypes := #[27, 9] }, type := 4, pos := "law.go:148", after := #[{ on := 26, ground := Ground.data }, { on := 27, ground := Ground.data }, { on := 25, ground := Ground.chain }, { on := 25, ground := Ground.guard }], guard := some (25, true) }, { dst := some 114, op := Op.move (Operand.tmp 13), type := 4, pos := "law.go:148", after := #[{ on := 25, ground := Ground.guard }], guard := some (25, true) }, { dst := some 115, op := Op.binOp BinOp.eql 4 (Operand.tmp 113) (Operand.tmp 114) 4, type := 4, pos := "law.go:148", after := #[{ on := 28, ground := Ground.data }, { on := 29, ground := Ground.data }, { on := 25, ground := Ground.guard }], guard := some (25, true) }, { dst := some 116, op := Op.pick (Operand.tmp 110) (Operand.tmp 115) (Operand.const (Value.bool false)), type := 4, pos := "law.go:148", after := #[{ on := 25, ground := Ground.data }, { on := 30, ground := Ground.data }], guard := none }, { dst := some 6, op := Op.assign (Operand.tmp 116), type := 4, pos := "law.go:148", after := #[{ on := 31, ground := Ground.data }, { on := 28, ground := Ground.chain }, { on := 0, ground := Ground.phase }, { on := 1, ground := Ground.phase }, { on := 2, ground := Ground.phase }, { on := 3, ground := Ground.phase }, { on := 4, ground := Ground.phase }, { on := 5, ground := Ground.phase }, { on := 6, ground := Ground.phase }, { on := 7, ground := Ground.phase }, { on := 8, ground := Ground.phase }, { on := 9, ground := Ground.phase }, { on := 10, ground := Ground.phase }, { on := 11, ground := Ground.phase }, { on := 12, ground := Ground.phase }, { on := 13, ground := Ground.phase }, { on := 14, ground := Ground.phase }, { on := 15, ground := Ground.phase }, { on := 16, ground := Ground.phase }, { on := 17, ground := Ground.phase }, { on := 18, ground := Ground.phase }, { on := 19, ground := Ground.phase }, { on := 20, ground := Ground.phase }, { on := 21, ground := Ground.phase }, { on := 22, ground := Ground.phase }, { on := 23, ground := Ground.phase }, { on := 24, ground := Ground.phase }, { on := 25, ground := Ground.phase }, { on := 26, ground := Ground.phase }, { on := 27, ground := Ground.phase }, { on := 28, ground := Ground.phase }, { on := 29, ground := Ground.phase }, { on := 30, ground := Ground.phase }, { on := 31, ground := Ground.phase }], guard := none }] true).wp Tryd.prog Q { tmps := (List.toArray ((u0 :: u1 :: .string s :: .pointer (some ⟨g3, 0, none⟩) :: .pointer (some ⟨g4, 0, none⟩) :: u5 :: u6 :: u7 :: u8 :: u9 :: u10 :: .pointer (some ⟨g11, 0, none⟩) :: .bool j :: .bool ag :: u14 :: u15 :: u16 :: u17 :: u18 :: u19 :: u20 :: u21 :: u22 :: u23 :: u24 :: u25 :: u26 :: u27 :: u28 :: u29 :: u30 :: u31 :: u32 :: u33 :: u34 :: u35 :: u36 :: u37 :: u38 :: u39 :: u40 :: u41 :: u42 :: u43 :: u44 :: u45 :: u46 :: u47 :: u48 :: u49 :: u50 :: u51 :: u52 :: u53 :: u54 :: u55 :: u56 :: u57 :: u58 :: u59 :: u60 :: u61 :: u62 :: u63 :: u64 :: u65 :: u66 :: u67 :: u68 :: u69 :: u70 :: u71 :: u72 :: u73 :: u74 :: u75 :: u76 :: u77 :: u78 :: u79 :: u80 :: u81 :: u82 :: u83 :: u84 :: u85 :: u86 :: u87 :: u88 :: u89 :: u90 :: u91 :: u92 :: u93 :: u94 :: u95 :: u96 :: u97 :: u98 :: u99 :: u100 :: u101 :: u102 :: u103 :: u104 :: u105 :: u106 :: u107 :: u108 :: u109 :: u110 :: u111 :: u112 :: u113 :: u114 :: u115 :: u116 :: []) : List Value)), defers := [] } w := by
  have hC := hide hC0
  clear hC0
  replace hbs := hide hbs
  replace hj := hide hj
  replace he := hide he
  replace hA := hide hA
  replace hS := hide hS
  replace h := hide h
  refine wp_region_noPanic ?_
  refine wp_region_held_drew (S := fun w0 => Below w.heap.size w w0) (by kernel_rfl) (below_drew' (Below.refl _ _)) (fun hD => ?_)
  refine wpAnyH_take (i := 0) (oi := { dst := some 85, op := Op.load 27 (Operand.tmp 3), type := 27, pos := "law.go:148", after := #[], guard := none }) (v := A) rfl (by kernel_rfl) (by kernel_rfl) (by kernel_rfl) (fun _ _ _ h => h) (Or.inl ⟨by rfl, ?_⟩) hD ?_
  · intro w' hw'
    exact run_ldx27 _ rfl ((hC.out _ hw').1)
  try simp only [Act.put, List.setIfInBounds_toArray, List.set_cons_zero, List.set_cons_succ]
  refine wpAnyH_take (i := 1) (oi := { dst := some 86, op := Op.load 27 (Operand.tmp 4), type := 27, pos := "law.go:148", after := #[], guard := none }) (v := Bv) rfl (by kernel_rfl) (by kernel_rfl) (by kernel_rfl) (fun _ _ _ h => h) (Or.inl ⟨by rfl, ?_⟩) hD ?_
  · intro w' hw'
    exact run_ldx27 _ rfl ((hC.out _ hw').2.1)
  try simp only [Act.put, List.setIfInBounds_toArray, List.set_cons_zero, List.set_cons_succ]
  refine wpAnyH_take (i := 4) (oi := { dst := some 89, op := Op.move (Operand.tmp 2), type := 9, pos := "law.go:148", after := #[], guard := none }) (v := ?_) rfl (by kernel_rfl) (by kernel_rfl) (by kernel_rfl) (fun _ _ _ h => h) (Or.inl ⟨by rfl, ?_⟩) hD ?_
  rotate_left
  · intro w' hw'
    clear hw'
    go_simp
    try with_reducible rfl
  try simp only [Act.put, List.setIfInBounds_toArray, List.set_cons_zero, List.set_cons_succ]
  refine wpAnyH_take (i := 6) (oi := { dst := some 91, op := Op.move (Operand.tmp 12), type := 4, pos := "law.go:148", after := #[], guard := none }) (v := ?_) rfl (by kernel_rfl) (by kernel_rfl) (by kernel_rfl) (fun _ _ _ h => h) (Or.inl ⟨by rfl, ?_⟩) hD ?_
  rotate_left
  · intro w' hw'
    clear hw'
    go_simp
    try with_reducible rfl
  try simp only [Act.put, List.setIfInBounds_toArray, List.set_cons_zero, List.set_cons_succ]
  refine wpAnyH_ready (rs := [2]) (by kernel_rfl) (by simp) ?_
  refine (AllReadyH.cons (o := { dst := some 87, op := Op.buildSlice 25 2 #[(0, Operand.tmp 85), (1, Operand.tmp 86)], type := 25, pos := "law.go:148", after := #[{ on := 0, ground := Ground.data }, { on := 1, ground := Ground.data }], guard := none }) rfl (fun K2 hK2 => ?_) AllReadyH.nil)
  refine step_valJ (by rfl) (run_bsAB _ rfl rfl (hbs.out _)) ?_
  refine hK2.out _ _ (hD.alloc hD.size _) (fun hD1 => ?_)
  clear hK2 K2
  try simp only [Act.put, List.setIfInBounds_toArray, List.set_cons_zero, List.set_cons_succ]
  refine wpAnyH_take (i := 3) (oi := { dst := some 88, op := Op.build 27 #[(0, Operand.const (Value.int IntKind.i64 2)), (2, Operand.tmp 87)], type := 27, pos := "law.go:148", after := #[{ on := 2, ground := Ground.data }], guard := none }) (v := (reV 2 noSet (.slice (some ⟨w.drew.heap.size, 0, none⟩) 2 2) 0 0)) rfl (by kernel_rfl) (by kernel_rfl) (by kernel_rfl) (fun _ _ _ h => h) (Or.inl ⟨by rfl, ?_⟩) hD1 ?_
  · intro w' hw'
    exact run_bd27 _ rfl rfl ⟨_, _, _, rfl⟩ _
  try simp only [Act.put, List.setIfInBounds_toArray, List.set_cons_zero, List.set_cons_succ]
  refine wpAnyH_ready (rs := [5]) (by kernel_rfl) (by simp) ?_
  refine (AllReadyH.cons (o := { dst := some 90, op := Op.call { callee := Callee.value (Operand.func 17), args := #[Operand.tmp 88, Operand.tmp 89], argTypes := #[27, 9] }, type := 4, pos := "law.go:148", after := #[{ on := 3, ground := Ground.data }, { on := 4, ground := Ground.data }], guard := none }) rfl (fun K5 hK5 => ?_) AllReadyH.nil)
  go_simp
  refine (hj.out w.drew hD).mono ?_
  rintro e w2x ⟨QQ2, rfl⟩
  refine hK5.out _ _ (hD.trans (QQ2.mono hD.size)) (fun hD2 => ?_)
  clear hK5 K5
  try simp only [Act.put, List.setIfInBounds_toArray, List.set_cons_zero, List.set_cons_succ]
  refine wpAnyH_take (i := 7) (oi := { dst := some 92, op := Op.binOp BinOp.eql 4 (Operand.tmp 90) (Operand.tmp 91) 4, type := 4, pos := "law.go:148", after := #[{ on := 5, ground := Ground.data }, { on := 6, ground := Ground.data }], guard := none }) (v := ?_) rfl (by kernel_rfl) (by kernel_rfl) (by kernel_rfl) (fun _ _ _ h => h) (Or.inl ⟨by rfl, ?_⟩) hD2 ?_
  rotate_left
  · intro w' hw'
    clear hw'
    go_simp
    try with_reducible rfl
  try simp only [Act.put, List.setIfInBounds_toArray, List.set_cons_zero, List.set_cons_succ]
  refine wpAnyH_take (i := 8) (oi := { dst := some 93, op := Op.move (Operand.tmp 92), type := 4, pos := "law.go:148", after := #[{ on := 7, ground := Ground.data }, { on := 5, ground := Ground.chain }], guard := none }) (v := ?_) rfl (by kernel_rfl) (by kernel_rfl) (by kernel_rfl) (fun _ _ _ h => h) (Or.inl ⟨by rfl, ?_⟩) hD2 ?_
  rotate_left
  · intro w' hw'
    clear hw'
    go_simp
    try with_reducible rfl
  try simp only [Act.put, List.setIfInBounds_toArray, List.set_cons_zero, List.set_cons_succ]
  refine wpAnyH_take (i := 9) (oi := { dst := some 94, op := Op.load 27 (Operand.tmp 3), type := 27, pos := "law.go:148", after := #[{ on := 8, ground := Ground.guard }], guard := some (8, true) }) (v := A) rfl (by kernel_rfl) (by kernel_rfl) (by kernel_rfl) (fun _ _ _ h => h) (Or.inl ⟨by rfl, ?_⟩) hD2 ?_
  · intro w' hw'
    exact run_ldx27 _ rfl ((hC.out _ hw').1)
  try simp only [Act.put, List.setIfInBounds_toArray, List.set_cons_zero, List.set_cons_succ]
  refine wpAnyH_take (i := 10) (oi := { dst := some 95, op := Op.load 27 (Operand.tmp 4), type := 27, pos := "law.go:148", after := #[{ on := 8, ground := Ground.guard }], guard := some (8, true) }) (v := Bv) rfl (by kernel_rfl) (by kernel_rfl) (by kernel_rfl) (fun _ _ _ h => h) (Or.inl ⟨by rfl, ?_⟩) hD2 ?_
  · intro w' hw'
    exact run_ldx27 _ rfl ((hC.out _ hw').2.1)
  try simp only [Act.put, List.setIfInBounds_toArray, List.set_cons_zero, List.set_cons_succ]
  refine wpAnyH_take (i := 13) (oi := { dst := some 98, op := Op.move (Operand.tmp 2), type := 9, pos := "law.go:148", after := #[{ on := 8, ground := Ground.guard }], guard := some (8, true) }) (v := ?_) rfl (by kernel_rfl) (by kernel_rfl) (by kernel_rfl) (fun _ _ _ h => h) (Or.inl ⟨by rfl, ?_⟩) hD2 ?_
  rotate_left
  · intro w' hw'
    clear hw'
    go_simp
    try with_reducible rfl
  try simp only [Act.put, List.setIfInBounds_toArray, List.set_cons_zero, List.set_cons_succ]
  refine wpAnyH_take (i := 15) (oi := { dst := some 100, op := Op.load 27 (Operand.tmp 3), type := 27, pos := "law.go:148", after := #[{ on := 8, ground := Ground.guard }], guard := some (8, true) }) (v := A) rfl (by kernel_rfl) (by kernel_rfl) (by kernel_rfl) (fun _ _ _ h => h) (Or.inl ⟨by rfl, ?_⟩) hD2 ?_
  · intro w' hw'
    exact run_ldx27 _ rfl ((hC.out _ hw').1)
  try simp only [Act.put, List.setIfInBounds_toArray, List.set_cons_zero, List.set_cons_succ]
  refine wpAnyH_take (i := 16) (oi := { dst := some 101, op := Op.move (Operand.tmp 2), type := 9, pos := "law.go:148", after := #[{ on := 8, ground := Ground.guard }], guard := some (8, true) }) (v := ?_) rfl (by kernel_rfl) (by kernel_rfl) (by kernel_rfl) (fun _ _ _ h => h) (Or.inl ⟨by rfl, ?_⟩) hD2 ?_
  rotate_left
  · intro w' hw'
    clear hw'
    go_simp
    try with_reducible rfl
  try simp only [Act.put, List.setIfInBounds_toArray, List.set_cons_zero, List.set_cons_succ]
  refine wpAnyH_ready (rs := [11]) (by kernel_rfl) (by simp) ?_
  refine (AllReadyH.cons (o := { dst := some 96, op := Op.buildSlice 25 2 #[(0, Operand.tmp 94), (1, Operand.tmp 95)], type := 25, pos := "law.go:148", after := #[{ on := 9, ground := Ground.data }, { on := 10, ground := Ground.data }, { on := 8, ground := Ground.guard }], guard := some (8, true) }) rfl (fun K11 hK11 => ?_) AllReadyH.nil)
  refine step_valJ (by rfl) (run_bsAB _ rfl rfl (hbs.out _)) ?_
  refine hK11.out _ _ (hD2.alloc hD2.size _) (fun hD3 => ?_)
  clear hK11 K11
  try simp only [Act.put, List.setIfInBounds_toArray, List.set_cons_zero, List.set_cons_succ]
  refine wpAnyH_take (i := 12) (oi := { dst := some 97, op := Op.build 27 #[(0, Operand.const (Value.int IntKind.i64 3)), (2, Operand.tmp 96)], type := 27, pos := "law.go:148", after := #[{ on := 11, ground := Ground.data }, { on := 8, ground := Ground.guard }], guard := some (8, true) }) (v := (reV 3 noSet (.slice (some ⟨w2x.heap.size, 0, none⟩) 2 2) 0 0)) rfl (by kernel_rfl) (by kernel_rfl) (by kernel_rfl) (fun _ _ _ h => h) (Or.inl ⟨by rfl, ?_⟩) hD3 ?_
  · intro w' hw'
    exact run_bd27 _ rfl rfl ⟨_, _, _, rfl⟩ _
  try simp only [Act.put, List.setIfInBounds_toArray, List.set_cons_zero, List.set_cons_succ]
  refine wpAnyH_ready (rs := [14]) (by kernel_rfl) (by simp) ?_
  refine (AllReadyH.cons (o := { dst := some 99, op := Op.call { callee := Callee.value (Operand.func 17), args := #[Operand.tmp 97, Operand.tmp 98], argTypes := #[27, 9] }, type := 4, pos := "law.go:148", after := #[{ on := 12, ground := Ground.data }, { on := 13, ground := Ground.data }, { on := 8, ground := Ground.chain }, { on := 8, ground := Ground.guard }], guard := some (8, true) }) rfl (fun K14 hK14 => ?_) AllReadyH.nil)
  go_simp
  refine (he.out w2x hD2).mono ?_
  rintro e w4x ⟨QQ4, rfl⟩
  refine hK14.out _ _ (hD2.trans (QQ4.mono hD2.size)) (fun hD4 => ?_)
  clear hK14 K14
  try simp only [Act.put, List.setIfInBounds_toArray, List.set_cons_zero, List.set_cons_succ]
  refine wpAnyH_ready (rs := [17]) (by kernel_rfl) (by simp) ?_
  refine (AllReadyH.cons (o := { dst := some 102, op := Op.call { callee := Callee.value (Operand.func 17), args := #[Operand.tmp 100, Operand.tmp 101], argTypes := #[27, 9] }, type := 4, pos := "law.go:148", after := #[{ on := 15, ground := Ground.data }, { on := 16, ground := Ground.data }, { on := 14, ground := Ground.chain }, { on := 8, ground := Ground.guard }], guard := some (8, true) }) rfl (fun K17 hK17 => ?_) AllReadyH.nil)
  go_simp
  refine (hA.out _ hD4).mono ?_
  rintro e w5x ⟨QQ5, rfl⟩
  refine hK17.out _ _ (hD4.trans (QQ5.mono hD4.size)) (fun hD5 => ?_)
  clear hK17 K17
  try simp only [Act.put, List.setIfInBounds_toArray, List.set_cons_zero, List.set_cons_succ]
  refine wpAnyH_take (i := 18) (oi := { dst := some 103, op := Op.move (Operand.tmp 102), type := 4, pos := "law.go:148", after := #[{ on := 17, ground := Ground.data }, { on := 17, ground := Ground.chain }, { on := 8, ground := Ground.guard }], guard := some (8, true) }) (v := ?_) rfl (by kernel_rfl) (by kernel_rfl) (by kernel_rfl) (fun _ _ _ h => h) (Or.inl ⟨by rfl, ?_⟩) hD5 ?_
  rotate_left
  · intro w' hw'
    clear hw'
    go_simp
    try with_reducible rfl
  try simp only [Act.put, List.setIfInBounds_toArray, List.set_cons_zero, List.set_cons_succ]
  refine wpAnyH_take (i := 19) (oi := { dst := some 104, op := Op.load 27 (Operand.tmp 4), type := 27, pos := "law.go:148", after := #[{ on := 18, ground := Ground.guard }], guard := some (18, false) }) (v := undef) rfl (by kernel_rfl) (by kernel_rfl) (by kernel_rfl) (fun _ _ _ h => h) (Or.inr ⟨by rfl, rfl⟩) hD5 ?_
  try simp only [Act.put, List.setIfInBounds_toArray, List.set_cons_zero, List.set_cons_succ]
  refine wpAnyH_take (i := 20) (oi := { dst := some 105, op := Op.move (Operand.tmp 2), type := 9, pos := "law.go:148", after := #[{ on := 18, ground := Ground.guard }], guard := some (18, false) }) (v := undef) rfl (by kernel_rfl) (by kernel_rfl) (by kernel_rfl) (fun _ _ _ h => h) (Or.inr ⟨by rfl, rfl⟩) hD5 ?_
  try simp only [Act.put, List.setIfInBounds_toArray, List.set_cons_zero, List.set_cons_succ]
  refine wpAnyH_take (i := 21) (oi := { dst := some 106, op := Op.call { callee := Callee.value (Operand.func 17), args := #[Operand.tmp 104, Operand.tmp 105], argTypes := #[27, 9] }, type := 4, pos := "law.go:148", after := #[{ on := 19, ground := Ground.data }, { on := 20, ground := Ground.data }, { on := 18, ground := Ground.chain }, { on := 18, ground := Ground.guard }], guard := some (18, false) }) (v := undef) rfl (by kernel_rfl) (by kernel_rfl) (by kernel_rfl) (fun _ _ _ h => h) (Or.inr ⟨by rfl, rfl⟩) hD5 ?_
  try simp only [Act.put, List.setIfInBounds_toArray, List.set_cons_zero, List.set_cons_succ]
  refine wpAnyH_take (i := 22) (oi := { dst := some 107, op := Op.pick (Operand.tmp 103) (Operand.const (Value.bool true)) (Operand.tmp 106), type := 4, pos := "law.go:148", after := #[{ on := 18, ground := Ground.data }, { on := 21, ground := Ground.data }, { on := 8, ground := Ground.guard }], guard := some (8, true) }) (v := ?_) rfl (by kernel_rfl) (by kernel_rfl) (by kernel_rfl) (fun _ _ _ h => h) (Or.inl ⟨by rfl, ?_⟩) hD5 ?_
  rotate_left
  · intro w' hw'
    clear hw'
    go_simp
    try with_reducible rfl
  try simp only [Act.put, List.setIfInBounds_toArray, List.set_cons_zero, List.set_cons_succ]
  refine wpAnyH_take (i := 23) (oi := { dst := some 108, op := Op.binOp BinOp.eql 4 (Operand.tmp 99) (Operand.tmp 107) 4, type := 4, pos := "law.go:148", after := #[{ on := 14, ground := Ground.data }, { on := 22, ground := Ground.data }, { on := 8, ground := Ground.guard }], guard := some (8, true) }) (v := ?_) rfl (by kernel_rfl) (by kernel_rfl) (by kernel_rfl) (fun _ _ _ h => h) (Or.inl ⟨by rfl, ?_⟩) hD5 ?_
  rotate_left
  · intro w' hw'
    clear hw'
    go_simp
    try with_reducible rfl
  try simp only [Act.put, List.setIfInBounds_toArray, List.set_cons_zero, List.set_cons_succ]
  refine wpAnyH_take (i := 24) (oi := { dst := some 109, op := Op.pick (Operand.tmp 93) (Operand.tmp 108) (Operand.const (Value.bool false)), type := 4, pos := "law.go:148", after := #[{ on := 8, ground := Ground.data }, { on := 23, ground := Ground.data }], guard := none }) (v := ?_) rfl (by kernel_rfl) (by kernel_rfl) (by kernel_rfl) (fun _ _ _ h => h) (Or.inl ⟨by rfl, ?_⟩) hD5 ?_
  rotate_left
  · intro w' hw'
    clear hw'
    go_simp
    try with_reducible rfl
  try simp only [Act.put, List.setIfInBounds_toArray, List.set_cons_zero, List.set_cons_succ]
  refine wpAnyH_take (i := 25) (oi := { dst := some 110, op := Op.move (Operand.tmp 109), type := 4, pos := "law.go:148", after := #[{ on := 24, ground := Ground.data }, { on := 21, ground := Ground.chain }], guard := none }) (v := ?_) rfl (by kernel_rfl) (by kernel_rfl) (by kernel_rfl) (fun _ _ _ h => h) (Or.inl ⟨by rfl, ?_⟩) hD5 ?_
  rotate_left
  · intro w' hw'
    clear hw'
    go_simp
    try with_reducible rfl
  try simp only [Act.put, List.setIfInBounds_toArray, List.set_cons_zero, List.set_cons_succ]
  refine wpAnyH_take (i := 26) (oi := { dst := some 111, op := Op.load 27 (Operand.tmp 11), type := 27, pos := "law.go:148", after := #[{ on := 25, ground := Ground.guard }], guard := some (25, true) }) (v := Cv) rfl (by kernel_rfl) (by kernel_rfl) (by kernel_rfl) (fun _ _ _ h => h) (Or.inl ⟨by rfl, ?_⟩) hD5 ?_
  · intro w' hw'
    exact run_ldx27 _ rfl ((hC.out _ hw').2.2)
  try simp only [Act.put, List.setIfInBounds_toArray, List.set_cons_zero, List.set_cons_succ]
  refine wpAnyH_take (i := 27) (oi := { dst := some 112, op := Op.move (Operand.tmp 2), type := 9, pos := "law.go:148", after := #[{ on := 25, ground := Ground.guard }], guard := some (25, true) }) (v := ?_) rfl (by kernel_rfl) (by kernel_rfl) (by kernel_rfl) (fun _ _ _ h => h) (Or.inl ⟨by rfl, ?_⟩) hD5 ?_
  rotate_left
  · intro w' hw'
    clear hw'
    go_simp
    try with_reducible rfl
  try simp only [Act.put, List.setIfInBounds_toArray, List.set_cons_zero, List.set_cons_succ]
  refine wpAnyH_take (i := 29) (oi := { dst := some 114, op := Op.move (Operand.tmp 13), type := 4, pos := "law.go:148", after := #[{ on := 25, ground := Ground.guard }], guard := some (25, true) }) (v := ?_) rfl (by kernel_rfl) (by kernel_rfl) (by kernel_rfl) (fun _ _ _ h => h) (Or.inl ⟨by rfl, ?_⟩) hD5 ?_
  rotate_left
  · intro w' hw'
    clear hw'
    go_simp
    try with_reducible rfl
  try simp only [Act.put, List.setIfInBounds_toArray, List.set_cons_zero, List.set_cons_succ]
  refine wpAnyH_ready (rs := [28]) (by kernel_rfl) (by simp) ?_
  refine (AllReadyH.cons (o := { dst := some 113, op := Op.call { callee := Callee.value (Operand.func 17), args := #[Operand.tmp 111, Operand.tmp 112], argTypes := #[27, 9] }, type := 4, pos := "law.go:148", after := #[{ on := 26, ground := Ground.data }, { on := 27, ground := Ground.data }, { on := 25, ground := Ground.chain }, { on := 25, ground := Ground.guard }], guard := some (25, true) }) rfl (fun K28 hK28 => ?_) AllReadyH.nil)
  go_simp
  refine (hS.out _ hD5).mono ?_
  rintro e w6x ⟨QQ6, rfl⟩
  refine hK28.out _ _ (hD5.trans (QQ6.mono hD5.size)) (fun hD6 => ?_)
  clear hK28 K28
  try simp only [Act.put, List.setIfInBounds_toArray, List.set_cons_zero, List.set_cons_succ]
  refine wpAnyH_take (i := 30) (oi := { dst := some 115, op := Op.binOp BinOp.eql 4 (Operand.tmp 113) (Operand.tmp 114) 4, type := 4, pos := "law.go:148", after := #[{ on := 28, ground := Ground.data }, { on := 29, ground := Ground.data }, { on := 25, ground := Ground.guard }], guard := some (25, true) }) (v := ?_) rfl (by kernel_rfl) (by kernel_rfl) (by kernel_rfl) (fun _ _ _ h => h) (Or.inl ⟨by rfl, ?_⟩) hD6 ?_
  rotate_left
  · intro w' hw'
    clear hw'
    go_simp
    try with_reducible rfl
  try simp only [Act.put, List.setIfInBounds_toArray, List.set_cons_zero, List.set_cons_succ]
  refine wpAnyH_take (i := 31) (oi := { dst := some 116, op := Op.pick (Operand.tmp 110) (Operand.tmp 115) (Operand.const (Value.bool false)), type := 4, pos := "law.go:148", after := #[{ on := 25, ground := Ground.data }, { on := 30, ground := Ground.data }], guard := none }) (v := ?_) rfl (by kernel_rfl) (by kernel_rfl) (by kernel_rfl) (fun _ _ _ h => h) (Or.inl ⟨by rfl, ?_⟩) hD6 ?_
  rotate_left
  · intro w' hw'
    clear hw'
    go_simp
    try with_reducible rfl
  try simp only [Act.put, List.setIfInBounds_toArray, List.set_cons_zero, List.set_cons_succ]
  refine wpAnyH_take (i := 32) (oi := { dst := some 6, op := Op.assign (Operand.tmp 116), type := 4, pos := "law.go:148", after := #[{ on := 31, ground := Ground.data }, { on := 28, ground := Ground.chain }, { on := 0, ground := Ground.phase }, { on := 1, ground := Ground.phase }, { on := 2, ground := Ground.phase }, { on := 3, ground := Ground.phase }, { on := 4, ground := Ground.phase }, { on := 5, ground := Ground.phase }, { on := 6, ground := Ground.phase }, { on := 7, ground := Ground.phase }, { on := 8, ground := Ground.phase }, { on := 9, ground := Ground.phase }, { on := 10, ground := Ground.phase }, { on := 11, ground := Ground.phase }, { on := 12, ground := Ground.phase }, { on := 13, ground := Ground.phase }, { on := 14, ground := Ground.phase }, { on := 15, ground := Ground.phase }, { on := 16, ground := Ground.phase }, { on := 17, ground := Ground.phase }, { on := 18, ground := Ground.phase }, { on := 19, ground := Ground.phase }, { on := 20, ground := Ground.phase }, { on := 21, ground := Ground.phase }, { on := 22, ground := Ground.phase }, { on := 23, ground := Ground.phase }, { on := 24, ground := Ground.phase }, { on := 25, ground := Ground.phase }, { on := 26, ground := Ground.phase }, { on := 27, ground := Ground.phase }, { on := 28, ground := Ground.phase }, { on := 29, ground := Ground.phase }, { on := 30, ground := Ground.phase }, { on := 31, ground := Ground.phase }], guard := none }) (v := ?_) rfl (by kernel_rfl) (by kernel_rfl) (by kernel_rfl) (fun _ _ _ h => h) (Or.inl ⟨by rfl, ?_⟩) hD6 ?_
  rotate_left
  · intro w' hw'
    clear hw'
    go_simp
    try with_reducible rfl
  try simp only [Act.put, List.setIfInBounds_toArray, List.set_cons_zero, List.set_cons_succ]
  refine wpAnyH_done (by kernel_rfl) ?_ _
  refine NoPanic.normal ?_
  exact h.out _ _ _ hD6
set_option maxHeartbeats 4000000 in
set_option maxRecDepth 100000 in
theorem reg5_15f (w : World) (g3 g4 g11 : Nat) (s : ByteArray) (A Bv Cv : Value) (AB : Array Value) (j ag m2 : Bool) (hC0 : ∀ w', Below w.heap.size w w' → (loadVar 27 ⟨g3, 0, none⟩).run Tryd.prog w' = .ok A w' ∧ (loadVar 27 ⟨g4, 0, none⟩).run Tryd.prog w' = .ok Bv w' ∧ (loadVar 27 ⟨g11, 0, none⟩).run Tryd.prog w' = .ok Cv w') (hbs : ∀ W, (Instr.buildSlice 25 2 #[(0, A), (1, Bv)]).run Tryd.prog W = .ok (.slice (some ⟨W.heap.size, 0, none⟩) 2 2) (W.alloc (.cells AB 27))) (hj : ∀ W, Below w.heap.size w W → Calls Tryd.prog 17 #[reV 2 noSet (.slice (some ⟨W.heap.size, 0, none⟩) 2 2) 0 0, .string s] (W.alloc (.cells AB 27)) fun e w' => Below W.heap.size W w' ∧ e = .returned (.bool j)) (he : ∀ W, Below w.heap.size w W → Calls Tryd.prog 17 #[reV 3 noSet (.slice (some ⟨W.heap.size, 0, none⟩) 2 2) 0 0, .string s] (W.alloc (.cells AB 27)) fun e w' => Below W.heap.size W w' ∧ e = .returned (.bool m2)) (hA : ∀ W, Below w.heap.size w W → Calls Tryd.prog 17 #[A, .string s] W fun e w' => Below W.heap.size W w' ∧ e = .returned (.bool false)) (hS : ∀ W, Below w.heap.size w W → Calls Tryd.prog 17 #[Cv, .string s] W fun e w' => Below W.heap.size W w' ∧ e = .returned (.bool ag)) (hB : ∀ W, Below w.heap.size w W → Calls Tryd.prog 17 #[Bv, .string s] W fun e w' => Below W.heap.size W w' ∧ e = .returned (.bool m2))
    (u0 u1 u5 u6 u7 u8 u9 u10 u14 u15 u16 u17 u18 u19 u20 u21 u22 u23 u24 u25 u26 u27 u28 u29 u30 u31 u32 u33 u34 u35 u36 u37 u38 u39 u40 u41 u42 u43 u44 u45 u46 u47 u48 u49 u50 u51 u52 u53 u54 u55 u56 u57 u58 u59 u60 u61 u62 u63 u64 u65 u66 u67 u68 u69 u70 u71 u72 u73 u74 u75 u76 u77 u78 u79 u80 u81 u82 u83 u84 u85 u86 u87 u88 u89 u90 u91 u92 u93 u94 u95 u96 u97 u98 u99 u100 u101 u102 u103 u104 u105 u106 u107 u108 u109 u110 u111 u112 u113 u114 u115 u116 : Value) (Q : Exit → Act → World → Prop)
    (h : ∀ (w' : World) (n1 n2 : Nat), Below w.heap.size w w' → Q .normal { tmps := (List.toArray ((u0 :: u1 :: .string s :: .pointer (some ⟨g3, 0, none⟩) :: .pointer (some ⟨g4, 0, none⟩) :: u5 :: .bool true :: u7 :: u8 :: u9 :: u10 :: .pointer (some ⟨g11, 0, none⟩) :: .bool j :: .bool ag :: u14 :: u15 :: u16 :: u17 :: u18 :: u19 :: u20 :: u21 :: u22 :: u23 :: u24 :: u25 :: u26 :: u27 :: u28 :: u29 :: u30 :: u31 :: u32 :: u33 :: u34 :: u35 :: u36 :: u37 :: u38 :: u39 :: u40 :: u41 :: u42 :: u43 :: u44 :: u45 :: u46 :: u47 :: u48 :: u49 :: u50 :: u51 :: u52 :: u53 :: u54 :: u55 :: u56 :: u57 :: u58 :: u59 :: u60 :: u61 :: u62 :: u63 :: u64 :: u65 :: u66 :: u67 :: u68 :: u69 :: u70 :: u71 :: u72 :: u73 :: u74 :: u75 :: u76 :: u77 :: u78 :: u79 :: u80 :: u81 :: u82 :: u83 :: u84 :: A :: Bv :: .slice (some ⟨n1, 0, none⟩) 2 2 :: (reV 2 noSet (.slice (some ⟨n1, 0, none⟩) 2 2) 0 0) :: .string s :: .bool j :: .bool j :: .bool true :: .bool true :: A :: Bv :: .slice (some ⟨n2, 0, none⟩) 2 2 :: (reV 3 noSet (.slice (some ⟨n2, 0, none⟩) 2 2) 0 0) :: .string s :: .bool m2 :: A :: .string s :: .bool false :: .bool false :: Bv :: .string s :: .bool m2 :: .bool m2 :: .bool true :: .bool true :: .bool true :: Cv :: .string s :: .bool ag :: .bool ag :: .bool true :: .bool true :: []) : List Value)), defers := [] } w') :
    (Code.region 15 #[{ dst := some 85, op := Op.load 27 (Operand.tmp 3), type := 27, pos := "law.go:148", after := #[], guard := none }, { dst := some 86, op := Op.load 27 (Operand.tmp 4), type := 27, pos := "law.go:148", after := #[], guard := none }, { dst := some 87, op := Op.buildSlice 25 2 #[(0, Operand.tmp 85), (1, Operand.tmp 86)], type := 25, pos := "law.go:148", after := #[{ on := 0, ground := Ground.data }, { on := 1, ground := Ground.data }], guard := none }, { dst := some 88, op := Op.build 27 #[(0, Operand.const (Value.int IntKind.i64 2)), (2, Operand.tmp 87)], type := 27, pos := "law.go:148", after := #[{ on := 2, ground := Ground.data }], guard := none }, { dst := some 89, op := Op.move (Operand.tmp 2), type := 9, pos := "law.go:148", after := #[], guard := none }, { dst := some 90, op := Op.call { callee := Callee.value (Operand.func 17), args := #[Operand.tmp 88, Operand.tmp 89], argTypes := #[27, 9] }, type := 4, pos := "law.go:148", after := #[{ on := 3, ground := Ground.data }, { on := 4, ground := Ground.data }], guard := none }, { dst := some 91, op := Op.move (Operand.tmp 12), type := 4, pos := "law.go:148", after := #[], guard := none }, { dst := some 92, op := Op.binOp BinOp.eql 4 (Operand.tmp 90) (Operand.tmp 91) 4, type := 4, pos := "law.go:148", after := #[{ on := 5, ground := Ground.data }, { on := 6, ground := Ground.data }], guard := none }, { dst := some 93, op := Op.move (Operand.tmp 92), type := 4, pos := "law.go:148", after := #[{ on := 7, ground := Ground.data }, { on := 5, ground := Ground.chain }], guard := none }, { dst := some 94, op := Op.load 27 (Operand.tmp 3), type := 27, pos := "law.go:148", after := #[{ on := 8, ground := Ground.guard }], guard := some (8, true) }, { dst := some 95, op := Op.load 27 (Operand.tmp 4), type := 27, pos := "law.go:148", after := #[{ on := 8, ground := Ground.guard }], guard := some (8, true) }, { dst := some 96, op := Op.buildSlice 25 2 #[(0, Operand.tmp 94), (1, Operand.tmp 95)], type := 25, pos := "law.go:148", after := #[{ on := 9, ground := Ground.data }, { on := 10, ground := Ground.data }, { on := 8, ground := Ground.guard }], guard := some (8, true) }, { dst := some 97, op := Op.build 27 #[(0, Operand.const (Value.int IntKind.i64 3)), (2, Operand.tmp 96)], type := 27, pos := "law.go:148", after := #[{ on := 11, ground := Ground.data }, { on := 8, ground := Ground.guard }], guard := some (8, true) }, { dst := some 98, op := Op.move (Operand.tmp 2), type := 9, pos := "law.go:148", after := #[{ on := 8, ground := Ground.guard }], guard := some (8, true) }, { dst := some 99, op := Op.call { callee := Callee.value (Operand.func 17), args := #[Operand.tmp 97, Operand.tmp 98], argTypes := #[27, 9] }, type := 4, pos := "law.go:148", after := #[{ on := 12, ground := Ground.data }, { on := 13, ground := Ground.data }, { on := 8, ground := Ground.chain }, { on := 8, ground := Ground.guard }], guard := some (8, true) }, { dst := some 100, op := Op.load 27 (Operand.tmp 3), type := 27, pos := "law.go:148", after := #[{ on := 8, ground := Ground.guard }], guard := some (8, true) }, { dst := some 101, op := Op.move (Operand.tmp 2), type := 9, pos := "law.go:148", after := #[{ on := 8, ground := Ground.guard }], guard := some (8, true) }, { dst := some 102, op := Op.call { callee := Callee.value (Operand.func 17), args := #[Operand.tmp 100, Operand.tmp 101], argTypes := #[27, 9] }, type := 4, pos := "law.go:148", after := #[{ on := 15, ground := Ground.data }, { on := 16, ground := Ground.data }, { on := 14, ground := Ground.chain }, { on := 8, ground := Ground.guard }], guard := some (8, true) }, { dst := some 103, op := Op.move (Operand.tmp 102), type := 4, pos := "law.go:148", after := #[{ on := 17, ground := Ground.data }, { on := 17, ground := Ground.chain }, { on := 8, ground := Ground.guard }], guard := some (8, true) }, { dst := some 104, op := Op.load 27 (Operand.tmp 4), type := 27, pos := "law.go:148", after := #[{ on := 18, ground := Ground.guard }], guard := some (18, false) }, { dst := some 105, op := Op.move (Operand.tmp 2), type := 9, pos := "law.go:148", after := #[{ on := 18, ground := Ground.guard }], guard := some (18, false) }, { dst := some 106, op := Op.call { callee := Callee.value (Operand.func 17), args := #[Operand.tmp 104, Operand.tmp 105], argTypes := #[27, 9] }, type := 4, pos := "law.go:148", after := #[{ on := 19, ground := Ground.data }, { on := 20, ground := Ground.data }, { on := 18, ground := Ground.chain }, { on := 18, ground := Ground.guard }], guard := some (18, false) }, { dst := some 107, op := Op.pick (Operand.tmp 103) (Operand.const (Value.bool true)) (Operand.tmp 106), type := 4, pos := "law.go:148", after := #[{ on := 18, ground := Ground.data }, { on := 21, ground := Ground.data }, { on := 8, ground := Ground.guard }], guard := some (8, true) }, { dst := some 108, op := Op.binOp BinOp.eql 4 (Operand.tmp 99) (Operand.tmp 107) 4, type := 4, pos := "law.go:148", after := #[{ on := 14, ground := Ground.data }, { on := 22, ground := Ground.data }, { on := 8, ground := Ground.guard }], guard := some (8, true) }, { dst := some 109, op := Op.pick (Operand.tmp 93) (Operand.tmp 108) (Operand.const (Value.bool false)), type := 4, pos := "law.go:148", after := #[{ on := 8, ground := Ground.data }, { on := 23, ground := Ground.data }], guard := none }, { dst := some 110, op := Op.move (Operand.tmp 109), type := 4, pos := "law.go:148", after := #[{ on := 24, ground := Ground.data }, { on := 21, ground := Ground.chain }], guard := none }, { dst := some 111, op := Op.load 27 (Operand.tmp 11), type := 27, pos := "law.go:148", after := #[{ on := 25, ground := Ground.guard }], guard := some (25, true) }, { dst := some 112, op := Op.move (Operand.tmp 2), type := 9, pos := "law.go:148", after := #[{ on := 25, ground := Ground.guard }], guard := some (25, true) }, { dst := some 113, op := Op.call { callee := Callee.value (Operand.func 17), args := #[Operand.tmp 111, Operand.tmp 112], argTypes := #[27, 9] }, type := 4, pos := "law.go:148", after := #[{ on := 26, ground := Ground.data }, { on := 27, ground := Ground.data }, { on := 25, ground := Ground.chain }, { on := 25, ground := Ground.guard }], guard := some (25, true) }, { dst := some 114, op := Op.move (Operand.tmp 13), type := 4, pos := "law.go:148", after := #[{ on := 25, ground := Ground.guard }], guard := some (25, true) }, { dst := some 115, op := Op.binOp BinOp.eql 4 (Operand.tmp 113) (Operand.tmp 114) 4, type := 4, pos := "law.go:148", after := #[{ on := 28, ground := Ground.data }, { on := 29, ground := Ground.data }, { on := 25, ground := Ground.guard }], guard := some (25, true) }, { dst := some 116, op := Op.pick (Operand.tmp 110) (Operand.tmp 115) (Operand.const (Value.bool false)), type := 4, pos := "law.go:148", after := #[{ on := 25, ground := Ground.data }, { on := 30, ground := Ground.data }], guard := none }, { dst := some 6, op := Op.assign (Operand.tmp 116), type := 4, pos := "law.go:148", after := #[{ on := 31, ground := Ground.data }, { on := 28, ground := Ground.chain }, { on := 0, ground := Ground.phase }, { on := 1, ground := Ground.phase }, { on := 2, ground := Ground.phase }, { on := 3, ground := Ground.phase }, { on := 4, ground := Ground.phase }, { on := 5, ground := Ground.phase }, { on := 6, ground := Ground.phase }, { on := 7, ground := Ground.phase }, { on := 8, ground := Ground.phase }, { on := 9, ground := Ground.phase }, { on := 10, ground := Ground.phase }, { on := 11, ground := Ground.phase }, { on := 12, ground := Ground.phase }, { on := 13, ground := Ground.phase }, { on := 14, ground := Ground.phase }, { on := 15, ground := Ground.phase }, { on := 16, ground := Ground.phase }, { on := 17, ground := Ground.phase }, { on := 18, ground := Ground.phase }, { on := 19, ground := Ground.phase }, { on := 20, ground := Ground.phase }, { on := 21, ground := Ground.phase }, { on := 22, ground := Ground.phase }, { on := 23, ground := Ground.phase }, { on := 24, ground := Ground.phase }, { on := 25, ground := Ground.phase }, { on := 26, ground := Ground.phase }, { on := 27, ground := Ground.phase }, { on := 28, ground := Ground.phase }, { on := 29, ground := Ground.phase }, { on := 30, ground := Ground.phase }, { on := 31, ground := Ground.phase }], guard := none }] true).wp Tryd.prog Q { tmps := (List.toArray ((u0 :: u1 :: .string s :: .pointer (some ⟨g3, 0, none⟩) :: .pointer (some ⟨g4, 0, none⟩) :: u5 :: u6 :: u7 :: u8 :: u9 :: u10 :: .pointer (some ⟨g11, 0, none⟩) :: .bool j :: .bool ag :: u14 :: u15 :: u16 :: u17 :: u18 :: u19 :: u20 :: u21 :: u22 :: u23 :: u24 :: u25 :: u26 :: u27 :: u28 :: u29 :: u30 :: u31 :: u32 :: u33 :: u34 :: u35 :: u36 :: u37 :: u38 :: u39 :: u40 :: u41 :: u42 :: u43 :: u44 :: u45 :: u46 :: u47 :: u48 :: u49 :: u50 :: u51 :: u52 :: u53 :: u54 :: u55 :: u56 :: u57 :: u58 :: u59 :: u60 :: u61 :: u62 :: u63 :: u64 :: u65 :: u66 :: u67 :: u68 :: u69 :: u70 :: u71 :: u72 :: u73 :: u74 :: u75 :: u76 :: u77 :: u78 :: u79 :: u80 :: u81 :: u82 :: u83 :: u84 :: u85 :: u86 :: u87 :: u88 :: u89 :: u90 :: u91 :: u92 :: u93 :: u94 :: u95 :: u96 :: u97 :: u98 :: u99 :: u100 :: u101 :: u102 :: u103 :: u104 :: u105 :: u106 :: u107 :: u108 :: u109 :: u110 :: u111 :: u112 :: u113 :: u114 :: u115 :: u116 :: []) : List Value)), defers := [] } w := by
  have hC := hide hC0
  clear hC0
  replace hbs := hide hbs
  replace hj := hide hj
  replace he := hide he
  replace hA := hide hA
  replace hS := hide hS
  replace hB := hide hB
  replace h := hide h
  refine wp_region_noPanic ?_
  refine wp_region_held_drew (S := fun w0 => Below w.heap.size w w0) (by kernel_rfl) (below_drew' (Below.refl _ _)) (fun hD => ?_)
  refine wpAnyH_take (i := 0) (oi := { dst := some 85, op := Op.load 27 (Operand.tmp 3), type := 27, pos := "law.go:148", after := #[], guard := none }) (v := A) rfl (by kernel_rfl) (by kernel_rfl) (by kernel_rfl) (fun _ _ _ h => h) (Or.inl ⟨by rfl, ?_⟩) hD ?_
  · intro w' hw'
    exact run_ldx27 _ rfl ((hC.out _ hw').1)
  try simp only [Act.put, List.setIfInBounds_toArray, List.set_cons_zero, List.set_cons_succ]
  refine wpAnyH_take (i := 1) (oi := { dst := some 86, op := Op.load 27 (Operand.tmp 4), type := 27, pos := "law.go:148", after := #[], guard := none }) (v := Bv) rfl (by kernel_rfl) (by kernel_rfl) (by kernel_rfl) (fun _ _ _ h => h) (Or.inl ⟨by rfl, ?_⟩) hD ?_
  · intro w' hw'
    exact run_ldx27 _ rfl ((hC.out _ hw').2.1)
  try simp only [Act.put, List.setIfInBounds_toArray, List.set_cons_zero, List.set_cons_succ]
  refine wpAnyH_take (i := 4) (oi := { dst := some 89, op := Op.move (Operand.tmp 2), type := 9, pos := "law.go:148", after := #[], guard := none }) (v := ?_) rfl (by kernel_rfl) (by kernel_rfl) (by kernel_rfl) (fun _ _ _ h => h) (Or.inl ⟨by rfl, ?_⟩) hD ?_
  rotate_left
  · intro w' hw'
    clear hw'
    go_simp
    try with_reducible rfl
  try simp only [Act.put, List.setIfInBounds_toArray, List.set_cons_zero, List.set_cons_succ]
  refine wpAnyH_take (i := 6) (oi := { dst := some 91, op := Op.move (Operand.tmp 12), type := 4, pos := "law.go:148", after := #[], guard := none }) (v := ?_) rfl (by kernel_rfl) (by kernel_rfl) (by kernel_rfl) (fun _ _ _ h => h) (Or.inl ⟨by rfl, ?_⟩) hD ?_
  rotate_left
  · intro w' hw'
    clear hw'
    go_simp
    try with_reducible rfl
  try simp only [Act.put, List.setIfInBounds_toArray, List.set_cons_zero, List.set_cons_succ]
  refine wpAnyH_ready (rs := [2]) (by kernel_rfl) (by simp) ?_
  refine (AllReadyH.cons (o := { dst := some 87, op := Op.buildSlice 25 2 #[(0, Operand.tmp 85), (1, Operand.tmp 86)], type := 25, pos := "law.go:148", after := #[{ on := 0, ground := Ground.data }, { on := 1, ground := Ground.data }], guard := none }) rfl (fun K2 hK2 => ?_) AllReadyH.nil)
  refine step_valJ (by rfl) (run_bsAB _ rfl rfl (hbs.out _)) ?_
  refine hK2.out _ _ (hD.alloc hD.size _) (fun hD1 => ?_)
  clear hK2 K2
  try simp only [Act.put, List.setIfInBounds_toArray, List.set_cons_zero, List.set_cons_succ]
  refine wpAnyH_take (i := 3) (oi := { dst := some 88, op := Op.build 27 #[(0, Operand.const (Value.int IntKind.i64 2)), (2, Operand.tmp 87)], type := 27, pos := "law.go:148", after := #[{ on := 2, ground := Ground.data }], guard := none }) (v := (reV 2 noSet (.slice (some ⟨w.drew.heap.size, 0, none⟩) 2 2) 0 0)) rfl (by kernel_rfl) (by kernel_rfl) (by kernel_rfl) (fun _ _ _ h => h) (Or.inl ⟨by rfl, ?_⟩) hD1 ?_
  · intro w' hw'
    exact run_bd27 _ rfl rfl ⟨_, _, _, rfl⟩ _
  try simp only [Act.put, List.setIfInBounds_toArray, List.set_cons_zero, List.set_cons_succ]
  refine wpAnyH_ready (rs := [5]) (by kernel_rfl) (by simp) ?_
  refine (AllReadyH.cons (o := { dst := some 90, op := Op.call { callee := Callee.value (Operand.func 17), args := #[Operand.tmp 88, Operand.tmp 89], argTypes := #[27, 9] }, type := 4, pos := "law.go:148", after := #[{ on := 3, ground := Ground.data }, { on := 4, ground := Ground.data }], guard := none }) rfl (fun K5 hK5 => ?_) AllReadyH.nil)
  go_simp
  refine (hj.out w.drew hD).mono ?_
  rintro e w2x ⟨QQ2, rfl⟩
  refine hK5.out _ _ (hD.trans (QQ2.mono hD.size)) (fun hD2 => ?_)
  clear hK5 K5
  try simp only [Act.put, List.setIfInBounds_toArray, List.set_cons_zero, List.set_cons_succ]
  refine wpAnyH_take (i := 7) (oi := { dst := some 92, op := Op.binOp BinOp.eql 4 (Operand.tmp 90) (Operand.tmp 91) 4, type := 4, pos := "law.go:148", after := #[{ on := 5, ground := Ground.data }, { on := 6, ground := Ground.data }], guard := none }) (v := ?_) rfl (by kernel_rfl) (by kernel_rfl) (by kernel_rfl) (fun _ _ _ h => h) (Or.inl ⟨by rfl, ?_⟩) hD2 ?_
  rotate_left
  · intro w' hw'
    clear hw'
    go_simp
    try with_reducible rfl
  try simp only [Act.put, List.setIfInBounds_toArray, List.set_cons_zero, List.set_cons_succ]
  refine wpAnyH_take (i := 8) (oi := { dst := some 93, op := Op.move (Operand.tmp 92), type := 4, pos := "law.go:148", after := #[{ on := 7, ground := Ground.data }, { on := 5, ground := Ground.chain }], guard := none }) (v := ?_) rfl (by kernel_rfl) (by kernel_rfl) (by kernel_rfl) (fun _ _ _ h => h) (Or.inl ⟨by rfl, ?_⟩) hD2 ?_
  rotate_left
  · intro w' hw'
    clear hw'
    go_simp
    try with_reducible rfl
  try simp only [Act.put, List.setIfInBounds_toArray, List.set_cons_zero, List.set_cons_succ]
  refine wpAnyH_take (i := 9) (oi := { dst := some 94, op := Op.load 27 (Operand.tmp 3), type := 27, pos := "law.go:148", after := #[{ on := 8, ground := Ground.guard }], guard := some (8, true) }) (v := A) rfl (by kernel_rfl) (by kernel_rfl) (by kernel_rfl) (fun _ _ _ h => h) (Or.inl ⟨by rfl, ?_⟩) hD2 ?_
  · intro w' hw'
    exact run_ldx27 _ rfl ((hC.out _ hw').1)
  try simp only [Act.put, List.setIfInBounds_toArray, List.set_cons_zero, List.set_cons_succ]
  refine wpAnyH_take (i := 10) (oi := { dst := some 95, op := Op.load 27 (Operand.tmp 4), type := 27, pos := "law.go:148", after := #[{ on := 8, ground := Ground.guard }], guard := some (8, true) }) (v := Bv) rfl (by kernel_rfl) (by kernel_rfl) (by kernel_rfl) (fun _ _ _ h => h) (Or.inl ⟨by rfl, ?_⟩) hD2 ?_
  · intro w' hw'
    exact run_ldx27 _ rfl ((hC.out _ hw').2.1)
  try simp only [Act.put, List.setIfInBounds_toArray, List.set_cons_zero, List.set_cons_succ]
  refine wpAnyH_take (i := 13) (oi := { dst := some 98, op := Op.move (Operand.tmp 2), type := 9, pos := "law.go:148", after := #[{ on := 8, ground := Ground.guard }], guard := some (8, true) }) (v := ?_) rfl (by kernel_rfl) (by kernel_rfl) (by kernel_rfl) (fun _ _ _ h => h) (Or.inl ⟨by rfl, ?_⟩) hD2 ?_
  rotate_left
  · intro w' hw'
    clear hw'
    go_simp
    try with_reducible rfl
  try simp only [Act.put, List.setIfInBounds_toArray, List.set_cons_zero, List.set_cons_succ]
  refine wpAnyH_take (i := 15) (oi := { dst := some 100, op := Op.load 27 (Operand.tmp 3), type := 27, pos := "law.go:148", after := #[{ on := 8, ground := Ground.guard }], guard := some (8, true) }) (v := A) rfl (by kernel_rfl) (by kernel_rfl) (by kernel_rfl) (fun _ _ _ h => h) (Or.inl ⟨by rfl, ?_⟩) hD2 ?_
  · intro w' hw'
    exact run_ldx27 _ rfl ((hC.out _ hw').1)
  try simp only [Act.put, List.setIfInBounds_toArray, List.set_cons_zero, List.set_cons_succ]
  refine wpAnyH_take (i := 16) (oi := { dst := some 101, op := Op.move (Operand.tmp 2), type := 9, pos := "law.go:148", after := #[{ on := 8, ground := Ground.guard }], guard := some (8, true) }) (v := ?_) rfl (by kernel_rfl) (by kernel_rfl) (by kernel_rfl) (fun _ _ _ h => h) (Or.inl ⟨by rfl, ?_⟩) hD2 ?_
  rotate_left
  · intro w' hw'
    clear hw'
    go_simp
    try with_reducible rfl
  try simp only [Act.put, List.setIfInBounds_toArray, List.set_cons_zero, List.set_cons_succ]
  refine wpAnyH_ready (rs := [11]) (by kernel_rfl) (by simp) ?_
  refine (AllReadyH.cons (o := { dst := some 96, op := Op.buildSlice 25 2 #[(0, Operand.tmp 94), (1, Operand.tmp 95)], type := 25, pos := "law.go:148", after := #[{ on := 9, ground := Ground.data }, { on := 10, ground := Ground.data }, { on := 8, ground := Ground.guard }], guard := some (8, true) }) rfl (fun K11 hK11 => ?_) AllReadyH.nil)
  refine step_valJ (by rfl) (run_bsAB _ rfl rfl (hbs.out _)) ?_
  refine hK11.out _ _ (hD2.alloc hD2.size _) (fun hD3 => ?_)
  clear hK11 K11
  try simp only [Act.put, List.setIfInBounds_toArray, List.set_cons_zero, List.set_cons_succ]
  refine wpAnyH_take (i := 12) (oi := { dst := some 97, op := Op.build 27 #[(0, Operand.const (Value.int IntKind.i64 3)), (2, Operand.tmp 96)], type := 27, pos := "law.go:148", after := #[{ on := 11, ground := Ground.data }, { on := 8, ground := Ground.guard }], guard := some (8, true) }) (v := (reV 3 noSet (.slice (some ⟨w2x.heap.size, 0, none⟩) 2 2) 0 0)) rfl (by kernel_rfl) (by kernel_rfl) (by kernel_rfl) (fun _ _ _ h => h) (Or.inl ⟨by rfl, ?_⟩) hD3 ?_
  · intro w' hw'
    exact run_bd27 _ rfl rfl ⟨_, _, _, rfl⟩ _
  try simp only [Act.put, List.setIfInBounds_toArray, List.set_cons_zero, List.set_cons_succ]
  refine wpAnyH_ready (rs := [14]) (by kernel_rfl) (by simp) ?_
  refine (AllReadyH.cons (o := { dst := some 99, op := Op.call { callee := Callee.value (Operand.func 17), args := #[Operand.tmp 97, Operand.tmp 98], argTypes := #[27, 9] }, type := 4, pos := "law.go:148", after := #[{ on := 12, ground := Ground.data }, { on := 13, ground := Ground.data }, { on := 8, ground := Ground.chain }, { on := 8, ground := Ground.guard }], guard := some (8, true) }) rfl (fun K14 hK14 => ?_) AllReadyH.nil)
  go_simp
  refine (he.out w2x hD2).mono ?_
  rintro e w4x ⟨QQ4, rfl⟩
  refine hK14.out _ _ (hD2.trans (QQ4.mono hD2.size)) (fun hD4 => ?_)
  clear hK14 K14
  try simp only [Act.put, List.setIfInBounds_toArray, List.set_cons_zero, List.set_cons_succ]
  refine wpAnyH_ready (rs := [17]) (by kernel_rfl) (by simp) ?_
  refine (AllReadyH.cons (o := { dst := some 102, op := Op.call { callee := Callee.value (Operand.func 17), args := #[Operand.tmp 100, Operand.tmp 101], argTypes := #[27, 9] }, type := 4, pos := "law.go:148", after := #[{ on := 15, ground := Ground.data }, { on := 16, ground := Ground.data }, { on := 14, ground := Ground.chain }, { on := 8, ground := Ground.guard }], guard := some (8, true) }) rfl (fun K17 hK17 => ?_) AllReadyH.nil)
  go_simp
  refine (hA.out _ hD4).mono ?_
  rintro e w5x ⟨QQ5, rfl⟩
  refine hK17.out _ _ (hD4.trans (QQ5.mono hD4.size)) (fun hD5 => ?_)
  clear hK17 K17
  try simp only [Act.put, List.setIfInBounds_toArray, List.set_cons_zero, List.set_cons_succ]
  refine wpAnyH_take (i := 18) (oi := { dst := some 103, op := Op.move (Operand.tmp 102), type := 4, pos := "law.go:148", after := #[{ on := 17, ground := Ground.data }, { on := 17, ground := Ground.chain }, { on := 8, ground := Ground.guard }], guard := some (8, true) }) (v := ?_) rfl (by kernel_rfl) (by kernel_rfl) (by kernel_rfl) (fun _ _ _ h => h) (Or.inl ⟨by rfl, ?_⟩) hD5 ?_
  rotate_left
  · intro w' hw'
    clear hw'
    go_simp
    try with_reducible rfl
  try simp only [Act.put, List.setIfInBounds_toArray, List.set_cons_zero, List.set_cons_succ]
  refine wpAnyH_take (i := 19) (oi := { dst := some 104, op := Op.load 27 (Operand.tmp 4), type := 27, pos := "law.go:148", after := #[{ on := 18, ground := Ground.guard }], guard := some (18, false) }) (v := Bv) rfl (by kernel_rfl) (by kernel_rfl) (by kernel_rfl) (fun _ _ _ h => h) (Or.inl ⟨by rfl, ?_⟩) hD5 ?_
  · intro w' hw'
    exact run_ldx27 _ rfl ((hC.out _ hw').2.1)
  try simp only [Act.put, List.setIfInBounds_toArray, List.set_cons_zero, List.set_cons_succ]
  refine wpAnyH_take (i := 20) (oi := { dst := some 105, op := Op.move (Operand.tmp 2), type := 9, pos := "law.go:148", after := #[{ on := 18, ground := Ground.guard }], guard := some (18, false) }) (v := ?_) rfl (by kernel_rfl) (by kernel_rfl) (by kernel_rfl) (fun _ _ _ h => h) (Or.inl ⟨by rfl, ?_⟩) hD5 ?_
  rotate_left
  · intro w' hw'
    clear hw'
    go_simp
    try with_reducible rfl
  try simp only [Act.put, List.setIfInBounds_toArray, List.set_cons_zero, List.set_cons_succ]
  refine wpAnyH_ready (rs := [21]) (by kernel_rfl) (by simp) ?_
  refine (AllReadyH.cons (o := { dst := some 106, op := Op.call { callee := Callee.value (Operand.func 17), args := #[Operand.tmp 104, Operand.tmp 105], argTypes := #[27, 9] }, type := 4, pos := "law.go:148", after := #[{ on := 19, ground := Ground.data }, { on := 20, ground := Ground.data }, { on := 18, ground := Ground.chain }, { on := 18, ground := Ground.guard }], guard := some (18, false) }) rfl (fun K21 hK21 => ?_) AllReadyH.nil)
  go_simp
  refine (hB.out _ hD5).mono ?_
  rintro e w6x ⟨QQ6, rfl⟩
  refine hK21.out _ _ (hD5.trans (QQ6.mono hD5.size)) (fun hD6 => ?_)
  clear hK21 K21
  try simp only [Act.put, List.setIfInBounds_toArray, List.set_cons_zero, List.set_cons_succ]
  refine wpAnyH_take (i := 22) (oi := { dst := some 107, op := Op.pick (Operand.tmp 103) (Operand.const (Value.bool true)) (Operand.tmp 106), type := 4, pos := "law.go:148", after := #[{ on := 18, ground := Ground.data }, { on := 21, ground := Ground.data }, { on := 8, ground := Ground.guard }], guard := some (8, true) }) (v := ?_) rfl (by kernel_rfl) (by kernel_rfl) (by kernel_rfl) (fun _ _ _ h => h) (Or.inl ⟨by rfl, ?_⟩) hD6 ?_
  rotate_left
  · intro w' hw'
    clear hw'
    go_simp
    try with_reducible rfl
  try simp only [Act.put, List.setIfInBounds_toArray, List.set_cons_zero, List.set_cons_succ]
  refine wpAnyH_take (i := 23) (oi := { dst := some 108, op := Op.binOp BinOp.eql 4 (Operand.tmp 99) (Operand.tmp 107) 4, type := 4, pos := "law.go:148", after := #[{ on := 14, ground := Ground.data }, { on := 22, ground := Ground.data }, { on := 8, ground := Ground.guard }], guard := some (8, true) }) (v := ?_) rfl (by kernel_rfl) (by kernel_rfl) (by kernel_rfl) (fun _ _ _ h => h) (Or.inl ⟨by rfl, ?_⟩) hD6 ?_
  rotate_left
  · intro w' hw'
    clear hw'
    go_simp
    try with_reducible rfl
  try simp only [Act.put, List.setIfInBounds_toArray, List.set_cons_zero, List.set_cons_succ]
  refine wpAnyH_take (i := 24) (oi := { dst := some 109, op := Op.pick (Operand.tmp 93) (Operand.tmp 108) (Operand.const (Value.bool false)), type := 4, pos := "law.go:148", after := #[{ on := 8, ground := Ground.data }, { on := 23, ground := Ground.data }], guard := none }) (v := ?_) rfl (by kernel_rfl) (by kernel_rfl) (by kernel_rfl) (fun _ _ _ h => h) (Or.inl ⟨by rfl, ?_⟩) hD6 ?_
  rotate_left
  · intro w' hw'
    clear hw'
    go_simp
    try with_reducible rfl
  try simp only [Act.put, List.setIfInBounds_toArray, List.set_cons_zero, List.set_cons_succ]
  refine wpAnyH_take (i := 25) (oi := { dst := some 110, op := Op.move (Operand.tmp 109), type := 4, pos := "law.go:148", after := #[{ on := 24, ground := Ground.data }, { on := 21, ground := Ground.chain }], guard := none }) (v := ?_) rfl (by kernel_rfl) (by kernel_rfl) (by kernel_rfl) (fun _ _ _ h => h) (Or.inl ⟨by rfl, ?_⟩) hD6 ?_
  rotate_left
  · intro w' hw'
    clear hw'
    go_simp
    try with_reducible rfl
  try simp only [Act.put, List.setIfInBounds_toArray, List.set_cons_zero, List.set_cons_succ]
  refine wpAnyH_take (i := 26) (oi := { dst := some 111, op := Op.load 27 (Operand.tmp 11), type := 27, pos := "law.go:148", after := #[{ on := 25, ground := Ground.guard }], guard := some (25, true) }) (v := Cv) rfl (by kernel_rfl) (by kernel_rfl) (by kernel_rfl) (fun _ _ _ h => h) (Or.inl ⟨by rfl, ?_⟩) hD6 ?_
  · intro w' hw'
    exact run_ldx27 _ rfl ((hC.out _ hw').2.2)
  try simp only [Act.put, List.setIfInBounds_toArray, List.set_cons_zero, List.set_cons_succ]
  refine wpAnyH_take (i := 27) (oi := { dst := some 112, op := Op.move (Operand.tmp 2), type := 9, pos := "law.go:148", after := #[{ on := 25, ground := Ground.guard }], guard := some (25, true) }) (v := ?_) rfl (by kernel_rfl) (by kernel_rfl) (by kernel_rfl) (fun _ _ _ h => h) (Or.inl ⟨by rfl, ?_⟩) hD6 ?_
  rotate_left
  · intro w' hw'
    clear hw'
    go_simp
    try with_reducible rfl
  try simp only [Act.put, List.setIfInBounds_toArray, List.set_cons_zero, List.set_cons_succ]
  refine wpAnyH_take (i := 29) (oi := { dst := some 114, op := Op.move (Operand.tmp 13), type := 4, pos := "law.go:148", after := #[{ on := 25, ground := Ground.guard }], guard := some (25, true) }) (v := ?_) rfl (by kernel_rfl) (by kernel_rfl) (by kernel_rfl) (fun _ _ _ h => h) (Or.inl ⟨by rfl, ?_⟩) hD6 ?_
  rotate_left
  · intro w' hw'
    clear hw'
    go_simp
    try with_reducible rfl
  try simp only [Act.put, List.setIfInBounds_toArray, List.set_cons_zero, List.set_cons_succ]
  refine wpAnyH_ready (rs := [28]) (by kernel_rfl) (by simp) ?_
  refine (AllReadyH.cons (o := { dst := some 113, op := Op.call { callee := Callee.value (Operand.func 17), args := #[Operand.tmp 111, Operand.tmp 112], argTypes := #[27, 9] }, type := 4, pos := "law.go:148", after := #[{ on := 26, ground := Ground.data }, { on := 27, ground := Ground.data }, { on := 25, ground := Ground.chain }, { on := 25, ground := Ground.guard }], guard := some (25, true) }) rfl (fun K28 hK28 => ?_) AllReadyH.nil)
  go_simp
  refine (hS.out _ hD6).mono ?_
  rintro e w7x ⟨QQ7, rfl⟩
  refine hK28.out _ _ (hD6.trans (QQ7.mono hD6.size)) (fun hD7 => ?_)
  clear hK28 K28
  try simp only [Act.put, List.setIfInBounds_toArray, List.set_cons_zero, List.set_cons_succ]
  refine wpAnyH_take (i := 30) (oi := { dst := some 115, op := Op.binOp BinOp.eql 4 (Operand.tmp 113) (Operand.tmp 114) 4, type := 4, pos := "law.go:148", after := #[{ on := 28, ground := Ground.data }, { on := 29, ground := Ground.data }, { on := 25, ground := Ground.guard }], guard := some (25, true) }) (v := ?_) rfl (by kernel_rfl) (by kernel_rfl) (by kernel_rfl) (fun _ _ _ h => h) (Or.inl ⟨by rfl, ?_⟩) hD7 ?_
  rotate_left
  · intro w' hw'
    clear hw'
    go_simp
    try with_reducible rfl
  try simp only [Act.put, List.setIfInBounds_toArray, List.set_cons_zero, List.set_cons_succ]
  refine wpAnyH_take (i := 31) (oi := { dst := some 116, op := Op.pick (Operand.tmp 110) (Operand.tmp 115) (Operand.const (Value.bool false)), type := 4, pos := "law.go:148", after := #[{ on := 25, ground := Ground.data }, { on := 30, ground := Ground.data }], guard := none }) (v := ?_) rfl (by kernel_rfl) (by kernel_rfl) (by kernel_rfl) (fun _ _ _ h => h) (Or.inl ⟨by rfl, ?_⟩) hD7 ?_
  rotate_left
  · intro w' hw'
    clear hw'
    go_simp
    try with_reducible rfl
  try simp only [Act.put, List.setIfInBounds_toArray, List.set_cons_zero, List.set_cons_succ]
  refine wpAnyH_take (i := 32) (oi := { dst := some 6, op := Op.assign (Operand.tmp 116), type := 4, pos := "law.go:148", after := #[{ on := 31, ground := Ground.data }, { on := 28, ground := Ground.chain }, { on := 0, ground := Ground.phase }, { on := 1, ground := Ground.phase }, { on := 2, ground := Ground.phase }, { on := 3, ground := Ground.phase }, { on := 4, ground := Ground.phase }, { on := 5, ground := Ground.phase }, { on := 6, ground := Ground.phase }, { on := 7, ground := Ground.phase }, { on := 8, ground := Ground.phase }, { on := 9, ground := Ground.phase }, { on := 10, ground := Ground.phase }, { on := 11, ground := Ground.phase }, { on := 12, ground := Ground.phase }, { on := 13, ground := Ground.phase }, { on := 14, ground := Ground.phase }, { on := 15, ground := Ground.phase }, { on := 16, ground := Ground.phase }, { on := 17, ground := Ground.phase }, { on := 18, ground := Ground.phase }, { on := 19, ground := Ground.phase }, { on := 20, ground := Ground.phase }, { on := 21, ground := Ground.phase }, { on := 22, ground := Ground.phase }, { on := 23, ground := Ground.phase }, { on := 24, ground := Ground.phase }, { on := 25, ground := Ground.phase }, { on := 26, ground := Ground.phase }, { on := 27, ground := Ground.phase }, { on := 28, ground := Ground.phase }, { on := 29, ground := Ground.phase }, { on := 30, ground := Ground.phase }, { on := 31, ground := Ground.phase }], guard := none }) (v := ?_) rfl (by kernel_rfl) (by kernel_rfl) (by kernel_rfl) (fun _ _ _ h => h) (Or.inl ⟨by rfl, ?_⟩) hD7 ?_
  rotate_left
  · intro w' hw'
    clear hw'
    go_simp
    try with_reducible rfl
  try simp only [Act.put, List.setIfInBounds_toArray, List.set_cons_zero, List.set_cons_succ]
  refine wpAnyH_done (by kernel_rfl) ?_ _
  refine NoPanic.normal ?_
  exact h.out _ _ _ hD7
end Go.Proofs.YthgdfgkjaepchaaDoor
