/-
  slices.Chunk: its iterator.
-/
import Derived.Test.YtmjjedbdedemcaaDoorTU
import Derived.Test.YtmjjedbdedemcaaDoorTM
namespace Go.Proofs.YtmjjedbdedemcaaDoor
open Go.RowKit Go.Shelf
set_option linter.unusedVariables false
set_option linter.unusedSimpArgs false
attribute [local go_sem] Oper.semAt_some

theorem sChunk_in (n : Nat) (a : Option Addr) (len cap : Nat) (w : World) :
    CallsIn Fence.wide n Tryd.prog 19 #[.slice a len cap, .int .i64 120] w fun e w' => e = .returned (.func (.func 28) #[] #[.pointer (some ⟨w.heap.size, 0, none⟩), .pointer (some ⟨w.heap.size + 1, 0, none⟩)]) ∧ w' = (w.alloc (.cells #[.slice a len cap] 26)).alloc (.cells #[.int .i64 120] 3) := by
  refine callsIn_of_wp Tryd.func19 rfl trivial ?_ rfl
  simp only [Tryd.ntmps19, List.size_toArray, List.length_cons, List.length_nil, Nat.reduceAdd, Nat.reduceSub, Array.replicate_succ, Array.replicate_zero, List.push_toArray, List.append_toArray, List.nil_append, List.cons_append]
  gi_wp2
  go_ret
  exact ⟨rfl, rfl⟩

set_option maxRecDepth 100000 in
set_option maxHeartbeats 4000000 in
theorem chunk_region (n : Nat) (w : World) (B1 B2 b off len cap i r e : Nat) (ad : Option Addr) (v0 v3 v5 v6 v7 v8 v9 v10 v11 v12 v13 v14 v15 v16 v17 v18 v19 v20 v21 v22 v23 v24 v25 v26 v27 v28 v29 v30 : Value) (Q : Exit → Act → World → Prop) (hB1 : w.cell? ⟨B1, 0, none⟩ = some (.slice (some ⟨b, off, none⟩) len cap)) (hB2 : w.cell? ⟨B2, 0, none⟩ = some (.int .i64 120))
    (hi : i < len) (hlc : len ≤ cap) (hcap : cap ≤ 9223372036854775807) (hr : len - i = r) (he : min 120 r = e) (had : (if cap = i then some (⟨b, off, none⟩ : Addr) else some ⟨b, off + i * 2, none⟩) = ad)
    (h : Q .normal { tmps := #[v0, .pointer (some ⟨B1, 0, none⟩), .pointer (some ⟨B2, 0, none⟩), v3, .int .i64 (i : Int), .int .i64 (e : Int), v6, v7, v8, v9, v10, v11, v12, .int .i64 120, .slice (some ⟨b, off, none⟩) len cap, .int .i64 (i : Int), .slice ad r (cap - i), .int .i64 (r : Int), .int .i64 (e : Int), v19, v20, v21, v22, v23, v24, v25, v26, v27, v28, v29, v30], defers := [] } w.drew) :
    (Code.region 3 #[{ dst := some 13, op := Op.load 3 (Operand.tmp 2), type := 3, pos := "iter.go:105", after := #[], guard := none }, { dst := some 14, op := Op.load 26 (Operand.tmp 1), type := 26, pos := "iter.go:105", after := #[], guard := none }, { dst := some 15, op := Op.move (Operand.tmp 4), type := 3, pos := "iter.go:105", after := #[], guard := none }, { dst := some 16, op := Op.slice 26 (Operand.tmp 14) (some (Operand.tmp 15)) none none, type := 26, pos := "iter.go:105", after := #[{ on := 1, ground := Ground.data }, { on := 2, ground := Ground.data }], guard := none }, { dst := some 17, op := Op.call { callee := Callee.builtin Builtin.len, args := #[Operand.tmp 16], argTypes := #[26] }, type := 3, pos := "iter.go:105", after := #[{ on := 3, ground := Ground.data }], guard := none }, { dst := some 18, op := Op.call { callee := Callee.builtin Builtin.min, args := #[Operand.tmp 13, Operand.tmp 17], argTypes := #[3, 3] }, type := 3, pos := "iter.go:105", after := #[{ on := 0, ground := Ground.data }, { on := 4, ground := Ground.data }], guard := none }, { dst := some 5, op := Op.assign (Operand.tmp 18), type := 3, pos := "iter.go:105", after := #[{ on := 5, ground := Ground.data }, { on := 0, ground := Ground.phase }, { on := 1, ground := Ground.phase }, { on := 2, ground := Ground.phase }, { on := 3, ground := Ground.phase }, { on := 4, ground := Ground.phase }, { on := 5, ground := Ground.phase }], guard := none }] true).wpIn Fence.wide n Tryd.prog Q { tmps := #[v0, .pointer (some ⟨B1, 0, none⟩), .pointer (some ⟨B2, 0, none⟩), v3, .int .i64 (i : Int), v5, v6, v7, v8, v9, v10, v11, v12, v13, v14, v15, v16, v17, v18, v19, v20, v21, v22, v23, v24, v25, v26, v27, v28, v29, v30], defers := [] } w := by
  have j1 : (i : Int) ≤ (len : Int) := by omega
  have j2 : (i : Int) ≤ (cap : Int) := by omega
  have j3 : (len : Int) ≤ (cap : Int) := by omega
  have j4 : (0 : Int) ≤ (i : Int) := by omega
  have k1 : (if (r : Int) < 120 then (r : Int) else 120) = (e : Int) := by split <;> omega
  have k2 : (if (120 : Int) < (r : Int) then (120 : Int) else (r : Int)) = (e : Int) := by split <;> omega
  have k3 : (if r < 120 then (r : Int) else 120) = (e : Int) := by split <;> omega
  have k4 : (if 120 < r then (120 : Int) else (r : Int)) = (e : Int) := by split <;> omega
  have k5 : (if (r : Int) ≤ 120 then (r : Int) else 120) = (e : Int) := by split <;> omega
  have k6 : (if (120 : Int) ≤ (r : Int) then (120 : Int) else (r : Int)) = (e : Int) := by split <;> omega
  have c1 : w.drew.cell? ⟨B1, 0, none⟩ = some (.slice (some ⟨b, off, none⟩) len cap) := hB1
  have c2 : w.drew.cell? ⟨B2, 0, none⟩ = some (.int .i64 120) := hB2
  have j5 : i ≤ len := by omega
  have j6 : i ≤ cap := by omega
  replace he := hide he
  replace hi := hide hi
  clear hB1 hB2
  refine wpIn_region_any (by kernel_rfl) ?_
  change wpAnyIn _ _ _ _ _ _ _ _ _ (World.drew w)
  refine wpAnyIn_ready (rs := [0, 1, 2]) (by kernel_rfl) (by simp) ?_
  refine (AllReadyIn.cons (o := { dst := some 13, op := Op.load 3 (Operand.tmp 2), type := 3, pos := "iter.go:105", after := #[], guard := none }) rfl (fun K0 hK0 => ?_) (AllReadyIn.cons (o := { dst := some 14, op := Op.load 26 (Operand.tmp 1), type := 26, pos := "iter.go:105", after := #[], guard := none }) rfl (fun K1 hK1 => ?_) (AllReadyIn.cons (o := { dst := some 15, op := Op.move (Operand.tmp 4), type := 3, pos := "iter.go:105", after := #[], guard := none }) rfl (fun K2 hK2 => ?_) AllReadyIn.nil)))
  · go_simp
    refine hK0 _ _ ?_
    clear hK0 K0
    try simp only [Act.put, List.setIfInBounds_toArray, List.set_cons_zero, List.set_cons_succ]
    refine wpAnyIn_ready (rs := [1, 2]) (by kernel_rfl) (by simp) ?_
    refine (AllReadyIn.cons (o := { dst := some 14, op := Op.load 26 (Operand.tmp 1), type := 26, pos := "iter.go:105", after := #[], guard := none }) rfl (fun K1 hK1 => ?_) (AllReadyIn.cons (o := { dst := some 15, op := Op.move (Operand.tmp 4), type := 3, pos := "iter.go:105", after := #[], guard := none }) rfl (fun K2 hK2 => ?_) AllReadyIn.nil))
    · go_simp
      refine hK1 _ _ ?_
      clear hK1 K1
      try simp only [Act.put, List.setIfInBounds_toArray, List.set_cons_zero, List.set_cons_succ]
      refine wpAnyIn_ready (rs := [2]) (by kernel_rfl) (by simp) ?_
      refine (AllReadyIn.cons (o := { dst := some 15, op := Op.move (Operand.tmp 4), type := 3, pos := "iter.go:105", after := #[], guard := none }) rfl (fun K2 hK2 => ?_) AllReadyIn.nil)
      go_simp
      refine hK2 _ _ ?_
      clear hK2 K2
      try simp only [Act.put, List.setIfInBounds_toArray, List.set_cons_zero, List.set_cons_succ]
      refine wpAnyIn_ready (rs := [3]) (by kernel_rfl) (by simp) ?_
      refine (AllReadyIn.cons (o := { dst := some 16, op := Op.slice 26 (Operand.tmp 14) (some (Operand.tmp 15)) none none, type := 26, pos := "iter.go:105", after := #[{ on := 1, ground := Ground.data }, { on := 2, ground := Ground.data }], guard := none }) rfl (fun K3 hK3 => ?_) AllReadyIn.nil)
      go_simp
      refine hK3 _ _ ?_
      clear hK3 K3
      try simp only [Act.put, List.setIfInBounds_toArray, List.set_cons_zero, List.set_cons_succ]
      refine wpAnyIn_ready (rs := [4]) (by kernel_rfl) (by simp) ?_
      refine (AllReadyIn.cons (o := { dst := some 17, op := Op.call { callee := Callee.builtin Builtin.len, args := #[Operand.tmp 16], argTypes := #[26] }, type := 3, pos := "iter.go:105", after := #[{ on := 3, ground := Ground.data }], guard := none }) rfl (fun K4 hK4 => ?_) AllReadyIn.nil)
      go_simp
      refine hK4 _ _ ?_
      clear hK4 K4
      try simp only [Act.put, List.setIfInBounds_toArray, List.set_cons_zero, List.set_cons_succ]
      refine wpAnyIn_ready (rs := [5]) (by kernel_rfl) (by simp) ?_
      refine (AllReadyIn.cons (o := { dst := some 18, op := Op.call { callee := Callee.builtin Builtin.min, args := #[Operand.tmp 13, Operand.tmp 17], argTypes := #[3, 3] }, type := 3, pos := "iter.go:105", after := #[{ on := 0, ground := Ground.data }, { on := 4, ground := Ground.data }], guard := none }) rfl (fun K5 hK5 => ?_) AllReadyIn.nil)
      go_simp
      refine hK5 _ _ ?_
      clear hK5 K5
      try simp only [Act.put, List.setIfInBounds_toArray, List.set_cons_zero, List.set_cons_succ]
      refine wpAnyIn_ready (rs := [6]) (by kernel_rfl) (by simp) ?_
      refine (AllReadyIn.cons (o := { dst := some 5, op := Op.assign (Operand.tmp 18), type := 3, pos := "iter.go:105", after := #[{ on := 5, ground := Ground.data }, { on := 0, ground := Ground.phase }, { on := 1, ground := Ground.phase }, { on := 2, ground := Ground.phase }, { on := 3, ground := Ground.phase }, { on := 4, ground := Ground.phase }, { on := 5, ground := Ground.phase }], guard := none }) rfl (fun K6 hK6 => ?_) AllReadyIn.nil)
      go_simp
      refine hK6 _ _ ?_
      clear hK6 K6
      try simp only [Act.put, List.setIfInBounds_toArray, List.set_cons_zero, List.set_cons_succ]
      exact wpAnyIn_done (by kernel_rfl) h _
    · go_simp
      refine hK2 _ _ ?_
      clear hK2 K2
      try simp only [Act.put, List.setIfInBounds_toArray, List.set_cons_zero, List.set_cons_succ]
      refine wpAnyIn_ready (rs := [1]) (by kernel_rfl) (by simp) ?_
      refine (AllReadyIn.cons (o := { dst := some 14, op := Op.load 26 (Operand.tmp 1), type := 26, pos := "iter.go:105", after := #[], guard := none }) rfl (fun K1 hK1 => ?_) AllReadyIn.nil)
      go_simp
      refine hK1 _ _ ?_
      clear hK1 K1
      try simp only [Act.put, List.setIfInBounds_toArray, List.set_cons_zero, List.set_cons_succ]
      refine wpAnyIn_ready (rs := [3]) (by kernel_rfl) (by simp) ?_
      refine (AllReadyIn.cons (o := { dst := some 16, op := Op.slice 26 (Operand.tmp 14) (some (Operand.tmp 15)) none none, type := 26, pos := "iter.go:105", after := #[{ on := 1, ground := Ground.data }, { on := 2, ground := Ground.data }], guard := none }) rfl (fun K3 hK3 => ?_) AllReadyIn.nil)
      go_simp
      refine hK3 _ _ ?_
      clear hK3 K3
      try simp only [Act.put, List.setIfInBounds_toArray, List.set_cons_zero, List.set_cons_succ]
      refine wpAnyIn_ready (rs := [4]) (by kernel_rfl) (by simp) ?_
      refine (AllReadyIn.cons (o := { dst := some 17, op := Op.call { callee := Callee.builtin Builtin.len, args := #[Operand.tmp 16], argTypes := #[26] }, type := 3, pos := "iter.go:105", after := #[{ on := 3, ground := Ground.data }], guard := none }) rfl (fun K4 hK4 => ?_) AllReadyIn.nil)
      go_simp
      refine hK4 _ _ ?_
      clear hK4 K4
      try simp only [Act.put, List.setIfInBounds_toArray, List.set_cons_zero, List.set_cons_succ]
      refine wpAnyIn_ready (rs := [5]) (by kernel_rfl) (by simp) ?_
      refine (AllReadyIn.cons (o := { dst := some 18, op := Op.call { callee := Callee.builtin Builtin.min, args := #[Operand.tmp 13, Operand.tmp 17], argTypes := #[3, 3] }, type := 3, pos := "iter.go:105", after := #[{ on := 0, ground := Ground.data }, { on := 4, ground := Ground.data }], guard := none }) rfl (fun K5 hK5 => ?_) AllReadyIn.nil)
      go_simp
      refine hK5 _ _ ?_
      clear hK5 K5
      try simp only [Act.put, List.setIfInBounds_toArray, List.set_cons_zero, List.set_cons_succ]
      refine wpAnyIn_ready (rs := [6]) (by kernel_rfl) (by simp) ?_
      refine (AllReadyIn.cons (o := { dst := some 5, op := Op.assign (Operand.tmp 18), type := 3, pos := "iter.go:105", after := #[{ on := 5, ground := Ground.data }, { on := 0, ground := Ground.phase }, { on := 1, ground := Ground.phase }, { on := 2, ground := Ground.phase }, { on := 3, ground := Ground.phase }, { on := 4, ground := Ground.phase }, { on := 5, ground := Ground.phase }], guard := none }) rfl (fun K6 hK6 => ?_) AllReadyIn.nil)
      go_simp
      refine hK6 _ _ ?_
      clear hK6 K6
      try simp only [Act.put, List.setIfInBounds_toArray, List.set_cons_zero, List.set_cons_succ]
      exact wpAnyIn_done (by kernel_rfl) h _
  · go_simp
    refine hK1 _ _ ?_
    clear hK1 K1
    try simp only [Act.put, List.setIfInBounds_toArray, List.set_cons_zero, List.set_cons_succ]
    refine wpAnyIn_ready (rs := [0, 2]) (by kernel_rfl) (by simp) ?_
    refine (AllReadyIn.cons (o := { dst := some 13, op := Op.load 3 (Operand.tmp 2), type := 3, pos := "iter.go:105", after := #[], guard := none }) rfl (fun K0 hK0 => ?_) (AllReadyIn.cons (o := { dst := some 15, op := Op.move (Operand.tmp 4), type := 3, pos := "iter.go:105", after := #[], guard := none }) rfl (fun K2 hK2 => ?_) AllReadyIn.nil))
    · go_simp
      refine hK0 _ _ ?_
      clear hK0 K0
      try simp only [Act.put, List.setIfInBounds_toArray, List.set_cons_zero, List.set_cons_succ]
      refine wpAnyIn_ready (rs := [2]) (by kernel_rfl) (by simp) ?_
      refine (AllReadyIn.cons (o := { dst := some 15, op := Op.move (Operand.tmp 4), type := 3, pos := "iter.go:105", after := #[], guard := none }) rfl (fun K2 hK2 => ?_) AllReadyIn.nil)
      go_simp
      refine hK2 _ _ ?_
      clear hK2 K2
      try simp only [Act.put, List.setIfInBounds_toArray, List.set_cons_zero, List.set_cons_succ]
      refine wpAnyIn_ready (rs := [3]) (by kernel_rfl) (by simp) ?_
      refine (AllReadyIn.cons (o := { dst := some 16, op := Op.slice 26 (Operand.tmp 14) (some (Operand.tmp 15)) none none, type := 26, pos := "iter.go:105", after := #[{ on := 1, ground := Ground.data }, { on := 2, ground := Ground.data }], guard := none }) rfl (fun K3 hK3 => ?_) AllReadyIn.nil)
      go_simp
      refine hK3 _ _ ?_
      clear hK3 K3
      try simp only [Act.put, List.setIfInBounds_toArray, List.set_cons_zero, List.set_cons_succ]
      refine wpAnyIn_ready (rs := [4]) (by kernel_rfl) (by simp) ?_
      refine (AllReadyIn.cons (o := { dst := some 17, op := Op.call { callee := Callee.builtin Builtin.len, args := #[Operand.tmp 16], argTypes := #[26] }, type := 3, pos := "iter.go:105", after := #[{ on := 3, ground := Ground.data }], guard := none }) rfl (fun K4 hK4 => ?_) AllReadyIn.nil)
      go_simp
      refine hK4 _ _ ?_
      clear hK4 K4
      try simp only [Act.put, List.setIfInBounds_toArray, List.set_cons_zero, List.set_cons_succ]
      refine wpAnyIn_ready (rs := [5]) (by kernel_rfl) (by simp) ?_
      refine (AllReadyIn.cons (o := { dst := some 18, op := Op.call { callee := Callee.builtin Builtin.min, args := #[Operand.tmp 13, Operand.tmp 17], argTypes := #[3, 3] }, type := 3, pos := "iter.go:105", after := #[{ on := 0, ground := Ground.data }, { on := 4, ground := Ground.data }], guard := none }) rfl (fun K5 hK5 => ?_) AllReadyIn.nil)
      go_simp
      refine hK5 _ _ ?_
      clear hK5 K5
      try simp only [Act.put, List.setIfInBounds_toArray, List.set_cons_zero, List.set_cons_succ]
      refine wpAnyIn_ready (rs := [6]) (by kernel_rfl) (by simp) ?_
      refine (AllReadyIn.cons (o := { dst := some 5, op := Op.assign (Operand.tmp 18), type := 3, pos := "iter.go:105", after := #[{ on := 5, ground := Ground.data }, { on := 0, ground := Ground.phase }, { on := 1, ground := Ground.phase }, { on := 2, ground := Ground.phase }, { on := 3, ground := Ground.phase }, { on := 4, ground := Ground.phase }, { on := 5, ground := Ground.phase }], guard := none }) rfl (fun K6 hK6 => ?_) AllReadyIn.nil)
      go_simp
      refine hK6 _ _ ?_
      clear hK6 K6
      try simp only [Act.put, List.setIfInBounds_toArray, List.set_cons_zero, List.set_cons_succ]
      exact wpAnyIn_done (by kernel_rfl) h _
    · go_simp
      refine hK2 _ _ ?_
      clear hK2 K2
      try simp only [Act.put, List.setIfInBounds_toArray, List.set_cons_zero, List.set_cons_succ]
      refine wpAnyIn_ready (rs := [0, 3]) (by kernel_rfl) (by simp) ?_
      refine (AllReadyIn.cons (o := { dst := some 13, op := Op.load 3 (Operand.tmp 2), type := 3, pos := "iter.go:105", after := #[], guard := none }) rfl (fun K0 hK0 => ?_) (AllReadyIn.cons (o := { dst := some 16, op := Op.slice 26 (Operand.tmp 14) (some (Operand.tmp 15)) none none, type := 26, pos := "iter.go:105", after := #[{ on := 1, ground := Ground.data }, { on := 2, ground := Ground.data }], guard := none }) rfl (fun K3 hK3 => ?_) AllReadyIn.nil))
      · go_simp
        refine hK0 _ _ ?_
        clear hK0 K0
        try simp only [Act.put, List.setIfInBounds_toArray, List.set_cons_zero, List.set_cons_succ]
        refine wpAnyIn_ready (rs := [3]) (by kernel_rfl) (by simp) ?_
        refine (AllReadyIn.cons (o := { dst := some 16, op := Op.slice 26 (Operand.tmp 14) (some (Operand.tmp 15)) none none, type := 26, pos := "iter.go:105", after := #[{ on := 1, ground := Ground.data }, { on := 2, ground := Ground.data }], guard := none }) rfl (fun K3 hK3 => ?_) AllReadyIn.nil)
        go_simp
        refine hK3 _ _ ?_
        clear hK3 K3
        try simp only [Act.put, List.setIfInBounds_toArray, List.set_cons_zero, List.set_cons_succ]
        refine wpAnyIn_ready (rs := [4]) (by kernel_rfl) (by simp) ?_
        refine (AllReadyIn.cons (o := { dst := some 17, op := Op.call { callee := Callee.builtin Builtin.len, args := #[Operand.tmp 16], argTypes := #[26] }, type := 3, pos := "iter.go:105", after := #[{ on := 3, ground := Ground.data }], guard := none }) rfl (fun K4 hK4 => ?_) AllReadyIn.nil)
        go_simp
        refine hK4 _ _ ?_
        clear hK4 K4
        try simp only [Act.put, List.setIfInBounds_toArray, List.set_cons_zero, List.set_cons_succ]
        refine wpAnyIn_ready (rs := [5]) (by kernel_rfl) (by simp) ?_
        refine (AllReadyIn.cons (o := { dst := some 18, op := Op.call { callee := Callee.builtin Builtin.min, args := #[Operand.tmp 13, Operand.tmp 17], argTypes := #[3, 3] }, type := 3, pos := "iter.go:105", after := #[{ on := 0, ground := Ground.data }, { on := 4, ground := Ground.data }], guard := none }) rfl (fun K5 hK5 => ?_) AllReadyIn.nil)
        go_simp
        refine hK5 _ _ ?_
        clear hK5 K5
        try simp only [Act.put, List.setIfInBounds_toArray, List.set_cons_zero, List.set_cons_succ]
        refine wpAnyIn_ready (rs := [6]) (by kernel_rfl) (by simp) ?_
        refine (AllReadyIn.cons (o := { dst := some 5, op := Op.assign (Operand.tmp 18), type := 3, pos := "iter.go:105", after := #[{ on := 5, ground := Ground.data }, { on := 0, ground := Ground.phase }, { on := 1, ground := Ground.phase }, { on := 2, ground := Ground.phase }, { on := 3, ground := Ground.phase }, { on := 4, ground := Ground.phase }, { on := 5, ground := Ground.phase }], guard := none }) rfl (fun K6 hK6 => ?_) AllReadyIn.nil)
        go_simp
        refine hK6 _ _ ?_
        clear hK6 K6
        try simp only [Act.put, List.setIfInBounds_toArray, List.set_cons_zero, List.set_cons_succ]
        exact wpAnyIn_done (by kernel_rfl) h _
      · go_simp
        refine hK3 _ _ ?_
        clear hK3 K3
        try simp only [Act.put, List.setIfInBounds_toArray, List.set_cons_zero, List.set_cons_succ]
        refine wpAnyIn_ready (rs := [0, 4]) (by kernel_rfl) (by simp) ?_
        refine (AllReadyIn.cons (o := { dst := some 13, op := Op.load 3 (Operand.tmp 2), type := 3, pos := "iter.go:105", after := #[], guard := none }) rfl (fun K0 hK0 => ?_) (AllReadyIn.cons (o := { dst := some 17, op := Op.call { callee := Callee.builtin Builtin.len, args := #[Operand.tmp 16], argTypes := #[26] }, type := 3, pos := "iter.go:105", after := #[{ on := 3, ground := Ground.data }], guard := none }) rfl (fun K4 hK4 => ?_) AllReadyIn.nil))
        · go_simp
          refine hK0 _ _ ?_
          clear hK0 K0
          try simp only [Act.put, List.setIfInBounds_toArray, List.set_cons_zero, List.set_cons_succ]
          refine wpAnyIn_ready (rs := [4]) (by kernel_rfl) (by simp) ?_
          refine (AllReadyIn.cons (o := { dst := some 17, op := Op.call { callee := Callee.builtin Builtin.len, args := #[Operand.tmp 16], argTypes := #[26] }, type := 3, pos := "iter.go:105", after := #[{ on := 3, ground := Ground.data }], guard := none }) rfl (fun K4 hK4 => ?_) AllReadyIn.nil)
          go_simp
          refine hK4 _ _ ?_
          clear hK4 K4
          try simp only [Act.put, List.setIfInBounds_toArray, List.set_cons_zero, List.set_cons_succ]
          refine wpAnyIn_ready (rs := [5]) (by kernel_rfl) (by simp) ?_
          refine (AllReadyIn.cons (o := { dst := some 18, op := Op.call { callee := Callee.builtin Builtin.min, args := #[Operand.tmp 13, Operand.tmp 17], argTypes := #[3, 3] }, type := 3, pos := "iter.go:105", after := #[{ on := 0, ground := Ground.data }, { on := 4, ground := Ground.data }], guard := none }) rfl (fun K5 hK5 => ?_) AllReadyIn.nil)
          go_simp
          refine hK5 _ _ ?_
          clear hK5 K5
          try simp only [Act.put, List.setIfInBounds_toArray, List.set_cons_zero, List.set_cons_succ]
          refine wpAnyIn_ready (rs := [6]) (by kernel_rfl) (by simp) ?_
          refine (AllReadyIn.cons (o := { dst := some 5, op := Op.assign (Operand.tmp 18), type := 3, pos := "iter.go:105", after := #[{ on := 5, ground := Ground.data }, { on := 0, ground := Ground.phase }, { on := 1, ground := Ground.phase }, { on := 2, ground := Ground.phase }, { on := 3, ground := Ground.phase }, { on := 4, ground := Ground.phase }, { on := 5, ground := Ground.phase }], guard := none }) rfl (fun K6 hK6 => ?_) AllReadyIn.nil)
          go_simp
          refine hK6 _ _ ?_
          clear hK6 K6
          try simp only [Act.put, List.setIfInBounds_toArray, List.set_cons_zero, List.set_cons_succ]
          exact wpAnyIn_done (by kernel_rfl) h _
        · go_simp
          refine hK4 _ _ ?_
          clear hK4 K4
          try simp only [Act.put, List.setIfInBounds_toArray, List.set_cons_zero, List.set_cons_succ]
          refine wpAnyIn_ready (rs := [0]) (by kernel_rfl) (by simp) ?_
          refine (AllReadyIn.cons (o := { dst := some 13, op := Op.load 3 (Operand.tmp 2), type := 3, pos := "iter.go:105", after := #[], guard := none }) rfl (fun K0 hK0 => ?_) AllReadyIn.nil)
          go_simp
          refine hK0 _ _ ?_
          clear hK0 K0
          try simp only [Act.put, List.setIfInBounds_toArray, List.set_cons_zero, List.set_cons_succ]
          refine wpAnyIn_ready (rs := [5]) (by kernel_rfl) (by simp) ?_
          refine (AllReadyIn.cons (o := { dst := some 18, op := Op.call { callee := Callee.builtin Builtin.min, args := #[Operand.tmp 13, Operand.tmp 17], argTypes := #[3, 3] }, type := 3, pos := "iter.go:105", after := #[{ on := 0, ground := Ground.data }, { on := 4, ground := Ground.data }], guard := none }) rfl (fun K5 hK5 => ?_) AllReadyIn.nil)
          go_simp
          refine hK5 _ _ ?_
          clear hK5 K5
          try simp only [Act.put, List.setIfInBounds_toArray, List.set_cons_zero, List.set_cons_succ]
          refine wpAnyIn_ready (rs := [6]) (by kernel_rfl) (by simp) ?_
          refine (AllReadyIn.cons (o := { dst := some 5, op := Op.assign (Operand.tmp 18), type := 3, pos := "iter.go:105", after := #[{ on := 5, ground := Ground.data }, { on := 0, ground := Ground.phase }, { on := 1, ground := Ground.phase }, { on := 2, ground := Ground.phase }, { on := 3, ground := Ground.phase }, { on := 4, ground := Ground.phase }, { on := 5, ground := Ground.phase }], guard := none }) rfl (fun K6 hK6 => ?_) AllReadyIn.nil)
          go_simp
          refine hK6 _ _ ?_
          clear hK6 K6
          try simp only [Act.put, List.setIfInBounds_toArray, List.set_cons_zero, List.set_cons_succ]
          exact wpAnyIn_done (by kernel_rfl) h _
  · go_simp
    refine hK2 _ _ ?_
    clear hK2 K2
    try simp only [Act.put, List.setIfInBounds_toArray, List.set_cons_zero, List.set_cons_succ]
    refine wpAnyIn_ready (rs := [0, 1]) (by kernel_rfl) (by simp) ?_
    refine (AllReadyIn.cons (o := { dst := some 13, op := Op.load 3 (Operand.tmp 2), type := 3, pos := "iter.go:105", after := #[], guard := none }) rfl (fun K0 hK0 => ?_) (AllReadyIn.cons (o := { dst := some 14, op := Op.load 26 (Operand.tmp 1), type := 26, pos := "iter.go:105", after := #[], guard := none }) rfl (fun K1 hK1 => ?_) AllReadyIn.nil))
    · go_simp
      refine hK0 _ _ ?_
      clear hK0 K0
      try simp only [Act.put, List.setIfInBounds_toArray, List.set_cons_zero, List.set_cons_succ]
      refine wpAnyIn_ready (rs := [1]) (by kernel_rfl) (by simp) ?_
      refine (AllReadyIn.cons (o := { dst := some 14, op := Op.load 26 (Operand.tmp 1), type := 26, pos := "iter.go:105", after := #[], guard := none }) rfl (fun K1 hK1 => ?_) AllReadyIn.nil)
      go_simp
      refine hK1 _ _ ?_
      clear hK1 K1
      try simp only [Act.put, List.setIfInBounds_toArray, List.set_cons_zero, List.set_cons_succ]
      refine wpAnyIn_ready (rs := [3]) (by kernel_rfl) (by simp) ?_
      refine (AllReadyIn.cons (o := { dst := some 16, op := Op.slice 26 (Operand.tmp 14) (some (Operand.tmp 15)) none none, type := 26, pos := "iter.go:105", after := #[{ on := 1, ground := Ground.data }, { on := 2, ground := Ground.data }], guard := none }) rfl (fun K3 hK3 => ?_) AllReadyIn.nil)
      go_simp
      refine hK3 _ _ ?_
      clear hK3 K3
      try simp only [Act.put, List.setIfInBounds_toArray, List.set_cons_zero, List.set_cons_succ]
      refine wpAnyIn_ready (rs := [4]) (by kernel_rfl) (by simp) ?_
      refine (AllReadyIn.cons (o := { dst := some 17, op := Op.call { callee := Callee.builtin Builtin.len, args := #[Operand.tmp 16], argTypes := #[26] }, type := 3, pos := "iter.go:105", after := #[{ on := 3, ground := Ground.data }], guard := none }) rfl (fun K4 hK4 => ?_) AllReadyIn.nil)
      go_simp
      refine hK4 _ _ ?_
      clear hK4 K4
      try simp only [Act.put, List.setIfInBounds_toArray, List.set_cons_zero, List.set_cons_succ]
      refine wpAnyIn_ready (rs := [5]) (by kernel_rfl) (by simp) ?_
      refine (AllReadyIn.cons (o := { dst := some 18, op := Op.call { callee := Callee.builtin Builtin.min, args := #[Operand.tmp 13, Operand.tmp 17], argTypes := #[3, 3] }, type := 3, pos := "iter.go:105", after := #[{ on := 0, ground := Ground.data }, { on := 4, ground := Ground.data }], guard := none }) rfl (fun K5 hK5 => ?_) AllReadyIn.nil)
      go_simp
      refine hK5 _ _ ?_
      clear hK5 K5
      try simp only [Act.put, List.setIfInBounds_toArray, List.set_cons_zero, List.set_cons_succ]
      refine wpAnyIn_ready (rs := [6]) (by kernel_rfl) (by simp) ?_
      refine (AllReadyIn.cons (o := { dst := some 5, op := Op.assign (Operand.tmp 18), type := 3, pos := "iter.go:105", after := #[{ on := 5, ground := Ground.data }, { on := 0, ground := Ground.phase }, { on := 1, ground := Ground.phase }, { on := 2, ground := Ground.phase }, { on := 3, ground := Ground.phase }, { on := 4, ground := Ground.phase }, { on := 5, ground := Ground.phase }], guard := none }) rfl (fun K6 hK6 => ?_) AllReadyIn.nil)
      go_simp
      refine hK6 _ _ ?_
      clear hK6 K6
      try simp only [Act.put, List.setIfInBounds_toArray, List.set_cons_zero, List.set_cons_succ]
      exact wpAnyIn_done (by kernel_rfl) h _
    · go_simp
      refine hK1 _ _ ?_
      clear hK1 K1
      try simp only [Act.put, List.setIfInBounds_toArray, List.set_cons_zero, List.set_cons_succ]
      refine wpAnyIn_ready (rs := [0, 3]) (by kernel_rfl) (by simp) ?_
      refine (AllReadyIn.cons (o := { dst := some 13, op := Op.load 3 (Operand.tmp 2), type := 3, pos := "iter.go:105", after := #[], guard := none }) rfl (fun K0 hK0 => ?_) (AllReadyIn.cons (o := { dst := some 16, op := Op.slice 26 (Operand.tmp 14) (some (Operand.tmp 15)) none none, type := 26, pos := "iter.go:105", after := #[{ on := 1, ground := Ground.data }, { on := 2, ground := Ground.data }], guard := none }) rfl (fun K3 hK3 => ?_) AllReadyIn.nil))
      · go_simp
        refine hK0 _ _ ?_
        clear hK0 K0
        try simp only [Act.put, List.setIfInBounds_toArray, List.set_cons_zero, List.set_cons_succ]
        refine wpAnyIn_ready (rs := [3]) (by kernel_rfl) (by simp) ?_
        refine (AllReadyIn.cons (o := { dst := some 16, op := Op.slice 26 (Operand.tmp 14) (some (Operand.tmp 15)) none none, type := 26, pos := "iter.go:105", after := #[{ on := 1, ground := Ground.data }, { on := 2, ground := Ground.data }], guard := none }) rfl (fun K3 hK3 => ?_) AllReadyIn.nil)
        go_simp
        refine hK3 _ _ ?_
        clear hK3 K3
        try simp only [Act.put, List.setIfInBounds_toArray, List.set_cons_zero, List.set_cons_succ]
        refine wpAnyIn_ready (rs := [4]) (by kernel_rfl) (by simp) ?_
        refine (AllReadyIn.cons (o := { dst := some 17, op := Op.call { callee := Callee.builtin Builtin.len, args := #[Operand.tmp 16], argTypes := #[26] }, type := 3, pos := "iter.go:105", after := #[{ on := 3, ground := Ground.data }], guard := none }) rfl (fun K4 hK4 => ?_) AllReadyIn.nil)
        go_simp
        refine hK4 _ _ ?_
        clear hK4 K4
        try simp only [Act.put, List.setIfInBounds_toArray, List.set_cons_zero, List.set_cons_succ]
        refine wpAnyIn_ready (rs := [5]) (by kernel_rfl) (by simp) ?_
        refine (AllReadyIn.cons (o := { dst := some 18, op := Op.call { callee := Callee.builtin Builtin.min, args := #[Operand.tmp 13, Operand.tmp 17], argTypes := #[3, 3] }, type := 3, pos := "iter.go:105", after := #[{ on := 0, ground := Ground.data }, { on := 4, ground := Ground.data }], guard := none }) rfl (fun K5 hK5 => ?_) AllReadyIn.nil)
        go_simp
        refine hK5 _ _ ?_
        clear hK5 K5
        try simp only [Act.put, List.setIfInBounds_toArray, List.set_cons_zero, List.set_cons_succ]
        refine wpAnyIn_ready (rs := [6]) (by kernel_rfl) (by simp) ?_
        refine (AllReadyIn.cons (o := { dst := some 5, op := Op.assign (Operand.tmp 18), type := 3, pos := "iter.go:105", after := #[{ on := 5, ground := Ground.data }, { on := 0, ground := Ground.phase }, { on := 1, ground := Ground.phase }, { on := 2, ground := Ground.phase }, { on := 3, ground := Ground.phase }, { on := 4, ground := Ground.phase }, { on := 5, ground := Ground.phase }], guard := none }) rfl (fun K6 hK6 => ?_) AllReadyIn.nil)
        go_simp
        refine hK6 _ _ ?_
        clear hK6 K6
        try simp only [Act.put, List.setIfInBounds_toArray, List.set_cons_zero, List.set_cons_succ]
        exact wpAnyIn_done (by kernel_rfl) h _
      · go_simp
        refine hK3 _ _ ?_
        clear hK3 K3
        try simp only [Act.put, List.setIfInBounds_toArray, List.set_cons_zero, List.set_cons_succ]
        refine wpAnyIn_ready (rs := [0, 4]) (by kernel_rfl) (by simp) ?_
        refine (AllReadyIn.cons (o := { dst := some 13, op := Op.load 3 (Operand.tmp 2), type := 3, pos := "iter.go:105", after := #[], guard := none }) rfl (fun K0 hK0 => ?_) (AllReadyIn.cons (o := { dst := some 17, op := Op.call { callee := Callee.builtin Builtin.len, args := #[Operand.tmp 16], argTypes := #[26] }, type := 3, pos := "iter.go:105", after := #[{ on := 3, ground := Ground.data }], guard := none }) rfl (fun K4 hK4 => ?_) AllReadyIn.nil))
        · go_simp
          refine hK0 _ _ ?_
          clear hK0 K0
          try simp only [Act.put, List.setIfInBounds_toArray, List.set_cons_zero, List.set_cons_succ]
          refine wpAnyIn_ready (rs := [4]) (by kernel_rfl) (by simp) ?_
          refine (AllReadyIn.cons (o := { dst := some 17, op := Op.call { callee := Callee.builtin Builtin.len, args := #[Operand.tmp 16], argTypes := #[26] }, type := 3, pos := "iter.go:105", after := #[{ on := 3, ground := Ground.data }], guard := none }) rfl (fun K4 hK4 => ?_) AllReadyIn.nil)
          go_simp
          refine hK4 _ _ ?_
          clear hK4 K4
          try simp only [Act.put, List.setIfInBounds_toArray, List.set_cons_zero, List.set_cons_succ]
          refine wpAnyIn_ready (rs := [5]) (by kernel_rfl) (by simp) ?_
          refine (AllReadyIn.cons (o := { dst := some 18, op := Op.call { callee := Callee.builtin Builtin.min, args := #[Operand.tmp 13, Operand.tmp 17], argTypes := #[3, 3] }, type := 3, pos := "iter.go:105", after := #[{ on := 0, ground := Ground.data }, { on := 4, ground := Ground.data }], guard := none }) rfl (fun K5 hK5 => ?_) AllReadyIn.nil)
          go_simp
          refine hK5 _ _ ?_
          clear hK5 K5
          try simp only [Act.put, List.setIfInBounds_toArray, List.set_cons_zero, List.set_cons_succ]
          refine wpAnyIn_ready (rs := [6]) (by kernel_rfl) (by simp) ?_
          refine (AllReadyIn.cons (o := { dst := some 5, op := Op.assign (Operand.tmp 18), type := 3, pos := "iter.go:105", after := #[{ on := 5, ground := Ground.data }, { on := 0, ground := Ground.phase }, { on := 1, ground := Ground.phase }, { on := 2, ground := Ground.phase }, { on := 3, ground := Ground.phase }, { on := 4, ground := Ground.phase }, { on := 5, ground := Ground.phase }], guard := none }) rfl (fun K6 hK6 => ?_) AllReadyIn.nil)
          go_simp
          refine hK6 _ _ ?_
          clear hK6 K6
          try simp only [Act.put, List.setIfInBounds_toArray, List.set_cons_zero, List.set_cons_succ]
          exact wpAnyIn_done (by kernel_rfl) h _
        · go_simp
          refine hK4 _ _ ?_
          clear hK4 K4
          try simp only [Act.put, List.setIfInBounds_toArray, List.set_cons_zero, List.set_cons_succ]
          refine wpAnyIn_ready (rs := [0]) (by kernel_rfl) (by simp) ?_
          refine (AllReadyIn.cons (o := { dst := some 13, op := Op.load 3 (Operand.tmp 2), type := 3, pos := "iter.go:105", after := #[], guard := none }) rfl (fun K0 hK0 => ?_) AllReadyIn.nil)
          go_simp
          refine hK0 _ _ ?_
          clear hK0 K0
          try simp only [Act.put, List.setIfInBounds_toArray, List.set_cons_zero, List.set_cons_succ]
          refine wpAnyIn_ready (rs := [5]) (by kernel_rfl) (by simp) ?_
          refine (AllReadyIn.cons (o := { dst := some 18, op := Op.call { callee := Callee.builtin Builtin.min, args := #[Operand.tmp 13, Operand.tmp 17], argTypes := #[3, 3] }, type := 3, pos := "iter.go:105", after := #[{ on := 0, ground := Ground.data }, { on := 4, ground := Ground.data }], guard := none }) rfl (fun K5 hK5 => ?_) AllReadyIn.nil)
          go_simp
          refine hK5 _ _ ?_
          clear hK5 K5
          try simp only [Act.put, List.setIfInBounds_toArray, List.set_cons_zero, List.set_cons_succ]
          refine wpAnyIn_ready (rs := [6]) (by kernel_rfl) (by simp) ?_
          refine (AllReadyIn.cons (o := { dst := some 5, op := Op.assign (Operand.tmp 18), type := 3, pos := "iter.go:105", after := #[{ on := 5, ground := Ground.data }, { on := 0, ground := Ground.phase }, { on := 1, ground := Ground.phase }, { on := 2, ground := Ground.phase }, { on := 3, ground := Ground.phase }, { on := 4, ground := Ground.phase }, { on := 5, ground := Ground.phase }], guard := none }) rfl (fun K6 hK6 => ?_) AllReadyIn.nil)
          go_simp
          refine hK6 _ _ ?_
          clear hK6 K6
          try simp only [Act.put, List.setIfInBounds_toArray, List.set_cons_zero, List.set_cons_succ]
          exact wpAnyIn_done (by kernel_rfl) h _
end Go.Proofs.YtmjjedbdedemcaaDoor
