/-
  A part's bytes.
-/
import Derived.Test.YtbinnpadmajgpaaH
namespace Go.Proofs.Ytbinnpadmajgpaa
open Go.RowKit Go.Shelf Go.Lib
set_option linter.unusedVariables false
set_option linter.unusedSimpArgs false

theorem run_ldx {T : TypeId} {w : World} {dst : Option Nat} {x : Operand} {ty : TypeId} {pos : String} {after : Array Edge} {gd : Option (Nat × Bool)} (ev : Operand → Value) {ad : Addr} {v : Value} (hx : ev x = .pointer (some ad)) (hr : (loadVar T ad).run Try.prog w = .ok v w) : (execOp ev ⟨dst, .load T x, ty, pos, after, gd⟩).run Try.prog w = .ok (.value v) w := by
  unfold execOp
  simp only [hx, Instr.loadAt, Instr.sureAddr, Sem.run_bind, Sem.run_pure, Result.andThen_ok, hr]
theorem below_drew' {B : Nat} {w w' : World} (h : Below B w w') : Below B w w'.drew := ⟨h.os, h.tape, h.output, h.size, h.block⟩
theorem ldv50 {w : World} {ad : Addr} {v : Value} (h : w.cell? ad = some v) : (loadVar 50 ad).run Try.prog w = .ok v w := by
  have ha : ∀ w, (isAgg 50).run Try.prog w = .ok false w := fun w => by kernel_rfl
  simp [loadVar, ha, go_sem, h]
theorem ldv23 {w : World} {ad : Addr} {v : Value} (h : w.cell? ad = some v) : (loadVar 23 ad).run Try.prog w = .ok v w := by
  have ha : ∀ w, (isAgg 23).run Try.prog w = .ok false w := fun w => by kernel_rfl
  simp [loadVar, ha, go_sem, h]
theorem ldv9 {w : World} {ad : Addr} {v : Value} (h : w.cell? ad = some v) : (loadVar 9 ad).run Try.prog w = .ok v w := by
  have ha : ∀ w, (isAgg 9).run Try.prog w = .ok false w := fun w => by kernel_rfl
  simp [loadVar, ha, go_sem, h]
theorem ldv25 {w : World} {ad : Addr} {v : Value} (h : w.cell? ad = some v) : (loadVar 25 ad).run Try.prog w = .ok v w := by
  have ha : ∀ w, (isAgg 25).run Try.prog w = .ok false w := fun w => by kernel_rfl
  simp [loadVar, ha, go_sem, h]
theorem ldv27 {w : World} {b : Nat} {v : Value} (h : w.cell? ⟨b, 0, none⟩ = some v) : (loadVar 27 ⟨b, 0, none⟩).run Try.prog w = .ok (.agg #[v]) w := by
  have ha : ∀ w, (isAgg 27).run Try.prog w = .ok true w := fun w => by kernel_rfl
  have hs : ∀ w, (sizeOf 27).run Try.prog w = .ok 1 w := fun w => by kernel_rfl
  simp [loadVar, ha, hs, go_sem, h, loadCells, Addr.add]
set_option maxHeartbeats 4000000 in
set_option maxRecDepth 100000 in
theorem reg25_1 (w : World) (g k : Nat) (a : Option Addr) (n c : Nat) (x : List Int) (h0 : ∀ W, Below w.heap.size w W → (loadVar 50 ⟨g, 0, none⟩).run Try.prog W = .ok (.int .u64 (k : Int)) W ∧ (loadVar 23 ⟨g, 1, none⟩).run Try.prog W = .ok (.slice a n c) W) (hP : ∀ W, Below w.heap.size w W → Calls Try.prog 22 #[.slice none 0 0, .int .u64 (k : Int)] W (V.Ret W (V.enc k))) (hB : ∀ W a1 n1 c1, Below w.heap.size w W → V.Has W a1 n1 c1 (V.enc k) → Calls Try.prog 38 #[.slice a1 n1 c1, .slice a n c] W (V.Ret2 W (V.enc k ++ x)))
    (u0 u2 u3 u4 u5 u6 u7 u8 u9 u10 u11 u12 u13 u14 : Value) (Q : Exit → Act → World → Prop)
    (h : ∀ w' a1 n1 c1 a2 n2 c2, V.Has w' a2 n2 c2 (V.enc k ++ x) → Below w.heap.size w w' → Q .normal { tmps := (List.toArray ((u0 :: .pointer (some ⟨g, 0, none⟩) :: u2 :: (.slice a2 n2 c2) :: .int .i64 0 :: .tuple #[.slice a2 n2 c2, .int .i64 0] :: .pointer (some ⟨g, 0, none⟩) :: .int .u64 (k : Int) :: (.slice a1 n1 c1) :: .pointer (some ⟨g, 1, none⟩) :: (.slice a n c) :: .tuple #[.slice a2 n2 c2, .int .i64 0] :: (.slice a2 n2 c2) :: .int .i64 0 :: u14 :: []) : List Value)), defers := [] } w') :
    (Code.region 1 #[{ dst := some 6, op := Op.fieldAddr 55 (Operand.tmp 1) 0, type := 0, pos := "bytes.go:57", after := #[], guard := none }, { dst := some 7, op := Op.load 50 (Operand.tmp 6), type := 50, pos := "bytes.go:57", after := #[{ on := 0, ground := Ground.data }], guard := none }, { dst := some 8, op := Op.call { callee := Callee.value (Operand.func 22), args := #[Operand.const (Value.slice none 0 0), Operand.tmp 7], argTypes := #[23, 50] }, type := 23, pos := "bytes.go:57", after := #[{ on := 1, ground := Ground.data }], guard := none }, { dst := some 9, op := Op.fieldAddr 55 (Operand.tmp 1) 1, type := 0, pos := "bytes.go:57", after := #[], guard := none }, { dst := some 10, op := Op.load 23 (Operand.tmp 9), type := 23, pos := "bytes.go:57", after := #[{ on := 3, ground := Ground.data }], guard := none }, { dst := some 11, op := Op.call { callee := Callee.value (Operand.func 38), args := #[Operand.tmp 8, Operand.tmp 10], argTypes := #[23, 23] }, type := 69, pos := "bytes.go:57", after := #[{ on := 2, ground := Ground.data }, { on := 4, ground := Ground.data }, { on := 2, ground := Ground.chain }], guard := none }, { dst := some 5, op := Op.move (Operand.tmp 11), type := 69, pos := "bytes.go:57", after := #[{ on := 5, ground := Ground.data }], guard := none }, { dst := some 12, op := Op.extract (Operand.tmp 5) 0, type := 23, pos := "bytes.go:57", after := #[{ on := 6, ground := Ground.data }], guard := none }, { dst := some 13, op := Op.extract (Operand.tmp 5) 1, type := 28, pos := "bytes.go:57", after := #[{ on := 6, ground := Ground.data }, { on := 9, ground := Ground.gcOnly Departure.lateStores }], guard := none }, { dst := some 3, op := Op.assign (Operand.tmp 12), type := 23, pos := "bytes.go:57", after := #[{ on := 7, ground := Ground.data }, { on := 5, ground := Ground.chain }, { on := 0, ground := Ground.phase }, { on := 1, ground := Ground.phase }, { on := 2, ground := Ground.phase }, { on := 3, ground := Ground.phase }, { on := 4, ground := Ground.phase }, { on := 5, ground := Ground.phase }, { on := 6, ground := Ground.phase }, { on := 7, ground := Ground.phase }, { on := 8, ground := Ground.textOnly Departure.lateStores }], guard := none }, { dst := some 4, op := Op.assign (Operand.tmp 13), type := 28, pos := "bytes.go:57", after := #[{ on := 8, ground := Ground.data }, { on := 9, ground := Ground.chain }, { on := 0, ground := Ground.phase }, { on := 1, ground := Ground.phase }, { on := 2, ground := Ground.phase }, { on := 3, ground := Ground.phase }, { on := 4, ground := Ground.phase }, { on := 5, ground := Ground.phase }, { on := 6, ground := Ground.phase }, { on := 7, ground := Ground.phase }, { on := 8, ground := Ground.phase }, { on := 9, ground := Ground.phase }], guard := none }] true).wp Try.prog Q { tmps := (List.toArray ((u0 :: .pointer (some ⟨g, 0, none⟩) :: u2 :: u3 :: u4 :: u5 :: u6 :: u7 :: u8 :: u9 :: u10 :: u11 :: u12 :: u13 :: u14 :: []) : List Value)), defers := [] } w := by
  have hC := hide h0
  clear h0
  replace hP := hide hP
  replace hB := hide hB
  replace h := hide h
  refine wp_region_noPanic ?_
  refine wp_region_held_drew (S := fun w0 => Below w.heap.size w w0) (by kernel_rfl) (below_drew' (Below.refl _ _)) (fun hD => ?_)
  refine wpAnyH_take (i := 0) (oi := { dst := some 6, op := Op.fieldAddr 55 (Operand.tmp 1) 0, type := 0, pos := "bytes.go:57", after := #[], guard := none }) (v := ?_) rfl (by kernel_rfl) (by kernel_rfl) (by kernel_rfl) (fun _ _ _ h => h) (Or.inl ⟨by rfl, ?_⟩) hD ?_
  rotate_left
  · intro w' hw'
    clear hw'
    go_simp
    try with_reducible rfl
  try simp only [Act.put, List.setIfInBounds_toArray, List.set_cons_zero, List.set_cons_succ]
  refine wpAnyH_take (i := 1) (oi := { dst := some 7, op := Op.load 50 (Operand.tmp 6), type := 50, pos := "bytes.go:57", after := #[{ on := 0, ground := Ground.data }], guard := none }) (v := .int .u64 (k : Int)) rfl (by kernel_rfl) (by kernel_rfl) (by kernel_rfl) (fun _ _ _ h => h) (Or.inl ⟨by rfl, ?_⟩) hD ?_
  · intro w' hw'
    exact run_ldx _ rfl ((hC.out _ hw').1)
  try simp only [Act.put, List.setIfInBounds_toArray, List.set_cons_zero, List.set_cons_succ]
  refine wpAnyH_take (i := 3) (oi := { dst := some 9, op := Op.fieldAddr 55 (Operand.tmp 1) 1, type := 0, pos := "bytes.go:57", after := #[], guard := none }) (v := ?_) rfl (by kernel_rfl) (by kernel_rfl) (by kernel_rfl) (fun _ _ _ h => h) (Or.inl ⟨by rfl, ?_⟩) hD ?_
  rotate_left
  · intro w' hw'
    clear hw'
    go_simp
    try with_reducible rfl
  try simp only [Act.put, List.setIfInBounds_toArray, List.set_cons_zero, List.set_cons_succ]
  refine wpAnyH_take (i := 4) (oi := { dst := some 10, op := Op.load 23 (Operand.tmp 9), type := 23, pos := "bytes.go:57", after := #[{ on := 3, ground := Ground.data }], guard := none }) (v := .slice a n c) rfl (by kernel_rfl) (by kernel_rfl) (by kernel_rfl) (fun _ _ _ h => h) (Or.inl ⟨by rfl, ?_⟩) hD ?_
  · intro w' hw'
    exact run_ldx _ rfl ((hC.out _ hw').2)
  try simp only [Act.put, List.setIfInBounds_toArray, List.set_cons_zero, List.set_cons_succ]
  refine wpAnyH_ready (rs := [2]) (by kernel_rfl) (by simp) ?_
  refine (AllReadyH.cons (o := { dst := some 8, op := Op.call { callee := Callee.value (Operand.func 22), args := #[Operand.const (Value.slice none 0 0), Operand.tmp 7], argTypes := #[23, 50] }, type := 23, pos := "bytes.go:57", after := #[{ on := 1, ground := Ground.data }], guard := none }) rfl (fun K2 hK2 => ?_) AllReadyH.nil)
  go_simp
  refine (hP.out _ hD).mono ?_
  rintro e w1x ⟨a1, n1, c1, rfl, H1, B1, O1⟩
  refine hK2.out _ _ (hD.trans (B1.mono hD.size)) (fun hD1 => ?_)
  clear hK2 K2
  try simp only [Act.put, List.setIfInBounds_toArray, List.set_cons_zero, List.set_cons_succ]
  refine wpAnyH_ready (rs := [5]) (by kernel_rfl) (by simp) ?_
  refine (AllReadyH.cons (o := { dst := some 11, op := Op.call { callee := Callee.value (Operand.func 38), args := #[Operand.tmp 8, Operand.tmp 10], argTypes := #[23, 23] }, type := 69, pos := "bytes.go:57", after := #[{ on := 2, ground := Ground.data }, { on := 4, ground := Ground.data }, { on := 2, ground := Ground.chain }], guard := none }) rfl (fun K5 hK5 => ?_) AllReadyH.nil)
  go_simp
  refine (hB.out _ _ _ _ hD1 H1).mono ?_
  rintro e w2x ⟨a2, n2, c2, rfl, H2, B2⟩
  refine hK5.out _ _ (hD1.trans (B2.mono hD1.size)) (fun hD2 => ?_)
  clear hK5 K5
  try simp only [Act.put, List.setIfInBounds_toArray, List.set_cons_zero, List.set_cons_succ]
  refine wpAnyH_take (i := 6) (oi := { dst := some 5, op := Op.move (Operand.tmp 11), type := 69, pos := "bytes.go:57", after := #[{ on := 5, ground := Ground.data }], guard := none }) (v := ?_) rfl (by kernel_rfl) (by kernel_rfl) (by kernel_rfl) (fun _ _ _ h => h) (Or.inl ⟨by rfl, ?_⟩) hD2 ?_
  rotate_left
  · intro w' hw'
    clear hw'
    go_simp
    try with_reducible rfl
  try simp only [Act.put, List.setIfInBounds_toArray, List.set_cons_zero, List.set_cons_succ]
  refine wpAnyH_take (i := 7) (oi := { dst := some 12, op := Op.extract (Operand.tmp 5) 0, type := 23, pos := "bytes.go:57", after := #[{ on := 6, ground := Ground.data }], guard := none }) (v := ?_) rfl (by kernel_rfl) (by kernel_rfl) (by kernel_rfl) (fun _ _ _ h => h) (Or.inl ⟨by rfl, ?_⟩) hD2 ?_
  rotate_left
  · intro w' hw'
    clear hw'
    go_simp
    try with_reducible rfl
  try simp only [Act.put, List.setIfInBounds_toArray, List.set_cons_zero, List.set_cons_succ]
  refine wpAnyH_take (i := 8) (oi := { dst := some 13, op := Op.extract (Operand.tmp 5) 1, type := 28, pos := "bytes.go:57", after := #[{ on := 6, ground := Ground.data }, { on := 9, ground := Ground.gcOnly Departure.lateStores }], guard := none }) (v := ?_) rfl (by kernel_rfl) (by kernel_rfl) (by kernel_rfl) (fun _ _ _ h => h) (Or.inl ⟨by rfl, ?_⟩) hD2 ?_
  rotate_left
  · intro w' hw'
    clear hw'
    go_simp
    try with_reducible rfl
  try simp only [Act.put, List.setIfInBounds_toArray, List.set_cons_zero, List.set_cons_succ]
  refine wpAnyH_take (i := 9) (oi := { dst := some 3, op := Op.assign (Operand.tmp 12), type := 23, pos := "bytes.go:57", after := #[{ on := 7, ground := Ground.data }, { on := 5, ground := Ground.chain }, { on := 0, ground := Ground.phase }, { on := 1, ground := Ground.phase }, { on := 2, ground := Ground.phase }, { on := 3, ground := Ground.phase }, { on := 4, ground := Ground.phase }, { on := 5, ground := Ground.phase }, { on := 6, ground := Ground.phase }, { on := 7, ground := Ground.phase }, { on := 8, ground := Ground.textOnly Departure.lateStores }], guard := none }) (v := ?_) rfl (by kernel_rfl) (by kernel_rfl) (by kernel_rfl) (fun _ _ _ h => h) (Or.inl ⟨by rfl, ?_⟩) hD2 ?_
  rotate_left
  · intro w' hw'
    clear hw'
    go_simp
    try with_reducible rfl
  try simp only [Act.put, List.setIfInBounds_toArray, List.set_cons_zero, List.set_cons_succ]
  refine wpAnyH_take (i := 10) (oi := { dst := some 4, op := Op.assign (Operand.tmp 13), type := 28, pos := "bytes.go:57", after := #[{ on := 8, ground := Ground.data }, { on := 9, ground := Ground.chain }, { on := 0, ground := Ground.phase }, { on := 1, ground := Ground.phase }, { on := 2, ground := Ground.phase }, { on := 3, ground := Ground.phase }, { on := 4, ground := Ground.phase }, { on := 5, ground := Ground.phase }, { on := 6, ground := Ground.phase }, { on := 7, ground := Ground.phase }, { on := 8, ground := Ground.phase }, { on := 9, ground := Ground.phase }], guard := none }) (v := ?_) rfl (by kernel_rfl) (by kernel_rfl) (by kernel_rfl) (fun _ _ _ h => h) (Or.inl ⟨by rfl, ?_⟩) hD2 ?_
  rotate_left
  · intro w' hw'
    clear hw'
    go_simp
    try with_reducible rfl
  try simp only [Act.put, List.setIfInBounds_toArray, List.set_cons_zero, List.set_cons_succ]
  refine wpAnyH_done (by kernel_rfl) ?_ _
  refine NoPanic.normal ?_
  exact h.out _ _ _ _ _ _ _ H2 hD2

set_option maxHeartbeats 1000000 in
set_option maxRecDepth 100000 in
theorem pbytes_any (k : Nat) (hk : k < 18446744073709551616) (a : Option Addr) (n c : Nat) (x : List Int) (w : World) (hx : V.Has w a n c x) (hn : n ≤ 65536) : Calls Try.prog 25 #[.agg #[.int .u64 (k : Int), .slice a n c]] w fun e w' => ∃ a' n' c', e = .returned (.slice a' n' c') ∧ V.Has w' a' n' c' (V.enc k ++ V.pb x) ∧ Below w.heap.size w w' := by
  have B0 : Below w.heap.size w (w.alloc (.cells #[.int .u64 (k : Int), .slice a n c] 55)) := (Below.refl _ w).alloc (Nat.le_refl _) _
  obtain ⟨b0, b1, _⟩ := box55 w (k : Int) (.slice a n c)
  have hl := hx.hlen
  unfold V.pb
  rw [hl, ← List.append_assoc]
  have z0 : w.heap.size < (w.alloc (.cells #[.int .u64 (k : Int), .slice a n c] 55)).heap.size := by simp
  have hx' := hx.kept B0 (Nat.le_refl _)
  generalize hW0 : w.alloc (.cells #[.int .u64 (k : Int), .slice a n c] 55) = W0 at *
  have R := hide (reg25_1 W0 w.heap.size k a n c (V.enc n ++ x) (fun W hW => ⟨ldv50 ((hW.cell (p := ⟨w.heap.size, 0, none⟩) z0).trans b0), ldv23 ((hW.cell (p := ⟨w.heap.size, 1, none⟩) z0).trans b1)⟩)
    (fun W hW => by
      have := V.Put_any W none 0 0 [] (k : Int) (V.has_nil W) (by omega) (by omega) (by omega)
      rwa [Int.toNat_natCast, List.nil_append] at this)
    (fun W a1 n1 c1 hW h1 => by
      have e1 := h1.hlen
      have e2 := V.enc_length k
      have e3 := V.sz_range k
      have := V.PutBytes_any W a1 n1 c1 _ h1 (by omega) a n c x (hx'.kept hW (Nat.le_refl _)) hn
      rwa [List.append_assoc] at this))
  replace B0 := hide B0
  replace hW0 := hide hW0
  clear hx hx' b0 b1 z0
  go_enter Try.func25, Try.ntmps25
  go_upto_region 1 with fail
  rw [hW0.out]
  refine R.out _ _ _ _ _ _ _ _ _ _ _ _ _ _ _ (fun w' a1 n1 c1 a2 n2 c2 H2 B2 => ?_)
  rw [← List.append_assoc] at H2
  have B3 := hide (B0.out.trans (B2.mono B0.out.size))
  replace H2 := hide H2
  clear B2 R hl
  go_wp2_with fail
  go_ret
  exact ⟨_, _, _, rfl, H2.out, B3.out⟩
end Go.Proofs.Ytbinnpadmajgpaa
