/-
  beginWith; Fuse, Room, Steps, Used; sectors and has of a file; drop, Remove.
-/
import Derived.Test.YtgbijkdfhkkieaaD
import Derived.Deep.RegionHeld3
import Derived.Deep.Cut
namespace Go.Proofs.Ytgbijkdfhkkieaa
open Go.RowKit Go.Maps Go.Lib
set_option linter.unusedVariables false
set_option linter.unusedSimpArgs false
set_option maxHeartbeats 4000000 in
set_option maxRecDepth 100000 in
theorem reg41_2 (w : World) (d g : Nat) (U S : Int) (c6 : w.cell? ⟨d, 6, none⟩ = some (.int .i64 U)) (f6 : w.frozen? ⟨d, 6, none⟩ = false) (hw : IntKind.i64.wrap (U - S) = U - S) (P : ∀ wx : World, wx = w.drew → Calls Try.prog 37 #[ptr g] wx fun e w' => e = .returned (.int .i64 S) ∧ w' = wx)
    (u1 u2 u3 u5 u6 u7 u8 u9 u10 u11 u12 u13 u14 u15 u16 u17 u18 u19 u20 u21 u22 u23 u24 u25 u26 : Value) (Q : Exit → Act → World → Prop)
    (h : ∀ w', w' = (w.setCell ⟨d, 6, none⟩ (.int .i64 (U - S))).drew → Q .normal { tmps := (List.toArray ((.pointer (some ⟨d, 0, none⟩) :: u1 :: u2 :: u3 :: .pointer (some ⟨g, 0, none⟩) :: u5 :: u6 :: u7 :: u8 :: u9 :: u10 :: u11 :: u12 :: .pointer (some ⟨d, 0, none⟩) :: .pointer (some ⟨d, 0, none⟩) :: .pointer (some ⟨d, 6, none⟩) :: .int .i64 U :: .pointer (some ⟨g, 0, none⟩) :: .int .i64 S :: .int .i64 (U - S) :: .pointer (some ⟨d, 0, none⟩) :: .pointer (some ⟨d, 6, none⟩) :: u22 :: u23 :: u24 :: u25 :: u26 :: []) : List Value)), defers := [] } w') :
    (Code.region 2 #[{ dst := some 13, op := Op.move (Operand.tmp 0), type := 26, pos := "disk.go:266", after := #[], guard := none }, { dst := some 14, op := Op.nilCheck (Operand.tmp 13), type := 0, pos := "disk.go:266", after := #[{ on := 0, ground := Ground.data }], guard := none }, { dst := some 15, op := Op.fieldAddr 64 (Operand.tmp 14) 4, type := 0, pos := "disk.go:266", after := #[{ on := 1, ground := Ground.data }], guard := none }, { dst := some 16, op := Op.load 3 (Operand.tmp 15), type := 3, pos := "disk.go:266", after := #[{ on := 2, ground := Ground.data }], guard := none }, { dst := some 17, op := Op.move (Operand.tmp 4), type := 73, pos := "disk.go:266", after := #[], guard := none }, { dst := some 18, op := Op.call { callee := Callee.value (Operand.func 37), args := #[Operand.tmp 17], argTypes := #[73] }, type := 3, pos := "disk.go:266", after := #[{ on := 4, ground := Ground.data }], guard := none }, { dst := some 19, op := Op.binOp BinOp.sub 3 (Operand.tmp 16) (Operand.tmp 18) 3, type := 3, pos := "disk.go:266", after := #[{ on := 3, ground := Ground.data }, { on := 5, ground := Ground.data }], guard := none }, { dst := some 20, op := Op.nilCheck (Operand.tmp 13), type := 0, pos := "disk.go:266", after := #[{ on := 0, ground := Ground.data }, { on := 0, ground := Ground.phase }, { on := 1, ground := Ground.phase }, { on := 2, ground := Ground.phase }, { on := 3, ground := Ground.phase }, { on := 4, ground := Ground.phase }, { on := 5, ground := Ground.phase }, { on := 6, ground := Ground.phase }], guard := none }, { dst := some 21, op := Op.fieldAddr 64 (Operand.tmp 20) 4, type := 0, pos := "disk.go:266", after := #[{ on := 7, ground := Ground.data }, { on := 0, ground := Ground.phase }, { on := 1, ground := Ground.phase }, { on := 2, ground := Ground.phase }, { on := 3, ground := Ground.phase }, { on := 4, ground := Ground.phase }, { on := 5, ground := Ground.phase }, { on := 6, ground := Ground.phase }], guard := none }, { dst := none, op := Op.store 3 (Operand.tmp 21) (Operand.tmp 19), type := 0, pos := "disk.go:266", after := #[{ on := 8, ground := Ground.data }, { on := 6, ground := Ground.data }, { on := 5, ground := Ground.chain }, { on := 0, ground := Ground.phase }, { on := 1, ground := Ground.phase }, { on := 2, ground := Ground.phase }, { on := 3, ground := Ground.phase }, { on := 4, ground := Ground.phase }, { on := 5, ground := Ground.phase }, { on := 6, ground := Ground.phase }], guard := none }] true).wp Try.prog Q { tmps := (List.toArray ((.pointer (some ⟨d, 0, none⟩) :: u1 :: u2 :: u3 :: .pointer (some ⟨g, 0, none⟩) :: u5 :: u6 :: u7 :: u8 :: u9 :: u10 :: u11 :: u12 :: u13 :: u14 :: u15 :: u16 :: u17 :: u18 :: u19 :: u20 :: u21 :: u22 :: u23 :: u24 :: u25 :: u26 :: []) : List Value)), defers := [] } w := by
  replace P := hide P
  replace h := hide h
  refine wp_region_noPanic ?_
  refine wp_region_any (by kernel_rfl) ?_
  change wpAny _ _ _ _ _ _ _ (World.drew w)
  refine wpAny_take (i := 0) (oi := { dst := some 13, op := Op.move (Operand.tmp 0), type := 26, pos := "disk.go:266", after := #[], guard := none }) (v := ?_) rfl (by kernel_rfl) (by kernel_rfl) (by kernel_rfl) (fun _ _ _ h => h) (Or.inl ⟨by rfl, ?_⟩) ?_
  rotate_left
  · intro w'
    go_simp
    try with_reducible rfl
  try simp only [Act.put, List.setIfInBounds_toArray, List.set_cons_zero, List.set_cons_succ]
  refine wpAny_take (i := 1) (oi := { dst := some 14, op := Op.nilCheck (Operand.tmp 13), type := 0, pos := "disk.go:266", after := #[{ on := 0, ground := Ground.data }], guard := none }) (v := ?_) rfl (by kernel_rfl) (by kernel_rfl) (by kernel_rfl) (fun _ _ _ h => h) (Or.inl ⟨by rfl, ?_⟩) ?_
  rotate_left
  · intro w'
    go_simp
    try with_reducible rfl
  try simp only [Act.put, List.setIfInBounds_toArray, List.set_cons_zero, List.set_cons_succ]
  refine wpAny_take (i := 2) (oi := { dst := some 15, op := Op.fieldAddr 64 (Operand.tmp 14) 4, type := 0, pos := "disk.go:266", after := #[{ on := 1, ground := Ground.data }], guard := none }) (v := ?_) rfl (by kernel_rfl) (by kernel_rfl) (by kernel_rfl) (fun _ _ _ h => h) (Or.inl ⟨by rfl, ?_⟩) ?_
  rotate_left
  · intro w'
    go_simp
    try with_reducible rfl
  try simp only [Act.put, List.setIfInBounds_toArray, List.set_cons_zero, List.set_cons_succ]
  refine wpAny_take (i := 4) (oi := { dst := some 17, op := Op.move (Operand.tmp 4), type := 73, pos := "disk.go:266", after := #[], guard := none }) (v := ?_) rfl (by kernel_rfl) (by kernel_rfl) (by kernel_rfl) (fun _ _ _ h => h) (Or.inl ⟨by rfl, ?_⟩) ?_
  rotate_left
  · intro w'
    go_simp
    try with_reducible rfl
  try simp only [Act.put, List.setIfInBounds_toArray, List.set_cons_zero, List.set_cons_succ]
  refine wpAny_ready (rs := [3, 5]) (by kernel_rfl) (by simp) ?_
  refine (AllReady.cons (o := { dst := some 16, op := Op.load 3 (Operand.tmp 15), type := 3, pos := "disk.go:266", after := #[{ on := 2, ground := Ground.data }], guard := none }) rfl (fun K3 hK3 => ?_) (AllReady.cons (o := { dst := some 18, op := Op.call { callee := Callee.value (Operand.func 37), args := #[Operand.tmp 17], argTypes := #[73] }, type := 3, pos := "disk.go:266", after := #[{ on := 4, ground := Ground.data }], guard := none }) rfl (fun K5 hK5 => ?_) AllReady.nil))
  · go_simp
    refine hK3 _ _ ?_
    clear hK3 K3
    try simp only [Act.put, List.setIfInBounds_toArray, List.set_cons_zero, List.set_cons_succ]
    refine wpAny_ready (rs := [5]) (by kernel_rfl) (by simp) ?_
    refine (AllReady.cons (o := { dst := some 18, op := Op.call { callee := Callee.value (Operand.func 37), args := #[Operand.tmp 17], argTypes := #[73] }, type := 3, pos := "disk.go:266", after := #[{ on := 4, ground := Ground.data }], guard := none }) rfl (fun K5 hK5 => ?_) AllReady.nil)
    go_simp
    refine (P.out _ rfl).mono ?_
    rintro e wx ⟨rfl, rfl⟩
    refine hK5 _ _ ?_
    clear hK5 K5
    try simp only [Act.put, List.setIfInBounds_toArray, List.set_cons_zero, List.set_cons_succ]
    refine wpAny_take (i := 6) (oi := { dst := some 19, op := Op.binOp BinOp.sub 3 (Operand.tmp 16) (Operand.tmp 18) 3, type := 3, pos := "disk.go:266", after := #[{ on := 3, ground := Ground.data }, { on := 5, ground := Ground.data }], guard := none }) (v := ?_) rfl (by kernel_rfl) (by kernel_rfl) (by kernel_rfl) (fun _ _ _ h => h) (Or.inl ⟨by rfl, ?_⟩) ?_
    rotate_left
    · intro w'
      go_simp
      try with_reducible rfl
    try simp only [Act.put, List.setIfInBounds_toArray, List.set_cons_zero, List.set_cons_succ]
    refine wpAny_take (i := 7) (oi := { dst := some 20, op := Op.nilCheck (Operand.tmp 13), type := 0, pos := "disk.go:266", after := #[{ on := 0, ground := Ground.data }, { on := 0, ground := Ground.phase }, { on := 1, ground := Ground.phase }, { on := 2, ground := Ground.phase }, { on := 3, ground := Ground.phase }, { on := 4, ground := Ground.phase }, { on := 5, ground := Ground.phase }, { on := 6, ground := Ground.phase }], guard := none }) (v := ?_) rfl (by kernel_rfl) (by kernel_rfl) (by kernel_rfl) (fun _ _ _ h => h) (Or.inl ⟨by rfl, ?_⟩) ?_
    rotate_left
    · intro w'
      go_simp
      try with_reducible rfl
    try simp only [Act.put, List.setIfInBounds_toArray, List.set_cons_zero, List.set_cons_succ]
    refine wpAny_take (i := 8) (oi := { dst := some 21, op := Op.fieldAddr 64 (Operand.tmp 20) 4, type := 0, pos := "disk.go:266", after := #[{ on := 7, ground := Ground.data }, { on := 0, ground := Ground.phase }, { on := 1, ground := Ground.phase }, { on := 2, ground := Ground.phase }, { on := 3, ground := Ground.phase }, { on := 4, ground := Ground.phase }, { on := 5, ground := Ground.phase }, { on := 6, ground := Ground.phase }], guard := none }) (v := ?_) rfl (by kernel_rfl) (by kernel_rfl) (by kernel_rfl) (fun _ _ _ h => h) (Or.inl ⟨by rfl, ?_⟩) ?_
    rotate_left
    · intro w'
      go_simp
      try with_reducible rfl
    try simp only [Act.put, List.setIfInBounds_toArray, List.set_cons_zero, List.set_cons_succ]
    refine wpAny_ready (rs := [9]) (by kernel_rfl) (by simp) ?_
    refine (AllReady.cons (o := { dst := none, op := Op.store 3 (Operand.tmp 21) (Operand.tmp 19), type := 0, pos := "disk.go:266", after := #[{ on := 8, ground := Ground.data }, { on := 6, ground := Ground.data }, { on := 5, ground := Ground.chain }, { on := 0, ground := Ground.phase }, { on := 1, ground := Ground.phase }, { on := 2, ground := Ground.phase }, { on := 3, ground := Ground.phase }, { on := 4, ground := Ground.phase }, { on := 5, ground := Ground.phase }, { on := 6, ground := Ground.phase }], guard := none }) rfl (fun K9 hK9 => ?_) AllReady.nil)
    go_simp
    refine hK9 _ _ ?_
    clear hK9 K9
    try simp only [Act.put, List.setIfInBounds_toArray, List.set_cons_zero, List.set_cons_succ]
    refine wpAny_done (by kernel_rfl) ?_ _
    refine NoPanic.normal ?_
    exact h.out _ rfl
  · go_simp
    refine (P.out _ rfl).mono ?_
    rintro e wx ⟨rfl, rfl⟩
    refine hK5 _ _ ?_
    clear hK5 K5
    try simp only [Act.put, List.setIfInBounds_toArray, List.set_cons_zero, List.set_cons_succ]
    refine wpAny_ready (rs := [3]) (by kernel_rfl) (by simp) ?_
    refine (AllReady.cons (o := { dst := some 16, op := Op.load 3 (Operand.tmp 15), type := 3, pos := "disk.go:266", after := #[{ on := 2, ground := Ground.data }], guard := none }) rfl (fun K3 hK3 => ?_) AllReady.nil)
    go_simp
    refine hK3 _ _ ?_
    clear hK3 K3
    try simp only [Act.put, List.setIfInBounds_toArray, List.set_cons_zero, List.set_cons_succ]
    refine wpAny_take (i := 6) (oi := { dst := some 19, op := Op.binOp BinOp.sub 3 (Operand.tmp 16) (Operand.tmp 18) 3, type := 3, pos := "disk.go:266", after := #[{ on := 3, ground := Ground.data }, { on := 5, ground := Ground.data }], guard := none }) (v := ?_) rfl (by kernel_rfl) (by kernel_rfl) (by kernel_rfl) (fun _ _ _ h => h) (Or.inl ⟨by rfl, ?_⟩) ?_
    rotate_left
    · intro w'
      go_simp
      try with_reducible rfl
    try simp only [Act.put, List.setIfInBounds_toArray, List.set_cons_zero, List.set_cons_succ]
    refine wpAny_take (i := 7) (oi := { dst := some 20, op := Op.nilCheck (Operand.tmp 13), type := 0, pos := "disk.go:266", after := #[{ on := 0, ground := Ground.data }, { on := 0, ground := Ground.phase }, { on := 1, ground := Ground.phase }, { on := 2, ground := Ground.phase }, { on := 3, ground := Ground.phase }, { on := 4, ground := Ground.phase }, { on := 5, ground := Ground.phase }, { on := 6, ground := Ground.phase }], guard := none }) (v := ?_) rfl (by kernel_rfl) (by kernel_rfl) (by kernel_rfl) (fun _ _ _ h => h) (Or.inl ⟨by rfl, ?_⟩) ?_
    rotate_left
    · intro w'
      go_simp
      try with_reducible rfl
    try simp only [Act.put, List.setIfInBounds_toArray, List.set_cons_zero, List.set_cons_succ]
    refine wpAny_take (i := 8) (oi := { dst := some 21, op := Op.fieldAddr 64 (Operand.tmp 20) 4, type := 0, pos := "disk.go:266", after := #[{ on := 7, ground := Ground.data }, { on := 0, ground := Ground.phase }, { on := 1, ground := Ground.phase }, { on := 2, ground := Ground.phase }, { on := 3, ground := Ground.phase }, { on := 4, ground := Ground.phase }, { on := 5, ground := Ground.phase }, { on := 6, ground := Ground.phase }], guard := none }) (v := ?_) rfl (by kernel_rfl) (by kernel_rfl) (by kernel_rfl) (fun _ _ _ h => h) (Or.inl ⟨by rfl, ?_⟩) ?_
    rotate_left
    · intro w'
      go_simp
      try with_reducible rfl
    try simp only [Act.put, List.setIfInBounds_toArray, List.set_cons_zero, List.set_cons_succ]
    refine wpAny_ready (rs := [9]) (by kernel_rfl) (by simp) ?_
    refine (AllReady.cons (o := { dst := none, op := Op.store 3 (Operand.tmp 21) (Operand.tmp 19), type := 0, pos := "disk.go:266", after := #[{ on := 8, ground := Ground.data }, { on := 6, ground := Ground.data }, { on := 5, ground := Ground.chain }, { on := 0, ground := Ground.phase }, { on := 1, ground := Ground.phase }, { on := 2, ground := Ground.phase }, { on := 3, ground := Ground.phase }, { on := 4, ground := Ground.phase }, { on := 5, ground := Ground.phase }, { on := 6, ground := Ground.phase }], guard := none }) rfl (fun K9 hK9 => ?_) AllReady.nil)
    go_simp
    refine hK9 _ _ ?_
    clear hK9 K9
    try simp only [Act.put, List.setIfInBounds_toArray, List.set_cons_zero, List.set_cons_succ]
    refine wpAny_done (by kernel_rfl) ?_ _
    refine NoPanic.normal ?_
    exact h.out _ rfl
section
variable {w w' : World} {d bf bs : Nat} {m : M} {T : Nat → Prop} {V : Nat → Value × Value}
/-- The directory is turned. -/
theorem Dk.turn (h : Dk w d m T bf bs V) {D' : DataW Nat} {n' : Nat} (hb : But (fun x => x = bf) w w') (hm : w'.ownsMap Try.prog 9 pe bf n' D') (hn : m.n ≤ n') (hv : ∀ s g, D'.atKey (.string s) .nil = .held g → g ∈ m.ids) : Dk w' d { m with files := D', n := n' } T bf bs V where
  dk := h.dk.but hb (fun e => map_not h.mf h.dk e.symm)
  mf := hm
  ms := (ownsMap_of_block h.ms (hb.block _ h.ms.lt (fun e => h.ne e.symm))).mono hn
  ne := h.ne
  td := h.td
  tf := h.tf
  ts := h.ts
  ti := h.ti
  fl := fun g hg => by
    obtain ⟨a, b, c⟩ := h.fl g hg
    exact ⟨a.but hb (fun e => map_not h.mf a e.symm), owns_of_block b (fun k hk => hb.block k (b.lt k hk).2 (h.n1 hg hk).2.2.1), owns_of_block c (fun k hk => hb.block k (c.lt k hk).2 (h.n2 hg hk).2.2.1)⟩
  byt := h.byt
  s1 := h.s1
  s2 := h.s2
  vf := hv
  vs := h.vs
  lt := fun x hx => Nat.lt_of_lt_of_le (h.lt x hx) hb.size
/-- A new file. -/
theorem Dk.add (h : Dk w d m T bf bs V) : Dk (w.alloc (.cells #[.slice none 0 0, .slice none 0 0] 82)) d { m with ids := w.heap.size :: m.ids, ct := upd m.ct w.heap.size ([], []) } (nw T w (w.alloc (.cells #[.slice none 0 0, .slice none 0 0] 82))) bf bs (updV V w.heap.size (.slice none 0 0, .slice none 0 0)) := by
  have k := h.alloc (.cells #[.slice none 0 0, .slice none 0 0] 82)
  have hne : ∀ g ∈ m.ids, g ≠ w.heap.size := fun g hg => Nat.ne_of_lt (h.fl g hg).1.lt
  refine ⟨k.dk, k.mf, k.ms, k.ne, .inl k.td, .inl k.tf, .inl k.ts, fun g hg => ?_, fun g hg => ?_, fun g hg => ?_, fun g hg g' hg' j hj hj' => ?_, fun g hg g' hg' j hj hj' => ?_, fun s g e => List.mem_cons_of_mem _ (k.vf s g e), fun s g e => List.mem_cons_of_mem _ (k.vs s g e), fun x hx => ?_⟩
  · rcases List.mem_cons.1 hg with rfl | hg
    · simp only [updV, if_pos]
      exact ⟨.inr ⟨Nat.le_refl _, by simp⟩, fun k hk => (by cases hk), fun k hk => (by cases hk)⟩
    · simp only [updV, if_neg (hne g hg)]
      exact ⟨.inl (h.ti g hg).1, fun k hk => .inl ((h.ti g hg).2.1 k hk), fun k hk => .inl ((h.ti g hg).2.2 k hk)⟩
  · rcases List.mem_cons.1 hg with rfl | hg
    · simp only [updV, upd, if_pos]
      exact ⟨Bx.new w 82 _, World.ownsRow_nil _ _ _ _, World.ownsRow_nil _ _ _ _⟩
    · simp only [updV, upd, if_neg (hne g hg)]
      exact k.fl g hg
  · rcases List.mem_cons.1 hg with rfl | hg
    · simp only [upd, if_pos]
      exact ⟨fun x hx => (by cases hx), fun x hx => (by cases hx)⟩
    · simp only [upd, if_neg (hne g hg)]
      exact h.byt g hg
  · rcases List.mem_cons.1 hg with rfl | hg
    · simp only [updV, if_pos] at hj
      cases hj
    · rcases List.mem_cons.1 hg' with rfl | hg'
      · simp only [updV, if_pos] at hj'
        cases hj'
      · simp only [updV, if_neg (hne g hg)] at hj
        simp only [updV, if_neg (hne g' hg')] at hj'
        exact h.s1 g hg g' hg' j hj hj'
  · rcases List.mem_cons.1 hg with rfl | hg
    · simp only [updV, if_pos] at hj
      cases hj
    · rcases List.mem_cons.1 hg' with rfl | hg'
      · simp only [updV, if_pos] at hj'
        cases hj'
      · simp only [updV, if_neg (hne g hg)] at hj
        simp only [updV, if_neg (hne g' hg')] at hj'
        exact h.s2 g hg g' hg' j hj hj'
  · rcases hx with hx | hx
    · exact Nat.lt_of_lt_of_le (h.lt x hx) (by simp)
    · exact hx.2
theorem vdel {D : DataW Nat} {L : List Nat} (hv : ∀ s g, D.atKey (.string s) .nil = .held g → g ∈ L) (k : Lit) : ∀ s g, (D.del k).atKey (.string s) .nil = .held g → g ∈ L := by
  intro s g e
  by_cases hk : Lit.string s = k
  · rw [← hk, atKey_del_same] at e
    cases e
  · rw [atKey_del_other hk] at e
    exact hv s g e
theorem vput {D : DataW Nat} {L : List Nat} (hm : IsMap D) (hv : ∀ s g, D.atKey (.string s) .nil = .held g → g ∈ L) (k : List UInt8) (g0 : Nat) (h0 : g0 ∈ L) : ∀ s g, (D.put (.string k) (.held g0)).atKey (.string s) .nil = .held g → g ∈ L := by
  intro s g e
  by_cases hk : Lit.string s = .string k
  · rw [hk, atKey_put_same hm (isKey k)] at e
    cases e
    exact h0
  · rw [atKey_put_other hk] at e
    exact hv s g e

/-- The file that a step is for is found. -/
def Fnd (m : M) (s : ByteArray) (g : Nat) : Prop := nameOk s = true ∧ (pw m).gone = false ∧ m.files.atKey (key s) .nil = .held g
theorem maxLen_of_name {s : ByteArray} (h : nameOk s = true) : s.size ≤ maxLen := Nat.le_trans (nameOk_size h) (by unfold maxLen; omega)
theorem all1 (s : ByteArray) : [s].all nameOk = nameOk s := by simp
set_option maxHeartbeats 2000000 in
theorem beginWith_any (h : Dk w d m T bf bs V) (s : ByteArray) : Calls Try.prog 40 #[ptr d, .string s] w fun e w' => But (fun x => x = d) w w' ∧
    ((∃ g, Fnd m s g ∧ g ∈ m.ids ∧ e = .returned (.tuple #[ptr g, .int .i64 0]) ∧ Dk w' d (pw m) T bf bs V) ∨ ∃ r, r ≠ 0 ∧ e = .returned (.tuple #[.pointer none, .int .i64 r]) ∧ (∀ g, ¬ Fnd m s g) ∧ ∃ m', (m' = m ∨ m' = pw m) ∧ Dk w' d m' T bf bs V) := by
  have N := hide (nms_one w s)
  have A := hide (h.alloc (.cells #[.string s] 9))
  have bA := hide (but_alloc (fun x => x = d) w (.cells #[.string s] 9))
  obtain ⟨wA, hwA⟩ : ∃ wA, w.alloc (.cells #[.string s] 9) = wA := ⟨_, rfl⟩
  rw [hwA] at A N bA
  cases hk : nameOk s with
  | false =>
    go_enter Try.func40, Try.ntmps40
    go_wp2_with fail
    refine (begin_any A.out N.out).mono ?_
    rintro e w1 ⟨rfl, D1, b1⟩
    replace D1 := hide D1
    replace b1 := hide b1
    simp only [all1, hk, bg, if_false, Bool.false_eq_true] at D1 ⊢
    clear hwA
    go_wp2_with fail
    go_ret2
    exact ⟨bA.out.trans b1.out (fun _ _ e => e), .inr ⟨2, by decide, rfl, fun g hf => (by rw [hf.1] at hk; cases hk), m, .inl rfl, D1.out⟩⟩
  | true =>
    have hs := maxLen_of_name hk
    cases hg : (pw m).gone with
    | true =>
      go_enter Try.func40, Try.ntmps40
      go_wp2_with fail
      refine (begin_any A.out N.out).mono ?_
      rintro e w1 ⟨rfl, D1, b1⟩
      replace D1 := hide D1
      replace b1 := hide b1
      simp only [all1, hk, bg, if_true, hg] at D1 ⊢
      clear hwA
      go_wp2_with fail
      go_ret2
      exact ⟨bA.out.trans b1.out (fun _ _ e => e), .inr ⟨8, by decide, rfl, fun g hf => (by rw [hf.2.1] at hg; cases hg), pw m, .inr rfl, D1.out⟩⟩
    | false =>
      go_enter Try.func40, Try.ntmps40
      go_wp2_with fail
      refine (begin_any A.out N.out).mono ?_
      rintro e w1 ⟨rfl, D1, b1⟩
      replace b1 := hide (bA.out.trans b1 (fun _ _ e => e))
      simp only [all1, hk, bg, if_true, hg, if_false, Bool.false_eq_true] at D1 ⊢
      clear hwA
      go_wp2_with fail
      refine (find_any D1 hs).mono ?_
      rintro e w2 ⟨hw2, hc⟩
      replace hw2 := hw2.symm
      subst hw2
      replace D1 := hide D1
      rw [(pw_same m).1, (pw_same m).2.2.1] at hc
      rcases hc with ⟨ha, rfl⟩ | ⟨g, ha, hgi, rfl⟩
      · go_wp2_with fail
        go_ret2
        exact ⟨b1.out, .inr ⟨5, by decide, rfl, fun g hf => (by rw [hf.2.2] at ha; cases ha), pw m, .inr rfl, D1.out⟩⟩
      · go_wp2_with fail
        go_ret2
        exact ⟨b1.out, .inl ⟨g, ⟨hk, hg, ha⟩, hgi, rfl, D1.out⟩⟩

/-- A file's slice, as a slice that has bytes. -/
theorem Dk.has1 (h : Dk w d m T bf bs V) {g : Nat} (hg : g ∈ m.ids) : ∃ a c, (V g).1 = .slice a (m.ct g).1.length c ∧ Has w a (m.ct g).1.length c (m.ct g).1 := has_of_owns (h.fl g hg).2.1 (h.byt g hg).1
theorem Dk.has2 (h : Dk w d m T bf bs V) {g : Nat} (hg : g ∈ m.ids) : ∃ a c, (V g).2 = .slice a (m.ct g).2.length c ∧ Has w a (m.ct g).2.length c (m.ct g).2 := has_of_owns (h.fl g hg).2.2 (h.byt g hg).2
theorem Dk.fc (h : Dk w d m T bf bs V) {g : Nat} (hg : g ∈ m.ids) : w.cell? ⟨g, 0, none⟩ = some (V g).1 ∧ w.cell? ⟨g, 1, none⟩ = some (V g).2 := ⟨(h.fl g hg).1.cell 0, (h.fl g hg).1.cell 1⟩
set_option maxHeartbeats 1000000 in
theorem fsec_any (h : Dk w d m T bf bs V) {g : Nat} (hg : g ∈ m.ids) (hl : (m.ct g).1.length ≤ 1099511627776) : Calls Try.prog 37 #[ptr g] w fun e w' => e = .returned (.int .i64 (sec (m.ct g).1.length : Int)) ∧ w' = w := by
  obtain ⟨c0, _⟩ := h.fc hg
  obtain ⟨a, c, e, _⟩ := h.has1 hg
  rw [e] at c0
  clear e h
  go_enter Try.func37, Try.ntmps37
  go_wp2_with fail
  refine (sectors_any _ _ hl).mono ?_
  rintro e w' ⟨rfl, hw⟩; replace hw := hw.symm; subst hw
  go_wp2_with fail
  go_ret
  exact ⟨rfl, rfl⟩
set_option maxHeartbeats 1000000 in
theorem fhas_any (h : Dk w d m T bf bs V) {g : Nat} (hg : g ∈ m.ids) (n : Int) : Calls Try.prog 60 #[ptr g, .int .i64 n] w fun e w' => e = .returned (.bool (decide (0 ≤ n ∧ n ≤ ((m.ct g).1.length : Int)))) ∧ w' = w := by
  obtain ⟨c0, _⟩ := h.fc hg
  obtain ⟨a, c, e, _⟩ := h.has1 hg
  rw [e] at c0
  clear e h
  generalize (m.ct g).1.length = L at *
  by_cases h1 : 0 ≤ n
  · by_cases h2 : n ≤ (L : Int)
    · rw [show decide (0 ≤ n ∧ n ≤ (L : Int)) = true from decide_eq_true ⟨h1, h2⟩]
      go_enter Try.func60, Try.ntmps60
      go_wp2
      go_ret
      exact ⟨rfl, rfl⟩
    · rw [show decide (0 ≤ n ∧ n ≤ (L : Int)) = false from decide_eq_false (fun h => h2 h.2)]
      go_enter Try.func60, Try.ntmps60
      go_wp2
      go_ret
      exact ⟨rfl, rfl⟩
  · rw [show decide (0 ≤ n ∧ n ≤ (L : Int)) = false from decide_eq_false (fun h => h1 h.1)]
    go_enter Try.func60, Try.ntmps60
    go_wp2
    go_ret
    exact ⟨rfl, rfl⟩
set_option maxHeartbeats 1000000 in
theorem fuse_any (h : Dk w d m T bf bs V) (n : Int) : Calls Try.prog 28 #[ptr d, .int .i64 n] w fun e w' => e = .returned (.int .i64 0) ∧ Dk w' d { m with left := n } T bf bs V ∧ But (fun x => x = d) w w' := by
  obtain ⟨c0, c1, c2, c3, c4, c5, c6⟩ := h.cs
  have f0 := h.dk.fz 0
  have D1 := hide (h.disk (m' := { m with left := n }) (but_setCell w d 0 (.int .i64 n)) (h.dk.set1 0 (.int .i64 n)) rfl rfl rfl rfl rfl)
  have b1 := hide (but_setCell w d 0 (.int .i64 n))
  have I := hide (isMade_any h)
  clear h
  go_enter Try.func28, Try.ntmps28
  go_wp2_with fail
  refine I.out.mono ?_
  rintro e w' ⟨rfl, hw⟩; replace hw := hw.symm; subst hw
  go_wp2_with fail
  go_ret
  exact ⟨rfl, D1.out, b1.out⟩
set_option maxHeartbeats 1000000 in
theorem room_any (h : Dk w d m T bf bs V) (n : Int) : Calls Try.prog 10 #[ptr d, .int .i64 n] w fun e w' => e = .returned (.int .i64 (if 1 ≤ n ∧ n ≤ 65536 then 0 else 2)) ∧ Dk w' d (if 1 ≤ n ∧ n ≤ 65536 then { m with room := n } else m) T bf bs V ∧ But (fun x => x = d) w w' := by
  obtain ⟨c0, c1, c2, c3, c4, c5, c6⟩ := h.cs
  have f5 := h.dk.fz 5
  have D1 := hide (h.disk (m' := { m with room := n }) (but_setCell w d 5 (.int .i64 n)) (h.dk.set1 5 (.int .i64 n)) rfl rfl rfl rfl rfl)
  have b1 := hide (but_setCell w d 5 (.int .i64 n))
  have I := hide (isMade_any h)
  replace h := hide h
  by_cases hn : 1 ≤ n ∧ n ≤ 65536
  · rw [if_pos hn, if_pos hn]
    have hd : decide (1 ≤ n ∧ n ≤ 65536) = true := decide_eq_true hn
    go_enter Try.func10, Try.ntmps10
    go_wp2_with fail
    refine I.out.mono ?_
    rintro e w' ⟨rfl, hw⟩; replace hw := hw.symm; subst hw
    go_wp2_with fail
    refine (isRoom_any _ _).mono ?_
    rintro e w' ⟨rfl, hw⟩; replace hw := hw.symm; subst hw
    rw [hd]
    go_wp2_with fail
    go_ret
    exact ⟨rfl, D1.out, b1.out⟩
  · rw [if_neg hn, if_neg hn]
    have hd : decide (1 ≤ n ∧ n ≤ 65536) = false := decide_eq_false hn
    go_enter Try.func10, Try.ntmps10
    go_wp2_with fail
    refine I.out.mono ?_
    rintro e w' ⟨rfl, hw⟩; replace hw := hw.symm; subst hw
    go_wp2_with fail
    refine (isRoom_any _ _).mono ?_
    rintro e w' ⟨rfl, hw⟩; replace hw := hw.symm; subst hw
    rw [hd]
    go_wp2_with fail
    go_ret
    exact ⟨rfl, h.out, But.refl _ _⟩
set_option maxHeartbeats 1000000 in
theorem steps_any (h : Dk w d m T bf bs V) : Calls Try.prog 27 #[ptr d] w fun e w' => e = .returned (.int .i64 m.steps) ∧ w' = w := by
  obtain ⟨c0, c1, c2, c3, c4, c5, c6⟩ := h.cs
  go_enter Try.func27, Try.ntmps27
  go_wp2_with fail
  refine (isMade_any h).mono ?_
  rintro e w' ⟨rfl, hw⟩; replace hw := hw.symm; subst hw
  clear h
  go_wp2_with fail
  go_ret
  exact ⟨rfl, rfl⟩
end
end Go.Proofs.Ytgbijkdfhkkieaa
