/-
  Acts on both disks: what holds between them; drawn regions of 'do'.
-/
import Derived.Test.YtgbijkdfhkkieaaTB
namespace Go.Proofs.Ytgbijkdfhkkieaa
open Go.RowKit Go.Maps Go.Lib
set_option linter.unusedVariables false
set_option linter.unusedSimpArgs false
theorem Ref.lt {w : World} {y : Nat} {r : RM} {R : Nat → Prop} (h : Ref w y r R) {x : Nat} (hx : R x) : x < w.heap.size := by
  obtain ⟨I, vF, vD, vS, h, rfl⟩ := h
  exact h.rlt x hx
theorem Disk.kept {w w' : World} {d : Nat} {m : M} {T : Nat → Prop} (h : Disk w d m T) {S : Nat → Prop} (hb : But S w w') (hS : ∀ x, S x → ¬ T x) : Disk w' d m T := by
  obtain ⟨bf, bs, V, h⟩ := h
  exact ⟨bf, bs, V, h.kept hb hS⟩
theorem Ref.below {w w' : World} {y : Nat} {r : RM} {R : Nat → Prop} (h : Ref w y r R) (hb : Below w.heap.size w w') : Ref w' y r R := h.kept (But.of_below hb (fun _ => False)) (fun _ _ f => f)
/-- Both disks, side by side, behind k acts. -/
structure St (w : World) (d y : Nat) (m : M) (r : RM) (k : Nat) (T R : Nat → Prop) : Prop where
  dk : Disk w d m T
  rf : Ref w y r R
  ok : Ok m k
  rw : Rw2 r k
  ap : ∀ x, T x → ¬ R x
theorem St.below {w w' : World} {d y k : Nat} {m : M} {r : RM} {T R : Nat → Prop} (h : St w d y m r k T R) (hb : Below w.heap.size w w') : St w' d y m r k T R := ⟨h.dk.below hb, h.rf.below hb, h.ok, h.rw, h.ap⟩
/-- An act is done. -/
def Fin (w : World) (d y : Nat) (T R : Nat → Prop) (k : Nat) (s t : ByteArray) (m : M) (w' : World) : Prop := ∃ m' r' T' R', St w' d y m' r' (k + 1) T' R' ∧ Tu s t m m' ∧ But (fun x => T x ∨ R x) w w' ∧ (∀ x, T' x → T x ∨ w.heap.size ≤ x) ∧ ∀ x, R' x → R x ∨ w.heap.size ≤ x
theorem Fin.below {w w0 w' : World} {d y k : Nat} {m : M} {T R : Nat → Prop} {s t : ByteArray} (h : Fin w0 d y T R k s t m w') (hb : Below w.heap.size w w0) : Fin w d y T R k s t m w' := by
  obtain ⟨m', r', T', R', h1, h2, h3, h4, h5⟩ := h
  exact ⟨m', r', T', R', h1, h2, (But.of_below hb _).trans h3 (fun _ _ e => e), fun x hx => (h4 x hx).imp id (Nat.le_trans hb.size), fun x hx => (h5 x hx).imp id (Nat.le_trans hb.size)⟩
section
variable {w w1 w2 : World} {d y k : Nat} {m m' : M} {r r' : RM} {T R T1 R1 : Nat → Prop} {s t : ByteArray}
/-- The disk first, the reference's then. -/
theorem St.two (h : St w d y m r k T R) (D1 : Disk w1 d m' T1) (U1 : Up w T w1 T1) (tu : Tu s t m m') (F2 : Ref w2 y r' R1) (W2 : Rw2 r' (k + 1)) (B2 : But R w1 w2) (O2 : ∀ x, R1 x → R x ∨ w1.heap.size ≤ x) : Fin w d y T R k s t m w2 := by
  have hap : ∀ x, T1 x → ¬ R x := fun x hx hr => by
    rcases U1.own x hx with e | e
    · exact h.ap x e hr
    · have := h.rf.lt hr; omega
  refine ⟨m', r', T1, R1, ⟨D1.kept B2 (fun x hr ht => hap x ht hr), F2, h.ok.next h.dk tu, W2, fun x hx hr => ?_⟩, tu, (U1.but.mono (fun x e => .inl e)).trans (B2.mono (fun x e => .inr e)) (fun _ _ e => e), U1.own, fun x hx => ?_⟩
  · rcases O2 x hr with e | e
    · exact hap x hx e
    · have := D1.lt x hx; omega
  · rcases O2 x hx with e | e
    · exact .inl e
    · exact .inr (Nat.le_trans U1.but.size e)
theorem St.ref (h : St w d y m r k T R) (D1 : Disk w1 d m' T1) (U1 : Up w T w1 T1) : Ref w1 y r R := h.rf.kept U1.but (fun x hr ht => h.ap x ht hr)
/-- The reference's first, the disk then. -/
theorem St.two' (h : St w d y m r k T R) (F1 : Ref w1 y r' R1) (W1 : Rw2 r' (k + 1)) (B1 : But R w w1) (O1 : ∀ x, R1 x → R x ∨ w.heap.size ≤ x) (D2 : Disk w2 d m' T1) (U2 : Up w1 T w2 T1) (tu : Tu s t m m') : Fin w d y T R k s t m w2 := by
  have hap : ∀ x, R1 x → ¬ T x := fun x hx ht => by
    rcases O1 x hx with e | e
    · exact h.ap x ht e
    · have := h.dk.lt x ht; omega
  refine ⟨m', r', T1, R1, ⟨D2, F1.kept U2.but (fun x hr ht => hap x hr ht), h.ok.next h.dk tu, W1, fun x hx hr => ?_⟩, tu, (B1.mono (fun x e => .inr e)).trans (U2.but.mono (fun x e => .inl e)) (fun _ _ e => e), fun x hx => ?_, O1⟩
  · rcases U2.own x hx with e | e
    · exact hap x hr e
    · have := F1.lt hr; omega
  · rcases U2.own x hx with e | e
    · exact .inl e
    · exact .inr (Nat.le_trans B1.size e)
theorem St.dsk (h : St w d y m r k T R) (B1 : But R w w1) : Disk w1 d m T := h.dk.kept B1 (fun x hr ht => h.ap x ht hr)
end
set_option maxHeartbeats 4000000 in
set_option maxRecDepth 100000 in
theorem reg18_10 (w : World) (d y q : Nat) (s : ByteArray) (n : Int) (aB : Option Addr) (lB cB : Nat) (k1 : w.cell? ⟨q, 1, none⟩ = some (.int .i64 n)) (A1 : Option Addr → Nat → Nat → World → Prop) (A2 : Int → World → Prop) (A3 : World → Prop) (P1 : ∀ wx : World, wx = w.drew → Calls Try.prog 47 #[.slice aB lB cB] wx fun e w' => ∃ a1 n1 c1, e = .returned (.slice a1 n1 c1) ∧ A1 a1 n1 c1 w' ∧ w'.cell? ⟨q, 1, none⟩ = some (.int .i64 n)) (P2 : ∀ (a1 : Option Addr) (n1 c1 : Nat) (wx : World), A1 a1 n1 c1 wx → Calls Try.prog 25 #[.pointer (some ⟨d, 0, none⟩), .string s, .int .i64 n, .slice a1 n1 c1] wx fun e w' => ∃ r1, e = .returned (.int .i64 r1) ∧ A2 r1 w' ∧ w'.cell? ⟨q, 1, none⟩ = some (.int .i64 n)) (P3 : ∀ (r1 : Int) (wx : World), A2 r1 wx → Calls Try.prog 49 #[.pointer (some ⟨y, 0, none⟩), .string s, .int .i64 n, .slice aB lB cB] wx fun e w' => ∃ r2, e = .returned (.int .i64 r2) ∧ A3 w')
    (u2 u3 u4 u6 u8 u10 u11 u12 u13 u14 u15 u16 u17 u18 u19 u20 u21 u22 u23 u24 u25 u26 u27 u28 u29 u30 u31 u32 u33 u34 u35 u36 u37 u38 u39 u40 u41 u42 u43 u44 u45 u46 u47 u48 u49 u50 u51 u52 u53 u54 u55 u56 u57 u58 u59 u60 u61 u62 u63 u64 u65 u66 u67 u68 u69 u70 u71 u72 u73 u74 u75 u76 u77 u78 u79 u80 u81 u82 u83 u84 u85 u86 u87 u88 u89 u90 u91 u92 u93 u94 u95 u96 u97 u98 u99 u100 u101 u102 u103 u104 u105 u106 u107 u108 u109 u110 u111 u112 u113 u114 u115 u116 u117 u118 u119 u120 u121 u122 u123 u124 u125 u126 u127 u128 u129 u130 u131 u132 u133 u134 u135 u136 u137 u138 u139 u140 u141 u142 u143 u144 u145 u146 u147 u148 u149 u150 u151 u152 u153 u154 u155 u156 u157 u158 u159 u160 u161 u162 u163 : Value) (Q : Exit → Act → World → Prop)
    (h : ∀ r1 r2 a1 n1 c1 w', A3 w' → Q .normal { tmps := (List.toArray ((.pointer (some ⟨d, 0, none⟩) :: .pointer (some ⟨y, 0, none⟩) :: u2 :: u3 :: u4 :: .pointer (some ⟨q, 0, none⟩) :: .bool (r1 == r2) :: .string s :: u8 :: (.slice aB lB cB) :: u10 :: u11 :: u12 :: u13 :: u14 :: u15 :: u16 :: u17 :: u18 :: u19 :: u20 :: u21 :: u22 :: u23 :: u24 :: u25 :: u26 :: u27 :: u28 :: u29 :: u30 :: u31 :: u32 :: u33 :: u34 :: u35 :: u36 :: u37 :: u38 :: u39 :: u40 :: u41 :: u42 :: u43 :: u44 :: u45 :: u46 :: u47 :: u48 :: u49 :: u50 :: u51 :: u52 :: u53 :: u54 :: u55 :: u56 :: u57 :: u58 :: .pointer (some ⟨d, 0, none⟩) :: .string s :: .pointer (some ⟨q, 1, none⟩) :: .int .i64 n :: (.slice aB lB cB) :: (.slice a1 n1 c1) :: .int .i64 r1 :: .pointer (some ⟨y, 0, none⟩) :: .string s :: .pointer (some ⟨q, 1, none⟩) :: .int .i64 n :: (.slice aB lB cB) :: .int .i64 r2 :: .bool (r1 == r2) :: u73 :: u74 :: u75 :: u76 :: u77 :: u78 :: u79 :: u80 :: u81 :: u82 :: u83 :: u84 :: u85 :: u86 :: u87 :: u88 :: u89 :: u90 :: u91 :: u92 :: u93 :: u94 :: u95 :: u96 :: u97 :: u98 :: u99 :: u100 :: u101 :: u102 :: u103 :: u104 :: u105 :: u106 :: u107 :: u108 :: u109 :: u110 :: u111 :: u112 :: u113 :: u114 :: u115 :: u116 :: u117 :: u118 :: u119 :: u120 :: u121 :: u122 :: u123 :: u124 :: u125 :: u126 :: u127 :: u128 :: u129 :: u130 :: u131 :: u132 :: u133 :: u134 :: u135 :: u136 :: u137 :: u138 :: u139 :: u140 :: u141 :: u142 :: u143 :: u144 :: u145 :: u146 :: u147 :: u148 :: u149 :: u150 :: u151 :: u152 :: u153 :: u154 :: u155 :: u156 :: u157 :: u158 :: u159 :: u160 :: u161 :: u162 :: u163 :: []) : List Value)), defers := [] } w') :
    (Code.region 10 #[{ dst := some 59, op := Op.move (Operand.tmp 0), type := 26, pos := "law.go:67", after := #[], guard := none }, { dst := some 60, op := Op.move (Operand.tmp 7), type := 9, pos := "law.go:67", after := #[], guard := none }, { dst := some 61, op := Op.fieldAddr 36 (Operand.tmp 5) 1, type := 0, pos := "law.go:67", after := #[], guard := none }, { dst := some 62, op := Op.load 3 (Operand.tmp 61), type := 3, pos := "law.go:67", after := #[{ on := 2, ground := Ground.data }], guard := none }, { dst := some 63, op := Op.move (Operand.tmp 9), type := 23, pos := "law.go:67", after := #[], guard := none }, { dst := some 64, op := Op.call { callee := Callee.value (Operand.func 47), args := #[Operand.tmp 63], argTypes := #[23] }, type := 23, pos := "law.go:67", after := #[{ on := 4, ground := Ground.data }], guard := none }, { dst := some 65, op := Op.call { callee := Callee.value (Operand.func 25), args := #[Operand.tmp 59, Operand.tmp 60, Operand.tmp 62, Operand.tmp 64], argTypes := #[26, 9, 3, 23] }, type := 28, pos := "law.go:67", after := #[{ on := 0, ground := Ground.data }, { on := 1, ground := Ground.data }, { on := 3, ground := Ground.data }, { on := 5, ground := Ground.data }, { on := 5, ground := Ground.chain }], guard := none }, { dst := some 66, op := Op.move (Operand.tmp 1), type := 38, pos := "law.go:67", after := #[], guard := none }, { dst := some 67, op := Op.move (Operand.tmp 7), type := 9, pos := "law.go:67", after := #[], guard := none }, { dst := some 68, op := Op.fieldAddr 36 (Operand.tmp 5) 1, type := 0, pos := "law.go:67", after := #[], guard := none }, { dst := some 69, op := Op.load 3 (Operand.tmp 68), type := 3, pos := "law.go:67", after := #[{ on := 9, ground := Ground.data }], guard := none }, { dst := some 70, op := Op.move (Operand.tmp 9), type := 23, pos := "law.go:67", after := #[], guard := none }, { dst := some 71, op := Op.call { callee := Callee.value (Operand.func 49), args := #[Operand.tmp 66, Operand.tmp 67, Operand.tmp 69, Operand.tmp 70], argTypes := #[38, 9, 3, 23] }, type := 28, pos := "law.go:67", after := #[{ on := 7, ground := Ground.data }, { on := 8, ground := Ground.data }, { on := 10, ground := Ground.data }, { on := 11, ground := Ground.data }, { on := 6, ground := Ground.chain }], guard := none }, { dst := some 72, op := Op.binOp BinOp.eql 28 (Operand.tmp 65) (Operand.tmp 71) 28, type := 4, pos := "law.go:67", after := #[{ on := 6, ground := Ground.data }, { on := 12, ground := Ground.data }], guard := none }, { dst := some 6, op := Op.assign (Operand.tmp 72), type := 4, pos := "law.go:67", after := #[{ on := 13, ground := Ground.data }, { on := 12, ground := Ground.chain }, { on := 0, ground := Ground.phase }, { on := 1, ground := Ground.phase }, { on := 2, ground := Ground.phase }, { on := 3, ground := Ground.phase }, { on := 4, ground := Ground.phase }, { on := 5, ground := Ground.phase }, { on := 6, ground := Ground.phase }, { on := 7, ground := Ground.phase }, { on := 8, ground := Ground.phase }, { on := 9, ground := Ground.phase }, { on := 10, ground := Ground.phase }, { on := 11, ground := Ground.phase }, { on := 12, ground := Ground.phase }, { on := 13, ground := Ground.phase }], guard := none }] true).wp Try.prog Q { tmps := (List.toArray ((.pointer (some ⟨d, 0, none⟩) :: .pointer (some ⟨y, 0, none⟩) :: u2 :: u3 :: u4 :: .pointer (some ⟨q, 0, none⟩) :: u6 :: .string s :: u8 :: (.slice aB lB cB) :: u10 :: u11 :: u12 :: u13 :: u14 :: u15 :: u16 :: u17 :: u18 :: u19 :: u20 :: u21 :: u22 :: u23 :: u24 :: u25 :: u26 :: u27 :: u28 :: u29 :: u30 :: u31 :: u32 :: u33 :: u34 :: u35 :: u36 :: u37 :: u38 :: u39 :: u40 :: u41 :: u42 :: u43 :: u44 :: u45 :: u46 :: u47 :: u48 :: u49 :: u50 :: u51 :: u52 :: u53 :: u54 :: u55 :: u56 :: u57 :: u58 :: u59 :: u60 :: u61 :: u62 :: u63 :: u64 :: u65 :: u66 :: u67 :: u68 :: u69 :: u70 :: u71 :: u72 :: u73 :: u74 :: u75 :: u76 :: u77 :: u78 :: u79 :: u80 :: u81 :: u82 :: u83 :: u84 :: u85 :: u86 :: u87 :: u88 :: u89 :: u90 :: u91 :: u92 :: u93 :: u94 :: u95 :: u96 :: u97 :: u98 :: u99 :: u100 :: u101 :: u102 :: u103 :: u104 :: u105 :: u106 :: u107 :: u108 :: u109 :: u110 :: u111 :: u112 :: u113 :: u114 :: u115 :: u116 :: u117 :: u118 :: u119 :: u120 :: u121 :: u122 :: u123 :: u124 :: u125 :: u126 :: u127 :: u128 :: u129 :: u130 :: u131 :: u132 :: u133 :: u134 :: u135 :: u136 :: u137 :: u138 :: u139 :: u140 :: u141 :: u142 :: u143 :: u144 :: u145 :: u146 :: u147 :: u148 :: u149 :: u150 :: u151 :: u152 :: u153 :: u154 :: u155 :: u156 :: u157 :: u158 :: u159 :: u160 :: u161 :: u162 :: u163 :: []) : List Value)), defers := [] } w := by
  replace P1 := hide P1
  replace P2 := hide P2
  replace P3 := hide P3
  replace h := hide h
  refine wp_region_noPanic ?_
  refine wp_region_any (by kernel_rfl) ?_
  change wpAny _ _ _ _ _ _ _ (World.drew w)
  refine wpAny_take (i := 0) (oi := { dst := some 59, op := Op.move (Operand.tmp 0), type := 26, pos := "law.go:67", after := #[], guard := none }) (v := ?_) rfl (by kernel_rfl) (by kernel_rfl) (by kernel_rfl) (fun _ _ _ h => h) (Or.inl ⟨by rfl, ?_⟩) ?_
  rotate_left
  · intro w'
    go_simp
    try with_reducible rfl
  try simp only [Act.put, List.setIfInBounds_toArray, List.set_cons_zero, List.set_cons_succ]
  refine wpAny_take (i := 1) (oi := { dst := some 60, op := Op.move (Operand.tmp 7), type := 9, pos := "law.go:67", after := #[], guard := none }) (v := ?_) rfl (by kernel_rfl) (by kernel_rfl) (by kernel_rfl) (fun _ _ _ h => h) (Or.inl ⟨by rfl, ?_⟩) ?_
  rotate_left
  · intro w'
    go_simp
    try with_reducible rfl
  try simp only [Act.put, List.setIfInBounds_toArray, List.set_cons_zero, List.set_cons_succ]
  refine wpAny_take (i := 2) (oi := { dst := some 61, op := Op.fieldAddr 36 (Operand.tmp 5) 1, type := 0, pos := "law.go:67", after := #[], guard := none }) (v := ?_) rfl (by kernel_rfl) (by kernel_rfl) (by kernel_rfl) (fun _ _ _ h => h) (Or.inl ⟨by rfl, ?_⟩) ?_
  rotate_left
  · intro w'
    go_simp
    try with_reducible rfl
  try simp only [Act.put, List.setIfInBounds_toArray, List.set_cons_zero, List.set_cons_succ]
  refine wpAny_take (i := 4) (oi := { dst := some 63, op := Op.move (Operand.tmp 9), type := 23, pos := "law.go:67", after := #[], guard := none }) (v := ?_) rfl (by kernel_rfl) (by kernel_rfl) (by kernel_rfl) (fun _ _ _ h => h) (Or.inl ⟨by rfl, ?_⟩) ?_
  rotate_left
  · intro w'
    go_simp
    try with_reducible rfl
  try simp only [Act.put, List.setIfInBounds_toArray, List.set_cons_zero, List.set_cons_succ]
  refine wpAny_take (i := 7) (oi := { dst := some 66, op := Op.move (Operand.tmp 1), type := 38, pos := "law.go:67", after := #[], guard := none }) (v := ?_) rfl (by kernel_rfl) (by kernel_rfl) (by kernel_rfl) (fun _ _ _ h => h) (Or.inl ⟨by rfl, ?_⟩) ?_
  rotate_left
  · intro w'
    go_simp
    try with_reducible rfl
  try simp only [Act.put, List.setIfInBounds_toArray, List.set_cons_zero, List.set_cons_succ]
  refine wpAny_take (i := 8) (oi := { dst := some 67, op := Op.move (Operand.tmp 7), type := 9, pos := "law.go:67", after := #[], guard := none }) (v := ?_) rfl (by kernel_rfl) (by kernel_rfl) (by kernel_rfl) (fun _ _ _ h => h) (Or.inl ⟨by rfl, ?_⟩) ?_
  rotate_left
  · intro w'
    go_simp
    try with_reducible rfl
  try simp only [Act.put, List.setIfInBounds_toArray, List.set_cons_zero, List.set_cons_succ]
  refine wpAny_take (i := 9) (oi := { dst := some 68, op := Op.fieldAddr 36 (Operand.tmp 5) 1, type := 0, pos := "law.go:67", after := #[], guard := none }) (v := ?_) rfl (by kernel_rfl) (by kernel_rfl) (by kernel_rfl) (fun _ _ _ h => h) (Or.inl ⟨by rfl, ?_⟩) ?_
  rotate_left
  · intro w'
    go_simp
    try with_reducible rfl
  try simp only [Act.put, List.setIfInBounds_toArray, List.set_cons_zero, List.set_cons_succ]
  refine wpAny_take (i := 11) (oi := { dst := some 70, op := Op.move (Operand.tmp 9), type := 23, pos := "law.go:67", after := #[], guard := none }) (v := ?_) rfl (by kernel_rfl) (by kernel_rfl) (by kernel_rfl) (fun _ _ _ h => h) (Or.inl ⟨by rfl, ?_⟩) ?_
  rotate_left
  · intro w'
    go_simp
    try with_reducible rfl
  try simp only [Act.put, List.setIfInBounds_toArray, List.set_cons_zero, List.set_cons_succ]
  refine wpAny_ready (rs := [3, 5, 10]) (by kernel_rfl) (by simp) ?_
  refine (AllReady.cons (o := { dst := some 62, op := Op.load 3 (Operand.tmp 61), type := 3, pos := "law.go:67", after := #[{ on := 2, ground := Ground.data }], guard := none }) rfl (fun K3 hK3 => ?_) (AllReady.cons (o := { dst := some 64, op := Op.call { callee := Callee.value (Operand.func 47), args := #[Operand.tmp 63], argTypes := #[23] }, type := 23, pos := "law.go:67", after := #[{ on := 4, ground := Ground.data }], guard := none }) rfl (fun K5 hK5 => ?_) (AllReady.cons (o := { dst := some 69, op := Op.load 3 (Operand.tmp 68), type := 3, pos := "law.go:67", after := #[{ on := 9, ground := Ground.data }], guard := none }) rfl (fun K10 hK10 => ?_) AllReady.nil)))
  · go_simp
    refine hK3 _ _ ?_
    clear hK3 K3
    try simp only [Act.put, List.setIfInBounds_toArray, List.set_cons_zero, List.set_cons_succ]
    refine wpAny_ready (rs := [5, 10]) (by kernel_rfl) (by simp) ?_
    refine (AllReady.cons (o := { dst := some 64, op := Op.call { callee := Callee.value (Operand.func 47), args := #[Operand.tmp 63], argTypes := #[23] }, type := 23, pos := "law.go:67", after := #[{ on := 4, ground := Ground.data }], guard := none }) rfl (fun K5 hK5 => ?_) (AllReady.cons (o := { dst := some 69, op := Op.load 3 (Operand.tmp 68), type := 3, pos := "law.go:67", after := #[{ on := 9, ground := Ground.data }], guard := none }) rfl (fun K10 hK10 => ?_) AllReady.nil))
    · go_simp
      refine (P1.out _ rfl).mono ?_
      rintro e w2 ⟨a1, n1, c1, rfl, hA1, q1⟩
      replace hA1 := hide hA1
      refine hK5 _ _ ?_
      clear hK5 K5
      try simp only [Act.put, List.setIfInBounds_toArray, List.set_cons_zero, List.set_cons_succ]
      refine wpAny_ready (rs := [6, 10]) (by kernel_rfl) (by simp) ?_
      refine (AllReady.cons (o := { dst := some 65, op := Op.call { callee := Callee.value (Operand.func 25), args := #[Operand.tmp 59, Operand.tmp 60, Operand.tmp 62, Operand.tmp 64], argTypes := #[26, 9, 3, 23] }, type := 28, pos := "law.go:67", after := #[{ on := 0, ground := Ground.data }, { on := 1, ground := Ground.data }, { on := 3, ground := Ground.data }, { on := 5, ground := Ground.data }, { on := 5, ground := Ground.chain }], guard := none }) rfl (fun K6 hK6 => ?_) (AllReady.cons (o := { dst := some 69, op := Op.load 3 (Operand.tmp 68), type := 3, pos := "law.go:67", after := #[{ on := 9, ground := Ground.data }], guard := none }) rfl (fun K10 hK10 => ?_) AllReady.nil))
      · go_simp
        refine (P2.out a1 n1 c1 _ hA1.out).mono ?_
        rintro e w3 ⟨r1, rfl, hA2, q2⟩
        replace hA2 := hide hA2
        refine hK6 _ _ ?_
        clear hK6 K6
        try simp only [Act.put, List.setIfInBounds_toArray, List.set_cons_zero, List.set_cons_succ]
        refine wpAny_ready (rs := [10]) (by kernel_rfl) (by simp) ?_
        refine (AllReady.cons (o := { dst := some 69, op := Op.load 3 (Operand.tmp 68), type := 3, pos := "law.go:67", after := #[{ on := 9, ground := Ground.data }], guard := none }) rfl (fun K10 hK10 => ?_) AllReady.nil)
        go_simp
        refine hK10 _ _ ?_
        clear hK10 K10
        try simp only [Act.put, List.setIfInBounds_toArray, List.set_cons_zero, List.set_cons_succ]
        refine wpAny_ready (rs := [12]) (by kernel_rfl) (by simp) ?_
        refine (AllReady.cons (o := { dst := some 71, op := Op.call { callee := Callee.value (Operand.func 49), args := #[Operand.tmp 66, Operand.tmp 67, Operand.tmp 69, Operand.tmp 70], argTypes := #[38, 9, 3, 23] }, type := 28, pos := "law.go:67", after := #[{ on := 7, ground := Ground.data }, { on := 8, ground := Ground.data }, { on := 10, ground := Ground.data }, { on := 11, ground := Ground.data }, { on := 6, ground := Ground.chain }], guard := none }) rfl (fun K12 hK12 => ?_) AllReady.nil)
        go_simp
        refine (P3.out r1 _ hA2.out).mono ?_
        rintro e w4 ⟨r2, rfl, hA3⟩
        replace hA3 := hide hA3
        refine hK12 _ _ ?_
        clear hK12 K12
        try simp only [Act.put, List.setIfInBounds_toArray, List.set_cons_zero, List.set_cons_succ]
        refine wpAny_take (i := 13) (oi := { dst := some 72, op := Op.binOp BinOp.eql 28 (Operand.tmp 65) (Operand.tmp 71) 28, type := 4, pos := "law.go:67", after := #[{ on := 6, ground := Ground.data }, { on := 12, ground := Ground.data }], guard := none }) (v := ?_) rfl (by kernel_rfl) (by kernel_rfl) (by kernel_rfl) (fun _ _ _ h => h) (Or.inl ⟨by rfl, ?_⟩) ?_
        rotate_left
        · intro w'
          go_simp
          try with_reducible rfl
        try simp only [Act.put, List.setIfInBounds_toArray, List.set_cons_zero, List.set_cons_succ]
        refine wpAny_take (i := 14) (oi := { dst := some 6, op := Op.assign (Operand.tmp 72), type := 4, pos := "law.go:67", after := #[{ on := 13, ground := Ground.data }, { on := 12, ground := Ground.chain }, { on := 0, ground := Ground.phase }, { on := 1, ground := Ground.phase }, { on := 2, ground := Ground.phase }, { on := 3, ground := Ground.phase }, { on := 4, ground := Ground.phase }, { on := 5, ground := Ground.phase }, { on := 6, ground := Ground.phase }, { on := 7, ground := Ground.phase }, { on := 8, ground := Ground.phase }, { on := 9, ground := Ground.phase }, { on := 10, ground := Ground.phase }, { on := 11, ground := Ground.phase }, { on := 12, ground := Ground.phase }, { on := 13, ground := Ground.phase }], guard := none }) (v := ?_) rfl (by kernel_rfl) (by kernel_rfl) (by kernel_rfl) (fun _ _ _ h => h) (Or.inl ⟨by rfl, ?_⟩) ?_
        rotate_left
        · intro w'
          go_simp
          try with_reducible rfl
        try simp only [Act.put, List.setIfInBounds_toArray, List.set_cons_zero, List.set_cons_succ]
        refine wpAny_done (by kernel_rfl) ?_ _
        refine NoPanic.normal ?_
        exact h.out r1 r2 a1 n1 c1 w4 hA3.out
      · go_simp
        refine hK10 _ _ ?_
        clear hK10 K10
        try simp only [Act.put, List.setIfInBounds_toArray, List.set_cons_zero, List.set_cons_succ]
        refine wpAny_ready (rs := [6]) (by kernel_rfl) (by simp) ?_
        refine (AllReady.cons (o := { dst := some 65, op := Op.call { callee := Callee.value (Operand.func 25), args := #[Operand.tmp 59, Operand.tmp 60, Operand.tmp 62, Operand.tmp 64], argTypes := #[26, 9, 3, 23] }, type := 28, pos := "law.go:67", after := #[{ on := 0, ground := Ground.data }, { on := 1, ground := Ground.data }, { on := 3, ground := Ground.data }, { on := 5, ground := Ground.data }, { on := 5, ground := Ground.chain }], guard := none }) rfl (fun K6 hK6 => ?_) AllReady.nil)
        go_simp
        refine (P2.out a1 n1 c1 _ hA1.out).mono ?_
        rintro e w3 ⟨r1, rfl, hA2, q2⟩
        replace hA2 := hide hA2
        refine hK6 _ _ ?_
        clear hK6 K6
        try simp only [Act.put, List.setIfInBounds_toArray, List.set_cons_zero, List.set_cons_succ]
        refine wpAny_ready (rs := [12]) (by kernel_rfl) (by simp) ?_
        refine (AllReady.cons (o := { dst := some 71, op := Op.call { callee := Callee.value (Operand.func 49), args := #[Operand.tmp 66, Operand.tmp 67, Operand.tmp 69, Operand.tmp 70], argTypes := #[38, 9, 3, 23] }, type := 28, pos := "law.go:67", after := #[{ on := 7, ground := Ground.data }, { on := 8, ground := Ground.data }, { on := 10, ground := Ground.data }, { on := 11, ground := Ground.data }, { on := 6, ground := Ground.chain }], guard := none }) rfl (fun K12 hK12 => ?_) AllReady.nil)
        go_simp
        refine (P3.out r1 _ hA2.out).mono ?_
        rintro e w4 ⟨r2, rfl, hA3⟩
        replace hA3 := hide hA3
        refine hK12 _ _ ?_
        clear hK12 K12
        try simp only [Act.put, List.setIfInBounds_toArray, List.set_cons_zero, List.set_cons_succ]
        refine wpAny_take (i := 13) (oi := { dst := some 72, op := Op.binOp BinOp.eql 28 (Operand.tmp 65) (Operand.tmp 71) 28, type := 4, pos := "law.go:67", after := #[{ on := 6, ground := Ground.data }, { on := 12, ground := Ground.data }], guard := none }) (v := ?_) rfl (by kernel_rfl) (by kernel_rfl) (by kernel_rfl) (fun _ _ _ h => h) (Or.inl ⟨by rfl, ?_⟩) ?_
        rotate_left
        · intro w'
          go_simp
          try with_reducible rfl
        try simp only [Act.put, List.setIfInBounds_toArray, List.set_cons_zero, List.set_cons_succ]
        refine wpAny_take (i := 14) (oi := { dst := some 6, op := Op.assign (Operand.tmp 72), type := 4, pos := "law.go:67", after := #[{ on := 13, ground := Ground.data }, { on := 12, ground := Ground.chain }, { on := 0, ground := Ground.phase }, { on := 1, ground := Ground.phase }, { on := 2, ground := Ground.phase }, { on := 3, ground := Ground.phase }, { on := 4, ground := Ground.phase }, { on := 5, ground := Ground.phase }, { on := 6, ground := Ground.phase }, { on := 7, ground := Ground.phase }, { on := 8, ground := Ground.phase }, { on := 9, ground := Ground.phase }, { on := 10, ground := Ground.phase }, { on := 11, ground := Ground.phase }, { on := 12, ground := Ground.phase }, { on := 13, ground := Ground.phase }], guard := none }) (v := ?_) rfl (by kernel_rfl) (by kernel_rfl) (by kernel_rfl) (fun _ _ _ h => h) (Or.inl ⟨by rfl, ?_⟩) ?_
        rotate_left
        · intro w'
          go_simp
          try with_reducible rfl
        try simp only [Act.put, List.setIfInBounds_toArray, List.set_cons_zero, List.set_cons_succ]
        refine wpAny_done (by kernel_rfl) ?_ _
        refine NoPanic.normal ?_
        exact h.out r1 r2 a1 n1 c1 w4 hA3.out
    · go_simp
      refine hK10 _ _ ?_
      clear hK10 K10
      try simp only [Act.put, List.setIfInBounds_toArray, List.set_cons_zero, List.set_cons_succ]
      refine wpAny_ready (rs := [5]) (by kernel_rfl) (by simp) ?_
      refine (AllReady.cons (o := { dst := some 64, op := Op.call { callee := Callee.value (Operand.func 47), args := #[Operand.tmp 63], argTypes := #[23] }, type := 23, pos := "law.go:67", after := #[{ on := 4, ground := Ground.data }], guard := none }) rfl (fun K5 hK5 => ?_) AllReady.nil)
      go_simp
      refine (P1.out _ rfl).mono ?_
      rintro e w2 ⟨a1, n1, c1, rfl, hA1, q1⟩
      replace hA1 := hide hA1
      refine hK5 _ _ ?_
      clear hK5 K5
      try simp only [Act.put, List.setIfInBounds_toArray, List.set_cons_zero, List.set_cons_succ]
      refine wpAny_ready (rs := [6]) (by kernel_rfl) (by simp) ?_
      refine (AllReady.cons (o := { dst := some 65, op := Op.call { callee := Callee.value (Operand.func 25), args := #[Operand.tmp 59, Operand.tmp 60, Operand.tmp 62, Operand.tmp 64], argTypes := #[26, 9, 3, 23] }, type := 28, pos := "law.go:67", after := #[{ on := 0, ground := Ground.data }, { on := 1, ground := Ground.data }, { on := 3, ground := Ground.data }, { on := 5, ground := Ground.data }, { on := 5, ground := Ground.chain }], guard := none }) rfl (fun K6 hK6 => ?_) AllReady.nil)
      go_simp
      refine (P2.out a1 n1 c1 _ hA1.out).mono ?_
      rintro e w3 ⟨r1, rfl, hA2, q2⟩
      replace hA2 := hide hA2
      refine hK6 _ _ ?_
      clear hK6 K6
      try simp only [Act.put, List.setIfInBounds_toArray, List.set_cons_zero, List.set_cons_succ]
      refine wpAny_ready (rs := [12]) (by kernel_rfl) (by simp) ?_
      refine (AllReady.cons (o := { dst := some 71, op := Op.call { callee := Callee.value (Operand.func 49), args := #[Operand.tmp 66, Operand.tmp 67, Operand.tmp 69, Operand.tmp 70], argTypes := #[38, 9, 3, 23] }, type := 28, pos := "law.go:67", after := #[{ on := 7, ground := Ground.data }, { on := 8, ground := Ground.data }, { on := 10, ground := Ground.data }, { on := 11, ground := Ground.data }, { on := 6, ground := Ground.chain }], guard := none }) rfl (fun K12 hK12 => ?_) AllReady.nil)
      go_simp
      refine (P3.out r1 _ hA2.out).mono ?_
      rintro e w4 ⟨r2, rfl, hA3⟩
      replace hA3 := hide hA3
      refine hK12 _ _ ?_
      clear hK12 K12
      try simp only [Act.put, List.setIfInBounds_toArray, List.set_cons_zero, List.set_cons_succ]
      refine wpAny_take (i := 13) (oi := { dst := some 72, op := Op.binOp BinOp.eql 28 (Operand.tmp 65) (Operand.tmp 71) 28, type := 4, pos := "law.go:67", after := #[{ on := 6, ground := Ground.data }, { on := 12, ground := Ground.data }], guard := none }) (v := ?_) rfl (by kernel_rfl) (by kernel_rfl) (by kernel_rfl) (fun _ _ _ h => h) (Or.inl ⟨by rfl, ?_⟩) ?_
      rotate_left
      · intro w'
        go_simp
        try with_reducible rfl
      try simp only [Act.put, List.setIfInBounds_toArray, List.set_cons_zero, List.set_cons_succ]
      refine wpAny_take (i := 14) (oi := { dst := some 6, op := Op.assign (Operand.tmp 72), type := 4, pos := "law.go:67", after := #[{ on := 13, ground := Ground.data }, { on := 12, ground := Ground.chain }, { on := 0, ground := Ground.phase }, { on := 1, ground := Ground.phase }, { on := 2, ground := Ground.phase }, { on := 3, ground := Ground.phase }, { on := 4, ground := Ground.phase }, { on := 5, ground := Ground.phase }, { on := 6, ground := Ground.phase }, { on := 7, ground := Ground.phase }, { on := 8, ground := Ground.phase }, { on := 9, ground := Ground.phase }, { on := 10, ground := Ground.phase }, { on := 11, ground := Ground.phase }, { on := 12, ground := Ground.phase }, { on := 13, ground := Ground.phase }], guard := none }) (v := ?_) rfl (by kernel_rfl) (by kernel_rfl) (by kernel_rfl) (fun _ _ _ h => h) (Or.inl ⟨by rfl, ?_⟩) ?_
      rotate_left
      · intro w'
        go_simp
        try with_reducible rfl
      try simp only [Act.put, List.setIfInBounds_toArray, List.set_cons_zero, List.set_cons_succ]
      refine wpAny_done (by kernel_rfl) ?_ _
      refine NoPanic.normal ?_
      exact h.out r1 r2 a1 n1 c1 w4 hA3.out
  · go_simp
    refine (P1.out _ rfl).mono ?_
    rintro e w2 ⟨a1, n1, c1, rfl, hA1, q1⟩
    replace hA1 := hide hA1
    refine hK5 _ _ ?_
    clear hK5 K5
    try simp only [Act.put, List.setIfInBounds_toArray, List.set_cons_zero, List.set_cons_succ]
    refine wpAny_ready (rs := [3, 10]) (by kernel_rfl) (by simp) ?_
    refine (AllReady.cons (o := { dst := some 62, op := Op.load 3 (Operand.tmp 61), type := 3, pos := "law.go:67", after := #[{ on := 2, ground := Ground.data }], guard := none }) rfl (fun K3 hK3 => ?_) (AllReady.cons (o := { dst := some 69, op := Op.load 3 (Operand.tmp 68), type := 3, pos := "law.go:67", after := #[{ on := 9, ground := Ground.data }], guard := none }) rfl (fun K10 hK10 => ?_) AllReady.nil))
    · go_simp
      refine hK3 _ _ ?_
      clear hK3 K3
      try simp only [Act.put, List.setIfInBounds_toArray, List.set_cons_zero, List.set_cons_succ]
      refine wpAny_ready (rs := [6, 10]) (by kernel_rfl) (by simp) ?_
      refine (AllReady.cons (o := { dst := some 65, op := Op.call { callee := Callee.value (Operand.func 25), args := #[Operand.tmp 59, Operand.tmp 60, Operand.tmp 62, Operand.tmp 64], argTypes := #[26, 9, 3, 23] }, type := 28, pos := "law.go:67", after := #[{ on := 0, ground := Ground.data }, { on := 1, ground := Ground.data }, { on := 3, ground := Ground.data }, { on := 5, ground := Ground.data }, { on := 5, ground := Ground.chain }], guard := none }) rfl (fun K6 hK6 => ?_) (AllReady.cons (o := { dst := some 69, op := Op.load 3 (Operand.tmp 68), type := 3, pos := "law.go:67", after := #[{ on := 9, ground := Ground.data }], guard := none }) rfl (fun K10 hK10 => ?_) AllReady.nil))
      · go_simp
        refine (P2.out a1 n1 c1 _ hA1.out).mono ?_
        rintro e w3 ⟨r1, rfl, hA2, q2⟩
        replace hA2 := hide hA2
        refine hK6 _ _ ?_
        clear hK6 K6
        try simp only [Act.put, List.setIfInBounds_toArray, List.set_cons_zero, List.set_cons_succ]
        refine wpAny_ready (rs := [10]) (by kernel_rfl) (by simp) ?_
        refine (AllReady.cons (o := { dst := some 69, op := Op.load 3 (Operand.tmp 68), type := 3, pos := "law.go:67", after := #[{ on := 9, ground := Ground.data }], guard := none }) rfl (fun K10 hK10 => ?_) AllReady.nil)
        go_simp
        refine hK10 _ _ ?_
        clear hK10 K10
        try simp only [Act.put, List.setIfInBounds_toArray, List.set_cons_zero, List.set_cons_succ]
        refine wpAny_ready (rs := [12]) (by kernel_rfl) (by simp) ?_
        refine (AllReady.cons (o := { dst := some 71, op := Op.call { callee := Callee.value (Operand.func 49), args := #[Operand.tmp 66, Operand.tmp 67, Operand.tmp 69, Operand.tmp 70], argTypes := #[38, 9, 3, 23] }, type := 28, pos := "law.go:67", after := #[{ on := 7, ground := Ground.data }, { on := 8, ground := Ground.data }, { on := 10, ground := Ground.data }, { on := 11, ground := Ground.data }, { on := 6, ground := Ground.chain }], guard := none }) rfl (fun K12 hK12 => ?_) AllReady.nil)
        go_simp
        refine (P3.out r1 _ hA2.out).mono ?_
        rintro e w4 ⟨r2, rfl, hA3⟩
        replace hA3 := hide hA3
        refine hK12 _ _ ?_
        clear hK12 K12
        try simp only [Act.put, List.setIfInBounds_toArray, List.set_cons_zero, List.set_cons_succ]
        refine wpAny_take (i := 13) (oi := { dst := some 72, op := Op.binOp BinOp.eql 28 (Operand.tmp 65) (Operand.tmp 71) 28, type := 4, pos := "law.go:67", after := #[{ on := 6, ground := Ground.data }, { on := 12, ground := Ground.data }], guard := none }) (v := ?_) rfl (by kernel_rfl) (by kernel_rfl) (by kernel_rfl) (fun _ _ _ h => h) (Or.inl ⟨by rfl, ?_⟩) ?_
        rotate_left
        · intro w'
          go_simp
          try with_reducible rfl
        try simp only [Act.put, List.setIfInBounds_toArray, List.set_cons_zero, List.set_cons_succ]
        refine wpAny_take (i := 14) (oi := { dst := some 6, op := Op.assign (Operand.tmp 72), type := 4, pos := "law.go:67", after := #[{ on := 13, ground := Ground.data }, { on := 12, ground := Ground.chain }, { on := 0, ground := Ground.phase }, { on := 1, ground := Ground.phase }, { on := 2, ground := Ground.phase }, { on := 3, ground := Ground.phase }, { on := 4, ground := Ground.phase }, { on := 5, ground := Ground.phase }, { on := 6, ground := Ground.phase }, { on := 7, ground := Ground.phase }, { on := 8, ground := Ground.phase }, { on := 9, ground := Ground.phase }, { on := 10, ground := Ground.phase }, { on := 11, ground := Ground.phase }, { on := 12, ground := Ground.phase }, { on := 13, ground := Ground.phase }], guard := none }) (v := ?_) rfl (by kernel_rfl) (by kernel_rfl) (by kernel_rfl) (fun _ _ _ h => h) (Or.inl ⟨by rfl, ?_⟩) ?_
        rotate_left
        · intro w'
          go_simp
          try with_reducible rfl
        try simp only [Act.put, List.setIfInBounds_toArray, List.set_cons_zero, List.set_cons_succ]
        refine wpAny_done (by kernel_rfl) ?_ _
        refine NoPanic.normal ?_
        exact h.out r1 r2 a1 n1 c1 w4 hA3.out
      · go_simp
        refine hK10 _ _ ?_
        clear hK10 K10
        try simp only [Act.put, List.setIfInBounds_toArray, List.set_cons_zero, List.set_cons_succ]
        refine wpAny_ready (rs := [6]) (by kernel_rfl) (by simp) ?_
        refine (AllReady.cons (o := { dst := some 65, op := Op.call { callee := Callee.value (Operand.func 25), args := #[Operand.tmp 59, Operand.tmp 60, Operand.tmp 62, Operand.tmp 64], argTypes := #[26, 9, 3, 23] }, type := 28, pos := "law.go:67", after := #[{ on := 0, ground := Ground.data }, { on := 1, ground := Ground.data }, { on := 3, ground := Ground.data }, { on := 5, ground := Ground.data }, { on := 5, ground := Ground.chain }], guard := none }) rfl (fun K6 hK6 => ?_) AllReady.nil)
        go_simp
        refine (P2.out a1 n1 c1 _ hA1.out).mono ?_
        rintro e w3 ⟨r1, rfl, hA2, q2⟩
        replace hA2 := hide hA2
        refine hK6 _ _ ?_
        clear hK6 K6
        try simp only [Act.put, List.setIfInBounds_toArray, List.set_cons_zero, List.set_cons_succ]
        refine wpAny_ready (rs := [12]) (by kernel_rfl) (by simp) ?_
        refine (AllReady.cons (o := { dst := some 71, op := Op.call { callee := Callee.value (Operand.func 49), args := #[Operand.tmp 66, Operand.tmp 67, Operand.tmp 69, Operand.tmp 70], argTypes := #[38, 9, 3, 23] }, type := 28, pos := "law.go:67", after := #[{ on := 7, ground := Ground.data }, { on := 8, ground := Ground.data }, { on := 10, ground := Ground.data }, { on := 11, ground := Ground.data }, { on := 6, ground := Ground.chain }], guard := none }) rfl (fun K12 hK12 => ?_) AllReady.nil)
        go_simp
        refine (P3.out r1 _ hA2.out).mono ?_
        rintro e w4 ⟨r2, rfl, hA3⟩
        replace hA3 := hide hA3
        refine hK12 _ _ ?_
        clear hK12 K12
        try simp only [Act.put, List.setIfInBounds_toArray, List.set_cons_zero, List.set_cons_succ]
        refine wpAny_take (i := 13) (oi := { dst := some 72, op := Op.binOp BinOp.eql 28 (Operand.tmp 65) (Operand.tmp 71) 28, type := 4, pos := "law.go:67", after := #[{ on := 6, ground := Ground.data }, { on := 12, ground := Ground.data }], guard := none }) (v := ?_) rfl (by kernel_rfl) (by kernel_rfl) (by kernel_rfl) (fun _ _ _ h => h) (Or.inl ⟨by rfl, ?_⟩) ?_
        rotate_left
        · intro w'
          go_simp
          try with_reducible rfl
        try simp only [Act.put, List.setIfInBounds_toArray, List.set_cons_zero, List.set_cons_succ]
        refine wpAny_take (i := 14) (oi := { dst := some 6, op := Op.assign (Operand.tmp 72), type := 4, pos := "law.go:67", after := #[{ on := 13, ground := Ground.data }, { on := 12, ground := Ground.chain }, { on := 0, ground := Ground.phase }, { on := 1, ground := Ground.phase }, { on := 2, ground := Ground.phase }, { on := 3, ground := Ground.phase }, { on := 4, ground := Ground.phase }, { on := 5, ground := Ground.phase }, { on := 6, ground := Ground.phase }, { on := 7, ground := Ground.phase }, { on := 8, ground := Ground.phase }, { on := 9, ground := Ground.phase }, { on := 10, ground := Ground.phase }, { on := 11, ground := Ground.phase }, { on := 12, ground := Ground.phase }, { on := 13, ground := Ground.phase }], guard := none }) (v := ?_) rfl (by kernel_rfl) (by kernel_rfl) (by kernel_rfl) (fun _ _ _ h => h) (Or.inl ⟨by rfl, ?_⟩) ?_
        rotate_left
        · intro w'
          go_simp
          try with_reducible rfl
        try simp only [Act.put, List.setIfInBounds_toArray, List.set_cons_zero, List.set_cons_succ]
        refine wpAny_done (by kernel_rfl) ?_ _
        refine NoPanic.normal ?_
        exact h.out r1 r2 a1 n1 c1 w4 hA3.out
    · go_simp
      refine hK10 _ _ ?_
      clear hK10 K10
      try simp only [Act.put, List.setIfInBounds_toArray, List.set_cons_zero, List.set_cons_succ]
      refine wpAny_ready (rs := [3]) (by kernel_rfl) (by simp) ?_
      refine (AllReady.cons (o := { dst := some 62, op := Op.load 3 (Operand.tmp 61), type := 3, pos := "law.go:67", after := #[{ on := 2, ground := Ground.data }], guard := none }) rfl (fun K3 hK3 => ?_) AllReady.nil)
      go_simp
      refine hK3 _ _ ?_
      clear hK3 K3
      try simp only [Act.put, List.setIfInBounds_toArray, List.set_cons_zero, List.set_cons_succ]
      refine wpAny_ready (rs := [6]) (by kernel_rfl) (by simp) ?_
      refine (AllReady.cons (o := { dst := some 65, op := Op.call { callee := Callee.value (Operand.func 25), args := #[Operand.tmp 59, Operand.tmp 60, Operand.tmp 62, Operand.tmp 64], argTypes := #[26, 9, 3, 23] }, type := 28, pos := "law.go:67", after := #[{ on := 0, ground := Ground.data }, { on := 1, ground := Ground.data }, { on := 3, ground := Ground.data }, { on := 5, ground := Ground.data }, { on := 5, ground := Ground.chain }], guard := none }) rfl (fun K6 hK6 => ?_) AllReady.nil)
      go_simp
      refine (P2.out a1 n1 c1 _ hA1.out).mono ?_
      rintro e w3 ⟨r1, rfl, hA2, q2⟩
      replace hA2 := hide hA2
      refine hK6 _ _ ?_
      clear hK6 K6
      try simp only [Act.put, List.setIfInBounds_toArray, List.set_cons_zero, List.set_cons_succ]
      refine wpAny_ready (rs := [12]) (by kernel_rfl) (by simp) ?_
      refine (AllReady.cons (o := { dst := some 71, op := Op.call { callee := Callee.value (Operand.func 49), args := #[Operand.tmp 66, Operand.tmp 67, Operand.tmp 69, Operand.tmp 70], argTypes := #[38, 9, 3, 23] }, type := 28, pos := "law.go:67", after := #[{ on := 7, ground := Ground.data }, { on := 8, ground := Ground.data }, { on := 10, ground := Ground.data }, { on := 11, ground := Ground.data }, { on := 6, ground := Ground.chain }], guard := none }) rfl (fun K12 hK12 => ?_) AllReady.nil)
      go_simp
      refine (P3.out r1 _ hA2.out).mono ?_
      rintro e w4 ⟨r2, rfl, hA3⟩
      replace hA3 := hide hA3
      refine hK12 _ _ ?_
      clear hK12 K12
      try simp only [Act.put, List.setIfInBounds_toArray, List.set_cons_zero, List.set_cons_succ]
      refine wpAny_take (i := 13) (oi := { dst := some 72, op := Op.binOp BinOp.eql 28 (Operand.tmp 65) (Operand.tmp 71) 28, type := 4, pos := "law.go:67", after := #[{ on := 6, ground := Ground.data }, { on := 12, ground := Ground.data }], guard := none }) (v := ?_) rfl (by kernel_rfl) (by kernel_rfl) (by kernel_rfl) (fun _ _ _ h => h) (Or.inl ⟨by rfl, ?_⟩) ?_
      rotate_left
      · intro w'
        go_simp
        try with_reducible rfl
      try simp only [Act.put, List.setIfInBounds_toArray, List.set_cons_zero, List.set_cons_succ]
      refine wpAny_take (i := 14) (oi := { dst := some 6, op := Op.assign (Operand.tmp 72), type := 4, pos := "law.go:67", after := #[{ on := 13, ground := Ground.data }, { on := 12, ground := Ground.chain }, { on := 0, ground := Ground.phase }, { on := 1, ground := Ground.phase }, { on := 2, ground := Ground.phase }, { on := 3, ground := Ground.phase }, { on := 4, ground := Ground.phase }, { on := 5, ground := Ground.phase }, { on := 6, ground := Ground.phase }, { on := 7, ground := Ground.phase }, { on := 8, ground := Ground.phase }, { on := 9, ground := Ground.phase }, { on := 10, ground := Ground.phase }, { on := 11, ground := Ground.phase }, { on := 12, ground := Ground.phase }, { on := 13, ground := Ground.phase }], guard := none }) (v := ?_) rfl (by kernel_rfl) (by kernel_rfl) (by kernel_rfl) (fun _ _ _ h => h) (Or.inl ⟨by rfl, ?_⟩) ?_
      rotate_left
      · intro w'
        go_simp
        try with_reducible rfl
      try simp only [Act.put, List.setIfInBounds_toArray, List.set_cons_zero, List.set_cons_succ]
      refine wpAny_done (by kernel_rfl) ?_ _
      refine NoPanic.normal ?_
      exact h.out r1 r2 a1 n1 c1 w4 hA3.out
  · go_simp
    refine hK10 _ _ ?_
    clear hK10 K10
    try simp only [Act.put, List.setIfInBounds_toArray, List.set_cons_zero, List.set_cons_succ]
    refine wpAny_ready (rs := [3, 5]) (by kernel_rfl) (by simp) ?_
    refine (AllReady.cons (o := { dst := some 62, op := Op.load 3 (Operand.tmp 61), type := 3, pos := "law.go:67", after := #[{ on := 2, ground := Ground.data }], guard := none }) rfl (fun K3 hK3 => ?_) (AllReady.cons (o := { dst := some 64, op := Op.call { callee := Callee.value (Operand.func 47), args := #[Operand.tmp 63], argTypes := #[23] }, type := 23, pos := "law.go:67", after := #[{ on := 4, ground := Ground.data }], guard := none }) rfl (fun K5 hK5 => ?_) AllReady.nil))
    · go_simp
      refine hK3 _ _ ?_
      clear hK3 K3
      try simp only [Act.put, List.setIfInBounds_toArray, List.set_cons_zero, List.set_cons_succ]
      refine wpAny_ready (rs := [5]) (by kernel_rfl) (by simp) ?_
      refine (AllReady.cons (o := { dst := some 64, op := Op.call { callee := Callee.value (Operand.func 47), args := #[Operand.tmp 63], argTypes := #[23] }, type := 23, pos := "law.go:67", after := #[{ on := 4, ground := Ground.data }], guard := none }) rfl (fun K5 hK5 => ?_) AllReady.nil)
      go_simp
      refine (P1.out _ rfl).mono ?_
      rintro e w2 ⟨a1, n1, c1, rfl, hA1, q1⟩
      replace hA1 := hide hA1
      refine hK5 _ _ ?_
      clear hK5 K5
      try simp only [Act.put, List.setIfInBounds_toArray, List.set_cons_zero, List.set_cons_succ]
      refine wpAny_ready (rs := [6]) (by kernel_rfl) (by simp) ?_
      refine (AllReady.cons (o := { dst := some 65, op := Op.call { callee := Callee.value (Operand.func 25), args := #[Operand.tmp 59, Operand.tmp 60, Operand.tmp 62, Operand.tmp 64], argTypes := #[26, 9, 3, 23] }, type := 28, pos := "law.go:67", after := #[{ on := 0, ground := Ground.data }, { on := 1, ground := Ground.data }, { on := 3, ground := Ground.data }, { on := 5, ground := Ground.data }, { on := 5, ground := Ground.chain }], guard := none }) rfl (fun K6 hK6 => ?_) AllReady.nil)
      go_simp
      refine (P2.out a1 n1 c1 _ hA1.out).mono ?_
      rintro e w3 ⟨r1, rfl, hA2, q2⟩
      replace hA2 := hide hA2
      refine hK6 _ _ ?_
      clear hK6 K6
      try simp only [Act.put, List.setIfInBounds_toArray, List.set_cons_zero, List.set_cons_succ]
      refine wpAny_ready (rs := [12]) (by kernel_rfl) (by simp) ?_
      refine (AllReady.cons (o := { dst := some 71, op := Op.call { callee := Callee.value (Operand.func 49), args := #[Operand.tmp 66, Operand.tmp 67, Operand.tmp 69, Operand.tmp 70], argTypes := #[38, 9, 3, 23] }, type := 28, pos := "law.go:67", after := #[{ on := 7, ground := Ground.data }, { on := 8, ground := Ground.data }, { on := 10, ground := Ground.data }, { on := 11, ground := Ground.data }, { on := 6, ground := Ground.chain }], guard := none }) rfl (fun K12 hK12 => ?_) AllReady.nil)
      go_simp
      refine (P3.out r1 _ hA2.out).mono ?_
      rintro e w4 ⟨r2, rfl, hA3⟩
      replace hA3 := hide hA3
      refine hK12 _ _ ?_
      clear hK12 K12
      try simp only [Act.put, List.setIfInBounds_toArray, List.set_cons_zero, List.set_cons_succ]
      refine wpAny_take (i := 13) (oi := { dst := some 72, op := Op.binOp BinOp.eql 28 (Operand.tmp 65) (Operand.tmp 71) 28, type := 4, pos := "law.go:67", after := #[{ on := 6, ground := Ground.data }, { on := 12, ground := Ground.data }], guard := none }) (v := ?_) rfl (by kernel_rfl) (by kernel_rfl) (by kernel_rfl) (fun _ _ _ h => h) (Or.inl ⟨by rfl, ?_⟩) ?_
      rotate_left
      · intro w'
        go_simp
        try with_reducible rfl
      try simp only [Act.put, List.setIfInBounds_toArray, List.set_cons_zero, List.set_cons_succ]
      refine wpAny_take (i := 14) (oi := { dst := some 6, op := Op.assign (Operand.tmp 72), type := 4, pos := "law.go:67", after := #[{ on := 13, ground := Ground.data }, { on := 12, ground := Ground.chain }, { on := 0, ground := Ground.phase }, { on := 1, ground := Ground.phase }, { on := 2, ground := Ground.phase }, { on := 3, ground := Ground.phase }, { on := 4, ground := Ground.phase }, { on := 5, ground := Ground.phase }, { on := 6, ground := Ground.phase }, { on := 7, ground := Ground.phase }, { on := 8, ground := Ground.phase }, { on := 9, ground := Ground.phase }, { on := 10, ground := Ground.phase }, { on := 11, ground := Ground.phase }, { on := 12, ground := Ground.phase }, { on := 13, ground := Ground.phase }], guard := none }) (v := ?_) rfl (by kernel_rfl) (by kernel_rfl) (by kernel_rfl) (fun _ _ _ h => h) (Or.inl ⟨by rfl, ?_⟩) ?_
      rotate_left
      · intro w'
        go_simp
        try with_reducible rfl
      try simp only [Act.put, List.setIfInBounds_toArray, List.set_cons_zero, List.set_cons_succ]
      refine wpAny_done (by kernel_rfl) ?_ _
      refine NoPanic.normal ?_
      exact h.out r1 r2 a1 n1 c1 w4 hA3.out
    · go_simp
      refine (P1.out _ rfl).mono ?_
      rintro e w2 ⟨a1, n1, c1, rfl, hA1, q1⟩
      replace hA1 := hide hA1
      refine hK5 _ _ ?_
      clear hK5 K5
      try simp only [Act.put, List.setIfInBounds_toArray, List.set_cons_zero, List.set_cons_succ]
      refine wpAny_ready (rs := [3]) (by kernel_rfl) (by simp) ?_
      refine (AllReady.cons (o := { dst := some 62, op := Op.load 3 (Operand.tmp 61), type := 3, pos := "law.go:67", after := #[{ on := 2, ground := Ground.data }], guard := none }) rfl (fun K3 hK3 => ?_) AllReady.nil)
      go_simp
      refine hK3 _ _ ?_
      clear hK3 K3
      try simp only [Act.put, List.setIfInBounds_toArray, List.set_cons_zero, List.set_cons_succ]
      refine wpAny_ready (rs := [6]) (by kernel_rfl) (by simp) ?_
      refine (AllReady.cons (o := { dst := some 65, op := Op.call { callee := Callee.value (Operand.func 25), args := #[Operand.tmp 59, Operand.tmp 60, Operand.tmp 62, Operand.tmp 64], argTypes := #[26, 9, 3, 23] }, type := 28, pos := "law.go:67", after := #[{ on := 0, ground := Ground.data }, { on := 1, ground := Ground.data }, { on := 3, ground := Ground.data }, { on := 5, ground := Ground.data }, { on := 5, ground := Ground.chain }], guard := none }) rfl (fun K6 hK6 => ?_) AllReady.nil)
      go_simp
      refine (P2.out a1 n1 c1 _ hA1.out).mono ?_
      rintro e w3 ⟨r1, rfl, hA2, q2⟩
      replace hA2 := hide hA2
      refine hK6 _ _ ?_
      clear hK6 K6
      try simp only [Act.put, List.setIfInBounds_toArray, List.set_cons_zero, List.set_cons_succ]
      refine wpAny_ready (rs := [12]) (by kernel_rfl) (by simp) ?_
      refine (AllReady.cons (o := { dst := some 71, op := Op.call { callee := Callee.value (Operand.func 49), args := #[Operand.tmp 66, Operand.tmp 67, Operand.tmp 69, Operand.tmp 70], argTypes := #[38, 9, 3, 23] }, type := 28, pos := "law.go:67", after := #[{ on := 7, ground := Ground.data }, { on := 8, ground := Ground.data }, { on := 10, ground := Ground.data }, { on := 11, ground := Ground.data }, { on := 6, ground := Ground.chain }], guard := none }) rfl (fun K12 hK12 => ?_) AllReady.nil)
      go_simp
      refine (P3.out r1 _ hA2.out).mono ?_
      rintro e w4 ⟨r2, rfl, hA3⟩
      replace hA3 := hide hA3
      refine hK12 _ _ ?_
      clear hK12 K12
      try simp only [Act.put, List.setIfInBounds_toArray, List.set_cons_zero, List.set_cons_succ]
      refine wpAny_take (i := 13) (oi := { dst := some 72, op := Op.binOp BinOp.eql 28 (Operand.tmp 65) (Operand.tmp 71) 28, type := 4, pos := "law.go:67", after := #[{ on := 6, ground := Ground.data }, { on := 12, ground := Ground.data }], guard := none }) (v := ?_) rfl (by kernel_rfl) (by kernel_rfl) (by kernel_rfl) (fun _ _ _ h => h) (Or.inl ⟨by rfl, ?_⟩) ?_
      rotate_left
      · intro w'
        go_simp
        try with_reducible rfl
      try simp only [Act.put, List.setIfInBounds_toArray, List.set_cons_zero, List.set_cons_succ]
      refine wpAny_take (i := 14) (oi := { dst := some 6, op := Op.assign (Operand.tmp 72), type := 4, pos := "law.go:67", after := #[{ on := 13, ground := Ground.data }, { on := 12, ground := Ground.chain }, { on := 0, ground := Ground.phase }, { on := 1, ground := Ground.phase }, { on := 2, ground := Ground.phase }, { on := 3, ground := Ground.phase }, { on := 4, ground := Ground.phase }, { on := 5, ground := Ground.phase }, { on := 6, ground := Ground.phase }, { on := 7, ground := Ground.phase }, { on := 8, ground := Ground.phase }, { on := 9, ground := Ground.phase }, { on := 10, ground := Ground.phase }, { on := 11, ground := Ground.phase }, { on := 12, ground := Ground.phase }, { on := 13, ground := Ground.phase }], guard := none }) (v := ?_) rfl (by kernel_rfl) (by kernel_rfl) (by kernel_rfl) (fun _ _ _ h => h) (Or.inl ⟨by rfl, ?_⟩) ?_
      rotate_left
      · intro w'
        go_simp
        try with_reducible rfl
      try simp only [Act.put, List.setIfInBounds_toArray, List.set_cons_zero, List.set_cons_succ]
      refine wpAny_done (by kernel_rfl) ?_ _
      refine NoPanic.normal ?_
      exact h.out r1 r2 a1 n1 c1 w4 hA3.out
set_option maxHeartbeats 4000000 in
set_option maxRecDepth 100000 in
theorem reg18_12 (w : World) (d y q : Nat) (s : ByteArray) (n : Int) (k1 : w.cell? ⟨q, 1, none⟩ = some (.int .i64 n)) (A2 : Int → World → Prop) (A3 : World → Prop) (P2 : ∀ (wx : World), wx = w.drew → Calls Try.prog 30 #[.pointer (some ⟨d, 0, none⟩), .string s, .int .i64 n] wx fun e w' => ∃ r1, e = .returned (.int .i64 r1) ∧ A2 r1 w' ∧ w'.cell? ⟨q, 1, none⟩ = some (.int .i64 n)) (P3 : ∀ (r1 : Int) (wx : World), A2 r1 wx → Calls Try.prog 50 #[.pointer (some ⟨y, 0, none⟩), .string s, .int .i64 n] wx fun e w' => ∃ r2, e = .returned (.int .i64 r2) ∧ A3 w')
    (u2 u3 u4 u6 u8 u9 u10 u11 u12 u13 u14 u15 u16 u17 u18 u19 u20 u21 u22 u23 u24 u25 u26 u27 u28 u29 u30 u31 u32 u33 u34 u35 u36 u37 u38 u39 u40 u41 u42 u43 u44 u45 u46 u47 u48 u49 u50 u51 u52 u53 u54 u55 u56 u57 u58 u59 u60 u61 u62 u63 u64 u65 u66 u67 u68 u69 u70 u71 u72 u73 u74 u75 u76 u77 u78 u79 u80 u81 u82 u83 u84 u85 u86 u87 u88 u89 u90 u91 u92 u93 u94 u95 u96 u97 u98 u99 u100 u101 u102 u103 u104 u105 u106 u107 u108 u109 u110 u111 u112 u113 u114 u115 u116 u117 u118 u119 u120 u121 u122 u123 u124 u125 u126 u127 u128 u129 u130 u131 u132 u133 u134 u135 u136 u137 u138 u139 u140 u141 u142 u143 u144 u145 u146 u147 u148 u149 u150 u151 u152 u153 u154 u155 u156 u157 u158 u159 u160 u161 u162 u163 : Value) (Q : Exit → Act → World → Prop)
    (h : ∀ r1 r2 w', A3 w' → Q .normal { tmps := (List.toArray ((.pointer (some ⟨d, 0, none⟩) :: .pointer (some ⟨y, 0, none⟩) :: u2 :: u3 :: u4 :: .pointer (some ⟨q, 0, none⟩) :: .bool (r1 == r2) :: .string s :: u8 :: u9 :: u10 :: u11 :: u12 :: u13 :: u14 :: u15 :: u16 :: u17 :: u18 :: u19 :: u20 :: u21 :: u22 :: u23 :: u24 :: u25 :: u26 :: u27 :: u28 :: u29 :: u30 :: u31 :: u32 :: u33 :: u34 :: u35 :: u36 :: u37 :: u38 :: u39 :: u40 :: u41 :: u42 :: u43 :: u44 :: u45 :: u46 :: u47 :: u48 :: u49 :: u50 :: u51 :: u52 :: u53 :: u54 :: u55 :: u56 :: u57 :: u58 :: u59 :: u60 :: u61 :: u62 :: u63 :: u64 :: u65 :: u66 :: u67 :: u68 :: u69 :: u70 :: u71 :: u72 :: u73 :: u74 :: .pointer (some ⟨d, 0, none⟩) :: .string s :: .pointer (some ⟨q, 1, none⟩) :: .int .i64 n :: .int .i64 r1 :: .pointer (some ⟨y, 0, none⟩) :: .string s :: .pointer (some ⟨q, 1, none⟩) :: .int .i64 n :: .int .i64 r2 :: .bool (r1 == r2) :: u86 :: u87 :: u88 :: u89 :: u90 :: u91 :: u92 :: u93 :: u94 :: u95 :: u96 :: u97 :: u98 :: u99 :: u100 :: u101 :: u102 :: u103 :: u104 :: u105 :: u106 :: u107 :: u108 :: u109 :: u110 :: u111 :: u112 :: u113 :: u114 :: u115 :: u116 :: u117 :: u118 :: u119 :: u120 :: u121 :: u122 :: u123 :: u124 :: u125 :: u126 :: u127 :: u128 :: u129 :: u130 :: u131 :: u132 :: u133 :: u134 :: u135 :: u136 :: u137 :: u138 :: u139 :: u140 :: u141 :: u142 :: u143 :: u144 :: u145 :: u146 :: u147 :: u148 :: u149 :: u150 :: u151 :: u152 :: u153 :: u154 :: u155 :: u156 :: u157 :: u158 :: u159 :: u160 :: u161 :: u162 :: u163 :: []) : List Value)), defers := [] } w') :
    (Code.region 12 #[{ dst := some 75, op := Op.move (Operand.tmp 0), type := 26, pos := "law.go:69", after := #[], guard := none }, { dst := some 76, op := Op.move (Operand.tmp 7), type := 9, pos := "law.go:69", after := #[], guard := none }, { dst := some 77, op := Op.fieldAddr 36 (Operand.tmp 5) 1, type := 0, pos := "law.go:69", after := #[], guard := none }, { dst := some 78, op := Op.load 3 (Operand.tmp 77), type := 3, pos := "law.go:69", after := #[{ on := 2, ground := Ground.data }], guard := none }, { dst := some 79, op := Op.call { callee := Callee.value (Operand.func 30), args := #[Operand.tmp 75, Operand.tmp 76, Operand.tmp 78], argTypes := #[26, 9, 3] }, type := 28, pos := "law.go:69", after := #[{ on := 0, ground := Ground.data }, { on := 1, ground := Ground.data }, { on := 3, ground := Ground.data }], guard := none }, { dst := some 80, op := Op.move (Operand.tmp 1), type := 38, pos := "law.go:69", after := #[], guard := none }, { dst := some 81, op := Op.move (Operand.tmp 7), type := 9, pos := "law.go:69", after := #[], guard := none }, { dst := some 82, op := Op.fieldAddr 36 (Operand.tmp 5) 1, type := 0, pos := "law.go:69", after := #[], guard := none }, { dst := some 83, op := Op.load 3 (Operand.tmp 82), type := 3, pos := "law.go:69", after := #[{ on := 7, ground := Ground.data }], guard := none }, { dst := some 84, op := Op.call { callee := Callee.value (Operand.func 50), args := #[Operand.tmp 80, Operand.tmp 81, Operand.tmp 83], argTypes := #[38, 9, 3] }, type := 28, pos := "law.go:69", after := #[{ on := 5, ground := Ground.data }, { on := 6, ground := Ground.data }, { on := 8, ground := Ground.data }, { on := 4, ground := Ground.chain }], guard := none }, { dst := some 85, op := Op.binOp BinOp.eql 28 (Operand.tmp 79) (Operand.tmp 84) 28, type := 4, pos := "law.go:69", after := #[{ on := 4, ground := Ground.data }, { on := 9, ground := Ground.data }], guard := none }, { dst := some 6, op := Op.assign (Operand.tmp 85), type := 4, pos := "law.go:69", after := #[{ on := 10, ground := Ground.data }, { on := 9, ground := Ground.chain }, { on := 0, ground := Ground.phase }, { on := 1, ground := Ground.phase }, { on := 2, ground := Ground.phase }, { on := 3, ground := Ground.phase }, { on := 4, ground := Ground.phase }, { on := 5, ground := Ground.phase }, { on := 6, ground := Ground.phase }, { on := 7, ground := Ground.phase }, { on := 8, ground := Ground.phase }, { on := 9, ground := Ground.phase }, { on := 10, ground := Ground.phase }], guard := none }] true).wp Try.prog Q { tmps := (List.toArray ((.pointer (some ⟨d, 0, none⟩) :: .pointer (some ⟨y, 0, none⟩) :: u2 :: u3 :: u4 :: .pointer (some ⟨q, 0, none⟩) :: u6 :: .string s :: u8 :: u9 :: u10 :: u11 :: u12 :: u13 :: u14 :: u15 :: u16 :: u17 :: u18 :: u19 :: u20 :: u21 :: u22 :: u23 :: u24 :: u25 :: u26 :: u27 :: u28 :: u29 :: u30 :: u31 :: u32 :: u33 :: u34 :: u35 :: u36 :: u37 :: u38 :: u39 :: u40 :: u41 :: u42 :: u43 :: u44 :: u45 :: u46 :: u47 :: u48 :: u49 :: u50 :: u51 :: u52 :: u53 :: u54 :: u55 :: u56 :: u57 :: u58 :: u59 :: u60 :: u61 :: u62 :: u63 :: u64 :: u65 :: u66 :: u67 :: u68 :: u69 :: u70 :: u71 :: u72 :: u73 :: u74 :: u75 :: u76 :: u77 :: u78 :: u79 :: u80 :: u81 :: u82 :: u83 :: u84 :: u85 :: u86 :: u87 :: u88 :: u89 :: u90 :: u91 :: u92 :: u93 :: u94 :: u95 :: u96 :: u97 :: u98 :: u99 :: u100 :: u101 :: u102 :: u103 :: u104 :: u105 :: u106 :: u107 :: u108 :: u109 :: u110 :: u111 :: u112 :: u113 :: u114 :: u115 :: u116 :: u117 :: u118 :: u119 :: u120 :: u121 :: u122 :: u123 :: u124 :: u125 :: u126 :: u127 :: u128 :: u129 :: u130 :: u131 :: u132 :: u133 :: u134 :: u135 :: u136 :: u137 :: u138 :: u139 :: u140 :: u141 :: u142 :: u143 :: u144 :: u145 :: u146 :: u147 :: u148 :: u149 :: u150 :: u151 :: u152 :: u153 :: u154 :: u155 :: u156 :: u157 :: u158 :: u159 :: u160 :: u161 :: u162 :: u163 :: []) : List Value)), defers := [] } w := by
  replace P2 := hide P2
  replace P3 := hide P3
  replace h := hide h
  refine wp_region_noPanic ?_
  refine wp_region_any (by kernel_rfl) ?_
  change wpAny _ _ _ _ _ _ _ (World.drew w)
  refine wpAny_take (i := 0) (oi := { dst := some 75, op := Op.move (Operand.tmp 0), type := 26, pos := "law.go:69", after := #[], guard := none }) (v := ?_) rfl (by kernel_rfl) (by kernel_rfl) (by kernel_rfl) (fun _ _ _ h => h) (Or.inl ⟨by rfl, ?_⟩) ?_
  rotate_left
  · intro w'
    go_simp
    try with_reducible rfl
  try simp only [Act.put, List.setIfInBounds_toArray, List.set_cons_zero, List.set_cons_succ]
  refine wpAny_take (i := 1) (oi := { dst := some 76, op := Op.move (Operand.tmp 7), type := 9, pos := "law.go:69", after := #[], guard := none }) (v := ?_) rfl (by kernel_rfl) (by kernel_rfl) (by kernel_rfl) (fun _ _ _ h => h) (Or.inl ⟨by rfl, ?_⟩) ?_
  rotate_left
  · intro w'
    go_simp
    try with_reducible rfl
  try simp only [Act.put, List.setIfInBounds_toArray, List.set_cons_zero, List.set_cons_succ]
  refine wpAny_take (i := 2) (oi := { dst := some 77, op := Op.fieldAddr 36 (Operand.tmp 5) 1, type := 0, pos := "law.go:69", after := #[], guard := none }) (v := ?_) rfl (by kernel_rfl) (by kernel_rfl) (by kernel_rfl) (fun _ _ _ h => h) (Or.inl ⟨by rfl, ?_⟩) ?_
  rotate_left
  · intro w'
    go_simp
    try with_reducible rfl
  try simp only [Act.put, List.setIfInBounds_toArray, List.set_cons_zero, List.set_cons_succ]
  refine wpAny_take (i := 5) (oi := { dst := some 80, op := Op.move (Operand.tmp 1), type := 38, pos := "law.go:69", after := #[], guard := none }) (v := ?_) rfl (by kernel_rfl) (by kernel_rfl) (by kernel_rfl) (fun _ _ _ h => h) (Or.inl ⟨by rfl, ?_⟩) ?_
  rotate_left
  · intro w'
    go_simp
    try with_reducible rfl
  try simp only [Act.put, List.setIfInBounds_toArray, List.set_cons_zero, List.set_cons_succ]
  refine wpAny_take (i := 6) (oi := { dst := some 81, op := Op.move (Operand.tmp 7), type := 9, pos := "law.go:69", after := #[], guard := none }) (v := ?_) rfl (by kernel_rfl) (by kernel_rfl) (by kernel_rfl) (fun _ _ _ h => h) (Or.inl ⟨by rfl, ?_⟩) ?_
  rotate_left
  · intro w'
    go_simp
    try with_reducible rfl
  try simp only [Act.put, List.setIfInBounds_toArray, List.set_cons_zero, List.set_cons_succ]
  refine wpAny_take (i := 7) (oi := { dst := some 82, op := Op.fieldAddr 36 (Operand.tmp 5) 1, type := 0, pos := "law.go:69", after := #[], guard := none }) (v := ?_) rfl (by kernel_rfl) (by kernel_rfl) (by kernel_rfl) (fun _ _ _ h => h) (Or.inl ⟨by rfl, ?_⟩) ?_
  rotate_left
  · intro w'
    go_simp
    try with_reducible rfl
  try simp only [Act.put, List.setIfInBounds_toArray, List.set_cons_zero, List.set_cons_succ]
  refine wpAny_ready (rs := [3, 8]) (by kernel_rfl) (by simp) ?_
  refine (AllReady.cons (o := { dst := some 78, op := Op.load 3 (Operand.tmp 77), type := 3, pos := "law.go:69", after := #[{ on := 2, ground := Ground.data }], guard := none }) rfl (fun K3 hK3 => ?_) (AllReady.cons (o := { dst := some 83, op := Op.load 3 (Operand.tmp 82), type := 3, pos := "law.go:69", after := #[{ on := 7, ground := Ground.data }], guard := none }) rfl (fun K8 hK8 => ?_) AllReady.nil))
  · go_simp
    refine hK3 _ _ ?_
    clear hK3 K3
    try simp only [Act.put, List.setIfInBounds_toArray, List.set_cons_zero, List.set_cons_succ]
    refine wpAny_ready (rs := [4, 8]) (by kernel_rfl) (by simp) ?_
    refine (AllReady.cons (o := { dst := some 79, op := Op.call { callee := Callee.value (Operand.func 30), args := #[Operand.tmp 75, Operand.tmp 76, Operand.tmp 78], argTypes := #[26, 9, 3] }, type := 28, pos := "law.go:69", after := #[{ on := 0, ground := Ground.data }, { on := 1, ground := Ground.data }, { on := 3, ground := Ground.data }], guard := none }) rfl (fun K4 hK4 => ?_) (AllReady.cons (o := { dst := some 83, op := Op.load 3 (Operand.tmp 82), type := 3, pos := "law.go:69", after := #[{ on := 7, ground := Ground.data }], guard := none }) rfl (fun K8 hK8 => ?_) AllReady.nil))
    · go_simp
      refine (P2.out _ rfl).mono ?_
      rintro e w3 ⟨r1, rfl, hA2, q2⟩
      replace hA2 := hide hA2
      refine hK4 _ _ ?_
      clear hK4 K4
      try simp only [Act.put, List.setIfInBounds_toArray, List.set_cons_zero, List.set_cons_succ]
      refine wpAny_ready (rs := [8]) (by kernel_rfl) (by simp) ?_
      refine (AllReady.cons (o := { dst := some 83, op := Op.load 3 (Operand.tmp 82), type := 3, pos := "law.go:69", after := #[{ on := 7, ground := Ground.data }], guard := none }) rfl (fun K8 hK8 => ?_) AllReady.nil)
      go_simp
      refine hK8 _ _ ?_
      clear hK8 K8
      try simp only [Act.put, List.setIfInBounds_toArray, List.set_cons_zero, List.set_cons_succ]
      refine wpAny_ready (rs := [9]) (by kernel_rfl) (by simp) ?_
      refine (AllReady.cons (o := { dst := some 84, op := Op.call { callee := Callee.value (Operand.func 50), args := #[Operand.tmp 80, Operand.tmp 81, Operand.tmp 83], argTypes := #[38, 9, 3] }, type := 28, pos := "law.go:69", after := #[{ on := 5, ground := Ground.data }, { on := 6, ground := Ground.data }, { on := 8, ground := Ground.data }, { on := 4, ground := Ground.chain }], guard := none }) rfl (fun K9 hK9 => ?_) AllReady.nil)
      go_simp
      refine (P3.out r1 _ hA2.out).mono ?_
      rintro e w4 ⟨r2, rfl, hA3⟩
      replace hA3 := hide hA3
      refine hK9 _ _ ?_
      clear hK9 K9
      try simp only [Act.put, List.setIfInBounds_toArray, List.set_cons_zero, List.set_cons_succ]
      refine wpAny_take (i := 10) (oi := { dst := some 85, op := Op.binOp BinOp.eql 28 (Operand.tmp 79) (Operand.tmp 84) 28, type := 4, pos := "law.go:69", after := #[{ on := 4, ground := Ground.data }, { on := 9, ground := Ground.data }], guard := none }) (v := ?_) rfl (by kernel_rfl) (by kernel_rfl) (by kernel_rfl) (fun _ _ _ h => h) (Or.inl ⟨by rfl, ?_⟩) ?_
      rotate_left
      · intro w'
        go_simp
        try with_reducible rfl
      try simp only [Act.put, List.setIfInBounds_toArray, List.set_cons_zero, List.set_cons_succ]
      refine wpAny_take (i := 11) (oi := { dst := some 6, op := Op.assign (Operand.tmp 85), type := 4, pos := "law.go:69", after := #[{ on := 10, ground := Ground.data }, { on := 9, ground := Ground.chain }, { on := 0, ground := Ground.phase }, { on := 1, ground := Ground.phase }, { on := 2, ground := Ground.phase }, { on := 3, ground := Ground.phase }, { on := 4, ground := Ground.phase }, { on := 5, ground := Ground.phase }, { on := 6, ground := Ground.phase }, { on := 7, ground := Ground.phase }, { on := 8, ground := Ground.phase }, { on := 9, ground := Ground.phase }, { on := 10, ground := Ground.phase }], guard := none }) (v := ?_) rfl (by kernel_rfl) (by kernel_rfl) (by kernel_rfl) (fun _ _ _ h => h) (Or.inl ⟨by rfl, ?_⟩) ?_
      rotate_left
      · intro w'
        go_simp
        try with_reducible rfl
      try simp only [Act.put, List.setIfInBounds_toArray, List.set_cons_zero, List.set_cons_succ]
      refine wpAny_done (by kernel_rfl) ?_ _
      refine NoPanic.normal ?_
      exact h.out r1 r2 w4 hA3.out
    · go_simp
      refine hK8 _ _ ?_
      clear hK8 K8
      try simp only [Act.put, List.setIfInBounds_toArray, List.set_cons_zero, List.set_cons_succ]
      refine wpAny_ready (rs := [4]) (by kernel_rfl) (by simp) ?_
      refine (AllReady.cons (o := { dst := some 79, op := Op.call { callee := Callee.value (Operand.func 30), args := #[Operand.tmp 75, Operand.tmp 76, Operand.tmp 78], argTypes := #[26, 9, 3] }, type := 28, pos := "law.go:69", after := #[{ on := 0, ground := Ground.data }, { on := 1, ground := Ground.data }, { on := 3, ground := Ground.data }], guard := none }) rfl (fun K4 hK4 => ?_) AllReady.nil)
      go_simp
      refine (P2.out _ rfl).mono ?_
      rintro e w3 ⟨r1, rfl, hA2, q2⟩
      replace hA2 := hide hA2
      refine hK4 _ _ ?_
      clear hK4 K4
      try simp only [Act.put, List.setIfInBounds_toArray, List.set_cons_zero, List.set_cons_succ]
      refine wpAny_ready (rs := [9]) (by kernel_rfl) (by simp) ?_
      refine (AllReady.cons (o := { dst := some 84, op := Op.call { callee := Callee.value (Operand.func 50), args := #[Operand.tmp 80, Operand.tmp 81, Operand.tmp 83], argTypes := #[38, 9, 3] }, type := 28, pos := "law.go:69", after := #[{ on := 5, ground := Ground.data }, { on := 6, ground := Ground.data }, { on := 8, ground := Ground.data }, { on := 4, ground := Ground.chain }], guard := none }) rfl (fun K9 hK9 => ?_) AllReady.nil)
      go_simp
      refine (P3.out r1 _ hA2.out).mono ?_
      rintro e w4 ⟨r2, rfl, hA3⟩
      replace hA3 := hide hA3
      refine hK9 _ _ ?_
      clear hK9 K9
      try simp only [Act.put, List.setIfInBounds_toArray, List.set_cons_zero, List.set_cons_succ]
      refine wpAny_take (i := 10) (oi := { dst := some 85, op := Op.binOp BinOp.eql 28 (Operand.tmp 79) (Operand.tmp 84) 28, type := 4, pos := "law.go:69", after := #[{ on := 4, ground := Ground.data }, { on := 9, ground := Ground.data }], guard := none }) (v := ?_) rfl (by kernel_rfl) (by kernel_rfl) (by kernel_rfl) (fun _ _ _ h => h) (Or.inl ⟨by rfl, ?_⟩) ?_
      rotate_left
      · intro w'
        go_simp
        try with_reducible rfl
      try simp only [Act.put, List.setIfInBounds_toArray, List.set_cons_zero, List.set_cons_succ]
      refine wpAny_take (i := 11) (oi := { dst := some 6, op := Op.assign (Operand.tmp 85), type := 4, pos := "law.go:69", after := #[{ on := 10, ground := Ground.data }, { on := 9, ground := Ground.chain }, { on := 0, ground := Ground.phase }, { on := 1, ground := Ground.phase }, { on := 2, ground := Ground.phase }, { on := 3, ground := Ground.phase }, { on := 4, ground := Ground.phase }, { on := 5, ground := Ground.phase }, { on := 6, ground := Ground.phase }, { on := 7, ground := Ground.phase }, { on := 8, ground := Ground.phase }, { on := 9, ground := Ground.phase }, { on := 10, ground := Ground.phase }], guard := none }) (v := ?_) rfl (by kernel_rfl) (by kernel_rfl) (by kernel_rfl) (fun _ _ _ h => h) (Or.inl ⟨by rfl, ?_⟩) ?_
      rotate_left
      · intro w'
        go_simp
        try with_reducible rfl
      try simp only [Act.put, List.setIfInBounds_toArray, List.set_cons_zero, List.set_cons_succ]
      refine wpAny_done (by kernel_rfl) ?_ _
      refine NoPanic.normal ?_
      exact h.out r1 r2 w4 hA3.out
  · go_simp
    refine hK8 _ _ ?_
    clear hK8 K8
    try simp only [Act.put, List.setIfInBounds_toArray, List.set_cons_zero, List.set_cons_succ]
    refine wpAny_ready (rs := [3]) (by kernel_rfl) (by simp) ?_
    refine (AllReady.cons (o := { dst := some 78, op := Op.load 3 (Operand.tmp 77), type := 3, pos := "law.go:69", after := #[{ on := 2, ground := Ground.data }], guard := none }) rfl (fun K3 hK3 => ?_) AllReady.nil)
    go_simp
    refine hK3 _ _ ?_
    clear hK3 K3
    try simp only [Act.put, List.setIfInBounds_toArray, List.set_cons_zero, List.set_cons_succ]
    refine wpAny_ready (rs := [4]) (by kernel_rfl) (by simp) ?_
    refine (AllReady.cons (o := { dst := some 79, op := Op.call { callee := Callee.value (Operand.func 30), args := #[Operand.tmp 75, Operand.tmp 76, Operand.tmp 78], argTypes := #[26, 9, 3] }, type := 28, pos := "law.go:69", after := #[{ on := 0, ground := Ground.data }, { on := 1, ground := Ground.data }, { on := 3, ground := Ground.data }], guard := none }) rfl (fun K4 hK4 => ?_) AllReady.nil)
    go_simp
    refine (P2.out _ rfl).mono ?_
    rintro e w3 ⟨r1, rfl, hA2, q2⟩
    replace hA2 := hide hA2
    refine hK4 _ _ ?_
    clear hK4 K4
    try simp only [Act.put, List.setIfInBounds_toArray, List.set_cons_zero, List.set_cons_succ]
    refine wpAny_ready (rs := [9]) (by kernel_rfl) (by simp) ?_
    refine (AllReady.cons (o := { dst := some 84, op := Op.call { callee := Callee.value (Operand.func 50), args := #[Operand.tmp 80, Operand.tmp 81, Operand.tmp 83], argTypes := #[38, 9, 3] }, type := 28, pos := "law.go:69", after := #[{ on := 5, ground := Ground.data }, { on := 6, ground := Ground.data }, { on := 8, ground := Ground.data }, { on := 4, ground := Ground.chain }], guard := none }) rfl (fun K9 hK9 => ?_) AllReady.nil)
    go_simp
    refine (P3.out r1 _ hA2.out).mono ?_
    rintro e w4 ⟨r2, rfl, hA3⟩
    replace hA3 := hide hA3
    refine hK9 _ _ ?_
    clear hK9 K9
    try simp only [Act.put, List.setIfInBounds_toArray, List.set_cons_zero, List.set_cons_succ]
    refine wpAny_take (i := 10) (oi := { dst := some 85, op := Op.binOp BinOp.eql 28 (Operand.tmp 79) (Operand.tmp 84) 28, type := 4, pos := "law.go:69", after := #[{ on := 4, ground := Ground.data }, { on := 9, ground := Ground.data }], guard := none }) (v := ?_) rfl (by kernel_rfl) (by kernel_rfl) (by kernel_rfl) (fun _ _ _ h => h) (Or.inl ⟨by rfl, ?_⟩) ?_
    rotate_left
    · intro w'
      go_simp
      try with_reducible rfl
    try simp only [Act.put, List.setIfInBounds_toArray, List.set_cons_zero, List.set_cons_succ]
    refine wpAny_take (i := 11) (oi := { dst := some 6, op := Op.assign (Operand.tmp 85), type := 4, pos := "law.go:69", after := #[{ on := 10, ground := Ground.data }, { on := 9, ground := Ground.chain }, { on := 0, ground := Ground.phase }, { on := 1, ground := Ground.phase }, { on := 2, ground := Ground.phase }, { on := 3, ground := Ground.phase }, { on := 4, ground := Ground.phase }, { on := 5, ground := Ground.phase }, { on := 6, ground := Ground.phase }, { on := 7, ground := Ground.phase }, { on := 8, ground := Ground.phase }, { on := 9, ground := Ground.phase }, { on := 10, ground := Ground.phase }], guard := none }) (v := ?_) rfl (by kernel_rfl) (by kernel_rfl) (by kernel_rfl) (fun _ _ _ h => h) (Or.inl ⟨by rfl, ?_⟩) ?_
    rotate_left
    · intro w'
      go_simp
      try with_reducible rfl
    try simp only [Act.put, List.setIfInBounds_toArray, List.set_cons_zero, List.set_cons_succ]
    refine wpAny_done (by kernel_rfl) ?_ _
    refine NoPanic.normal ?_
    exact h.out r1 r2 w4 hA3.out
end Go.Proofs.Ytgbijkdfhkkieaa
